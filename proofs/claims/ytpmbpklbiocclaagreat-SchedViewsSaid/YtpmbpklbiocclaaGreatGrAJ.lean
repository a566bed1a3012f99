/-
  Texts of this claim joined: CHeap, BlkA, FamB, SetI, Ops1.
-/
import Derived.Test.YtpmbpklbiocclaaGreatGrAD
import Derived.Test.YtpmbpklbiocclaaGreatGrAE
import Derived.Test.YtpmbpklbiocclaaGreatGrAH
import Derived.Test.YtpmbpklbiocclaaGreatGrAI
import Derived.Test.YtpmbpklbiocclaaGreatGrAA
import Derived.Lib.SlicesCompact
import Derived.Lib.RowBridge
import Derived.Test.YtpmbpklbiocclaaGreatGrAF
import Derived.Test.YtpmbpklbiocclaaGreatShelf
import Derived.Test.YtpmbpklbiocclaaGreatGrAG
import Derived.Sort.OwnSortedInts
import Derived.Sort.Grow
import Derived.Lib.OwnBridge
import Derived.Test.YtpmbpklbiocclaaGreatGrAB
import Derived.Test.YtpmbpklbiocclaaGreatChecked

/-
  A cache in memory: its struct, its two maps, its blocks and its changes, and what each of them leads to; which block of memory is whose. What a call leaves that changes nothing else.
-/
namespace Go.Proofs.YtpmbpklbiocclaaGreat
open Go.RowKit

inductive Rl where
  | ca | mb | ml | dv
  | blk (no : Int) | fr (no : Int)
  | chg (id : Int) | bh (id : Int) | dat (id : Int)
  deriving DecidableEq
structure Sl where
  Ad : Option Addr
  nd : Nat
  cd : Nat
  An : Option Addr
  nn : Nat
  cn : Nat
structure CA where
  ca : Nat
  mb : Nat
  ml : Nat
  dv : Nat
  dt : Nat
  nb : Nat
  nl : Nat
  ka : Int → Nat
  ha : Int → Nat
  fv : Int → Value
  hv : Int → Value
  sl : Int → Sl
structure CS where
  dev : Dev
  last : Int
  ended : Int
  kn : Int → Bool
  lf : Int → Bool
  base : Int → List UInt8
  view : Int → List UInt8
  dirty : Int → Int
  free : Int → List Int
  lat : Int → List Int
  live : Int → Bool
  cg : Int → Cg
  waits : Int → Int
  beh : Int → List Int
def ptr (n : Nat) : Value := .pointer (some ⟨n, 0, none⟩)
def ptrs (ha : Int → Nat) (l : List Int) : List Value := l.map fun i => ptr (ha i)
theorem ptrs_len (ha : Int → Nat) (l : List Int) : (ptrs ha l).length = l.length := by simp [ptrs]
theorem ptrs_snoc (ha : Int → Nat) (l : List Int) (i : Int) : ptrs ha l ++ [ptr (ha i)] = ptrs ha (l ++ [i]) := by simp [ptrs]
theorem ptrs_congr {ha ha' : Int → Nat} {l : List Int} (h : ∀ i ∈ l, ha' i = ha i) : ptrs ha' l = ptrs ha l := List.map_congr_left fun i hi => by rw [h i hi]
theorem ptrs_get {ha : Int → Nat} {l : List Int} {k : Nat} (hk : k < l.length) : (ptrs ha l)[k]'(by rw [ptrs_len]; exact hk) = ptr (ha l[k]) := by simp [ptrs]
def pmap (f : Int → Bool) (a : Int → Nat) : Int → Option Value := fun k => if f k then some (ptr (a k)) else none
theorem pmap_in {f : Int → Bool} {a : Int → Nat} {k : Int} (h : f k = true) : (pmap f a k).getD (.pointer none) = ptr (a k) ∧ (pmap f a k).isSome = true := by unfold pmap; rw [if_pos h]; exact ⟨rfl, rfl⟩
theorem pmap_out {f : Int → Bool} {a : Int → Nat} {k : Int} (h : f k = false) : (pmap f a k).getD (.pointer none) = .pointer none ∧ (pmap f a k).isSome = false := by unfold pmap; rw [if_neg (by rw [h]; simp)]; exact ⟨rfl, rfl⟩
theorem pmap_upd (f : Int → Bool) (a : Int → Nat) (k : Int) (n : Nat) : updM (pmap f a) k (some (ptr n)) = pmap (updF f k true) (updF a k n) := by
  funext j
  unfold updM pmap updF
  by_cases h : j = k
  · simp [h]
  · simp [h]
theorem pmap_del (f : Int → Bool) (a : Int → Nat) (k : Int) : updM (pmap f a) k none = pmap (updF f k false) a := by
  funext j
  unfold updM pmap updF
  by_cases h : j = k
  · simp [h]
  · simp [h]
def ccells (A : CA) (S : CS) : Array Value := #[ptr A.dv, .map (some A.mb), .map (some A.ml), .int .i64 S.last, .int .i64 S.ended]
def hcells (c : Cg) (s : Sl) (n : Int) (v : Value) : Array Value := #[.int .i64 c.id, .int .i64 c.block, .int .i64 c.p.at_, .slice s.Ad s.nd s.cd, .slice s.An s.nn s.cn, .int .i64 n, v]
def Sl.cv (s : Sl) (w : World) (c : Cg) : Prop := CV w c s.Ad s.nd s.cd s.An s.nn s.cn
def Asn (w : World) (ro : Nat → Option Rl) (A : CA) (S : CS) : Rl → Prop
  | .ca => ro A.ca = some .ca ∧ Blk w A.ca 98 (ccells A S)
  | .mb => ro A.mb = some .mb ∧ MapZ (.pointer none) w Tryz.prog 3 A.mb A.nb (pmap S.kn A.ka)
  | .ml => ro A.ml = some .ml ∧ MapZ (.pointer none) w Tryz.prog 3 A.ml A.nl (pmap S.lf A.ha)
  | .dv => ro A.dv = some .dv ∧ ro A.dt = some .dv ∧ DV w A.dv A.dt S.dev
  | .blk k => S.kn k = true → ro (A.ka k) = some (.blk k) ∧ Blk w (A.ka k) 108 (kc (S.base k) (S.view k) (S.dirty k) (A.fv k) (S.lat k)).toArray ∧ (S.base k).length = 256 ∧ (S.view k).length = 256 ∧ (S.lat k).length = 256
  | .fr k => S.kn k = true → (∀ g, (A.fv k).ownBlock = some g → ro g = some (.fr k)) ∧ OwnC w 0 95 (A.fv k) (ptrs A.ha (S.free k))
  | .chg i => S.live i = true → ro (A.ha i) = some (.chg i) ∧ Blk w (A.ha i) 101 (hcells (S.cg i) (A.sl i) (S.waits i) (A.hv i))
  | .bh i => S.live i = true → (∀ g, (A.hv i).ownBlock = some g → ro g = some (.bh i)) ∧ OwnC w 0 95 (A.hv i) (ptrs A.ha (S.beh i))
  | .dat i => S.live i = true → (A.sl i).cv w (S.cg i) ∧ (∀ ad, (A.sl i).Ad = some ad → ro ad.block = some (.dat i)) ∧ ∀ ad, (A.sl i).An = some ad → ro ad.block = some (.dat i)
structure HP (w : World) (ro : Nat → Option Rl) (A : CA) (S : CS) : Prop where
  asn : ∀ r, Asn w ro A S r
  lt : ∀ g r, ro g = some r → g < w.heap.size

theorem OwnC.same {w w' : World} {B : Nat} {e : TypeId} {v : Value} {l : List Value} (h : OwnC w B e v l) (hs : ∀ g, v.ownBlock = some g → w'.heap[g]? = w.heap[g]?) : OwnC w' B e v l := by
  obtain ⟨hl, h | ⟨k, cap, cur, hv, hbk, hk, h⟩⟩ := h
  · exact ⟨hl, Or.inl h⟩
  · exact ⟨hl, Or.inr ⟨k, cap, cur, hv, hbk, (hs k (by rw [hv]; rfl)).trans hk, h⟩⟩
theorem Blk.same {w w' : World} {g : Nat} {t : TypeId} {cs : Array Value} (h : Blk w g t cs) (hs : w'.heap[g]? = w.heap[g]?) : Blk w' g t cs := hs.trans h
theorem DV.same {w w' : World} {b g : Nat} {d : Dev} (h : DV w b g d) (hb : w'.heap[b]? = w.heap[b]?) (hg : w'.heap[g]? = w.heap[g]?) : DV w' b g d :=
  ⟨(by obtain ⟨fz, q, hq⟩ := h.ds; exact ⟨fz, q.same hb, hq⟩), h.bks, h.blk.same hg, h.ne, h.len, h.fuse⟩
theorem CV.same {w w' : World} {c : Cg} {Ad : Option Addr} {nd cd : Nat} {An : Option Addr} {nn cn : Nat} (h : CV w c Ad nd cd An nn cn) (h1 : ∀ ad, Ad = some ad → w'.heap[ad.block]? = w.heap[ad.block]?) (h2 : ∀ ad, An = some ad → w'.heap[ad.block]? = w.heap[ad.block]?) : CV w' c Ad nd cd An nn cn :=
  ⟨h.lo0, h.hi0, h.lo1, h.hi1, ⟨h.p.lo, h.p.hi, h.p.len, h.p.cap, h.p.max, RB.same h.p.read fun _ ad e => h1 ad e⟩, h.len, h.cap, h.max, RC.same h.read fun _ ad e => h2 ad e, h.nb⟩
section
variable {w w' w'' : World} {ro ro' ro'' : Nat → Option Rl} {A A' : CA} {S S' : CS} {r : Rl}
theorem Asn.frame (h : Asn w ro A S r) (hk : ∀ g, ro g = some r → w'.heap[g]? = w.heap[g]? ∧ ro' g = some r) : Asn w' ro' A S r := by
  cases r with
  | ca => exact ⟨(hk _ h.1).2, h.2.same (hk _ h.1).1⟩
  | mb => exact ⟨(hk _ h.1).2, h.2.same (hk _ h.1).1⟩
  | ml => exact ⟨(hk _ h.1).2, h.2.same (hk _ h.1).1⟩
  | dv => exact ⟨(hk _ h.1).2, (hk _ h.2.1).2, h.2.2.same (hk _ h.1).1 (hk _ h.2.1).1⟩
  | blk k => exact fun hq => ⟨(hk _ (h hq).1).2, (h hq).2.1.same (hk _ (h hq).1).1, (h hq).2.2⟩
  | fr k => exact fun hq => ⟨fun g hg => (hk _ ((h hq).1 g hg)).2, (h hq).2.same fun g hg => (hk _ ((h hq).1 g hg)).1⟩
  | chg i => exact fun hq => ⟨(hk _ (h hq).1).2, (h hq).2.same (hk _ (h hq).1).1⟩
  | bh i => exact fun hq => ⟨fun g hg => (hk _ ((h hq).1 g hg)).2, (h hq).2.same fun g hg => (hk _ ((h hq).1 g hg)).1⟩
  | dat i => exact fun hq => ⟨CV.same (h hq).1 (fun ad e => (hk _ ((h hq).2.1 ad e)).1) (fun ad e => (hk _ ((h hq).2.2 ad e)).1), fun ad e => (hk _ ((h hq).2.1 ad e)).2, fun ad e => (hk _ ((h hq).2.2 ad e)).2⟩
theorem HP.turn (h : HP w ro A S) (R : Rl → Prop) (hs : w.heap.size ≤ w'.heap.size) (hw : ∀ g r, ro g = some r → ¬ R r → w'.heap[g]? = w.heap[g]?) (hro : ∀ g, g < w.heap.size → ro' g = ro g) (hnew : ∀ g r, w.heap.size ≤ g → ro' g = some r → g < w'.heap.size)
    (hc : ∀ r, ¬ R r → Asn w' ro' A S r → Asn w' ro' A' S' r) (h0 : ∀ r, R r → Asn w' ro' A' S' r) : HP w' ro' A' S' where
  asn r := by
    rcases Classical.em (R r) with hr | hr
    · exact h0 r hr
    · exact hc r hr ((h.asn r).frame fun g hg => ⟨hw g r hg hr, (hro g (h.lt g r hg)).trans hg⟩)
  lt g r hg := by
    rcases Nat.lt_or_ge g w.heap.size with hl | hl
    · omega
    · exact hnew g r hl hg
theorem HP.none_ge (h : HP w ro A S) {g : Nat} (hg : w.heap.size ≤ g) : ro g = none := by
  cases e : ro g with
  | none => rfl
  | some r => have := h.lt g r e; omega
theorem HP.same (h : HP w ro A S) (hs : w.heap.size ≤ w'.heap.size) (hw : ∀ g r, ro g = some r → w'.heap[g]? = w.heap[g]?) : HP w' ro A S :=
  ⟨fun r => (h.asn r).frame fun g hg => ⟨hw g r hg, hg⟩, fun g r hg => by have := h.lt g r hg; omega⟩
theorem HP.ext (h : HP w ro A S) (hb : Below w.heap.size w w') : HP w' ro A S := h.same hb.size fun g r hg => hb.block g (h.lt g r hg)
theorem HP.drew (h : HP w ro A S) (n : Nat) : HP (w.drewN n) ro A S := h.ext (bdrew w n)
theorem HP.only_none (h : HP w ro A S) {g : Nat} (ho : Only w w' g) (hg : ro g = none) : HP w' ro A S :=
  h.same (Nat.le_of_eq ho.size.symm) fun k r hk => ho.block k (fun e => by subst e; rw [hg] at hk; cases hk)

structure Tr (ro ro' : Nat → Option Rl) (w w' : World) : Prop where
  os : w'.os = w.os
  tape : w'.tape = w.tape
  output : w'.output = w.output
  size : w.heap.size ≤ w'.heap.size
  keep : ∀ g, g < w.heap.size → ro g = none → ro' g = none ∧ w'.heap[g]? = w.heap[g]?
theorem Tr.refl (ro : Nat → Option Rl) (w : World) : Tr ro ro w w := ⟨rfl, rfl, rfl, Nat.le_refl _, fun _ _ h => ⟨h, rfl⟩⟩
theorem Tr.trans (h : Tr ro ro' w w') (k : Tr ro' ro'' w' w'') : Tr ro ro'' w w'' :=
  ⟨k.os.trans h.os, k.tape.trans h.tape, k.output.trans h.output, Nat.le_trans h.size k.size, fun g hg hn => by
    obtain ⟨h1, h2⟩ := h.keep g hg hn
    obtain ⟨h3, h4⟩ := k.keep g (Nat.lt_of_lt_of_le hg h.size) h1
    exact ⟨h3, h4.trans h2⟩⟩
theorem Tr.of_below (ro : Nat → Option Rl) (h : Below w.heap.size w w') : Tr ro ro w w' := ⟨h.os, h.tape, h.output, h.size, fun g hg hn => ⟨hn, h.block g hg⟩⟩
theorem Tr.bel (h : Tr ro ro' w w') (k : Below w'.heap.size w' w'') : Tr ro ro' w w'' := h.trans (Tr.of_below ro' k)
theorem Tr.of_only {g : Nat} (h : Only w w' g) (hg : ro g ≠ none) : Tr ro ro w w' :=
  ⟨h.os, h.tape, h.output, Nat.le_of_eq h.size.symm, fun k _ hk => ⟨hk, h.block k (fun e => hg (by rw [← e]; exact hk))⟩⟩
theorem Tr.only (h : Tr ro ro' w w') {g : Nat} (k : Only w' w'' g) (hg : ro' g ≠ none) : Tr ro ro' w w'' := h.trans (Tr.of_only k hg)
theorem Tr.new (h : Tr ro ro' w w') {g : Nat} (k : Only w' w'' g) (hg : w.heap.size ≤ g) : Tr ro ro' w w'' :=
  ⟨k.os.trans h.os, k.tape.trans h.tape, k.output.trans h.output, by rw [k.size]; exact h.size, fun i hi hn => by
    obtain ⟨h1, h2⟩ := h.keep i hi hn
    exact ⟨h1, (k.block i (by omega)).trans h2⟩⟩
theorem Tr.drew (ro : Nat → Option Rl) (w : World) (n : Nat) : Tr ro ro w (w.drewN n) := Tr.of_below ro (bdrew w n)
theorem Tr.own (h : Tr ro ro' w w') (hr : ∀ g, g < w.heap.size → ro'' g = ro' g) : Tr ro ro'' w w' :=
  ⟨h.os, h.tape, h.output, h.size, fun g hg hn => by
    obtain ⟨h1, h2⟩ := h.keep g hg hn
    exact ⟨(hr g hg).trans h1, h2⟩⟩
theorem Tr.of_grown {b : Option Nat} (h : w.grownBy w' b) (hb : ∀ g, b = some g → ro g ≠ none) : Tr ro ro w w' :=
  ⟨h.os, h.tape, h.output, h.size, fun g hg hn => ⟨hn, h.block g hg (fun e => hb g e.symm hn)⟩⟩
theorem Tr.below {B : Nat} (h : Tr ro ro' w w') (hB : B ≤ w.heap.size) (hl : ∀ g r, ro g = some r → B ≤ g) : Below B w w' :=
  ⟨h.os, h.tape, h.output, h.size, fun g hg => (h.keep g (by omega) (by
    cases e : ro g with
    | none => rfl
    | some r => have := hl g r e; omega)).2⟩
theorem Tr.low {B : Nat} (h : Tr ro ro' w w') (hB : B ≤ w.heap.size) (hl : ∀ g r, ro g = some r → B ≤ g) : ∀ g r, ro' g = some r → B ≤ g := fun g r hg => by
  rcases Nat.lt_or_ge g B with hlt | hge
  · have h1 : ro g = none := by
      cases e : ro g with
      | none => rfl
      | some r => have := hl g r e; omega
    rw [(h.keep g (by omega) h1).1] at hg
    cases hg
  · exact hge
theorem Blk.tr {g : Nat} {t : TypeId} {cs : Array Value} (h : Blk w g t cs) (k : Tr ro ro' w w') (hn : ro g = none) : Blk w' g t cs := (k.keep g h.lt hn).2.trans h
end

section
variable {w w' w'' : World} {ro : Nat → Option Rl} {A : CA} {S : CS}
theorem HP.blkLen (h : HP w ro A S) {k : Int} (hk : S.kn k = true) : (S.base k).length = 256 ∧ (S.view k).length = 256 ∧ (S.lat k).length = 256 := (h.asn (.blk k) hk).2.2
theorem HP.cc (h : HP w ro A S) : Blk w A.ca 98 (ccells A S) := (h.asn .ca).2
theorem HP.kb (h : HP w ro A S) {k : Int} (hk : S.kn k = true) : Blk w (A.ka k) 108 (kc (S.base k) (S.view k) (S.dirty k) (A.fv k) (S.lat k)).toArray := (h.asn (.blk k) hk).2.1
theorem HP.hb (h : HP w ro A S) {i : Int} (hi : S.live i = true) : Blk w (A.ha i) 101 (hcells (S.cg i) (A.sl i) (S.waits i) (A.hv i)) := (h.asn (.chg i) hi).2
theorem HP.fw (h : HP w ro A S) {k : Int} (hk : S.kn k = true) : OwnC w 0 95 (A.fv k) (ptrs A.ha (S.free k)) := (h.asn (.fr k) hk).2
theorem HP.bw (h : HP w ro A S) {i : Int} (hi : S.live i = true) : OwnC w 0 95 (A.hv i) (ptrs A.ha (S.beh i)) := (h.asn (.bh i) hi).2
theorem HP.cvw (h : HP w ro A S) {i : Int} (hi : S.live i = true) : (A.sl i).cv w (S.cg i) := (h.asn (.dat i) hi).1
theorem HP.mbw (h : HP w ro A S) : MapZ (.pointer none) w Tryz.prog 3 A.mb A.nb (pmap S.kn A.ka) := (h.asn .mb).2
theorem HP.mlw (h : HP w ro A S) : MapZ (.pointer none) w Tryz.prog 3 A.ml A.nl (pmap S.lf A.ha) := (h.asn .ml).2
theorem HP.dvw (h : HP w ro A S) : DV w A.dv A.dt S.dev := (h.asn .dv).2.2
theorem HP.setC (h : HP w ro A S) (l e : Int) (ho : Only w w' A.ca) (hb : Blk w' A.ca 98 (ccells A { S with last := l, ended := e })) : HP w' ro A { S with last := l, ended := e } := by
  refine h.turn (fun r => r = .ca) (Nat.le_of_eq ho.size.symm) (fun g r hg hr => ho.block g fun e => hr ?_) (fun _ _ => rfl) (fun g r hg hr => by have := h.lt g r hr; omega) (fun r hr ha => ?_) (fun r hr => ?_)
  · rw [e, (h.asn .ca).1] at hg; injection hg with hg; exact hg.symm
  · cases r <;> first | exact ha | exact absurd rfl hr
  · subst hr; exact ⟨(h.asn .ca).1, hb⟩
theorem HP.setD (h : HP w ro A S) (d : Dev) (ho : Turn w w' A.dv A.dt) (hb : DV w' A.dv A.dt d) : HP w' ro A { S with dev := d } := by
  refine h.turn (fun r => r = .dv) ho.size (fun g r hg hr => ho.block g (h.lt g r hg) (fun e => hr ?_) (fun e => hr ?_)) (fun _ _ => rfl) (fun g r hg hr => by have := h.lt g r hr; have := ho.size; omega) (fun r hr ha => ?_) (fun r hr => ?_)
  · rw [e, (h.asn .dv).1] at hg; injection hg with hg; exact hg.symm
  · rw [e, (h.asn .dv).2.1] at hg; injection hg with hg; exact hg.symm
  · cases r <;> first | exact ha | exact absurd rfl hr
  · subst hr; exact ⟨(h.asn .dv).1, (h.asn .dv).2.1, hb⟩
theorem HP.setK (h : HP w ro A S) {k : Int} (hk : S.kn k = true) (b v : List UInt8) (d : Int) (t : List Int) (hl : b.length = 256 ∧ v.length = 256 ∧ t.length = 256) (ho : Only w w' (A.ka k)) (hb : Blk w' (A.ka k) 108 (kc b v d (A.fv k) t).toArray) :
    HP w' ro A { S with base := updF S.base k b, view := updF S.view k v, dirty := updF S.dirty k d, lat := updF S.lat k t } := by
  have h0 := h.asn (.blk k) hk
  refine h.turn (fun r => r = .blk k) (Nat.le_of_eq ho.size.symm) (fun g r hg hr => ho.block g fun e => hr ?_) (fun _ _ => rfl) (fun g r hg hr => by have := h.lt g r hr; omega) (fun r hr ha => ?_) (fun r hr => ?_)
  · rw [e, h0.1] at hg; injection hg with hg; exact hg.symm
  · cases r with
    | blk j =>
      have hj : j ≠ k := fun e => hr (by rw [e])
      intro hq
      simp only [updF_other _ _ hj]
      exact ha hq
    | _ => exact ha
  · subst hr
    intro _
    simp only [updF_same]
    exact ⟨h0.1, hb, hl⟩
theorem HP.setW (h : HP w ro A S) {i : Int} (hi : S.live i = true) (n : Int) (ho : Only w w' (A.ha i)) (hb : Blk w' (A.ha i) 101 (hcells (S.cg i) (A.sl i) n (A.hv i))) :
    HP w' ro A { S with waits := updF S.waits i n } := by
  have h0 := h.asn (.chg i) hi
  refine h.turn (fun r => r = .chg i) (Nat.le_of_eq ho.size.symm) (fun g r hg hr => ho.block g fun e => hr ?_) (fun _ _ => rfl) (fun g r hg hr => by have := h.lt g r hr; omega) (fun r hr ha => ?_) (fun r hr => ?_)
  · rw [e, h0.1] at hg; injection hg with hg; exact hg.symm
  · cases r with
    | chg j =>
      have hj : j ≠ i := fun e => hr (by rw [e])
      intro hq
      simp only [updF_other _ _ hj]
      exact ha hq
    | _ => exact ha
  · subst hr
    intro _
    simp only [updF_same]
    exact ⟨h0.1, hb⟩
theorem HP.setL (h : HP w ro A S) (f : Int → Bool) (n : Nat) (hw : ∀ g, g < w.heap.size → g ≠ A.ml → w'.heap[g]? = w.heap[g]?) (hs : w.heap.size ≤ w'.heap.size) (hb : MapZ (.pointer none) w' Tryz.prog 3 A.ml n (pmap f A.ha)) :
    HP w' ro { A with nl := n } { S with lf := f } := by
  refine h.turn (fun r => r = .ml) hs (fun g r hg hr => hw g (h.lt g r hg) fun e => hr ?_) (fun _ _ => rfl) (fun g r hg hr => by have := h.lt g r hr; omega) (fun r hr ha => ?_) (fun r hr => ?_)
  · rw [e, (h.asn .ml).1] at hg; injection hg with hg; exact hg.symm
  · cases r <;> first | exact ha | exact absurd rfl hr
  · subst hr; exact ⟨(h.asn .ml).1, hb⟩
end

end Go.Proofs.YtpmbpklbiocclaaGreat

/-
  What sorting and compacting make of numbers; the blocks of a list by places. Plain; no program is named here.
-/
namespace Go.Proofs.YtpmbpklbiocclaaGreat

theorem compactUpToI_rises (d : Array Int) (hs : ∀ i j, i ≤ j → j < d.size → d[i]! ≤ d[j]!) : ∀ m, m ≤ d.size → (Lib.compactUpTo d m).Pairwise (· < ·) ∧ ∀ x, x ∈ Lib.compactUpTo d m ↔ ∃ j, j < m ∧ d[j]! = x
  | 0, _ => by simp [Lib.compactUpTo]
  | m + 1, hm => by
    obtain ⟨h1, h2⟩ := compactUpToI_rises d hs m (by omega)
    rw [Lib.compactUpTo_succ]
    by_cases hk : Lib.keeps d m = true
    · rw [if_pos hk]
      refine ⟨List.pairwise_append.2 ⟨h1, by simp, fun x hx y hy => ?_⟩, fun x => ?_⟩
      · rw [List.mem_singleton] at hy
        subst hy
        obtain ⟨j, hj, rfl⟩ := (h2 x).1 hx
        have hle := hs j m (by omega) (by omega)
        unfold Lib.keeps at hk
        rw [decide_eq_true_eq] at hk
        rcases hk with hk | hk
        · omega
        · have a1 := hs j (m - 1) (by omega) (by omega)
          have a2 := hs (m - 1) m (by omega) (by omega)
          omega
      · rw [List.mem_append, h2, List.mem_singleton]
        constructor
        · rintro (⟨j, hj, e⟩ | rfl)
          · exact ⟨j, by omega, e⟩
          · exact ⟨m, by omega, rfl⟩
        · rintro ⟨j, hj, e⟩
          by_cases hjm : j = m
          · subst hjm; exact Or.inr e.symm
          · exact Or.inl ⟨j, by omega, e⟩
    · rw [if_neg hk, List.append_nil]
      refine ⟨h1, fun x => ?_⟩
      rw [h2]
      constructor
      · rintro ⟨j, hj, e⟩
        exact ⟨j, by omega, e⟩
      · rintro ⟨j, hj, e⟩
        by_cases hjm : j = m
        · subst hjm
          unfold Lib.keeps at hk
          rw [decide_eq_true_eq] at hk
          have h0 : ¬ j = 0 := fun h => hk (Or.inl h)
          have h3 : d[j]! = d[j - 1]! := Classical.byContradiction fun h => hk (Or.inr h)
          exact ⟨j - 1, by omega, by rw [← h3]; exact e⟩
        · exact ⟨j, by omega, e⟩
def sortI (l : List Int) : List Int := Lib.compact (l.mergeSort fun x y => decide (x ≤ y))
theorem sortI_rises (l : List Int) : RiseI (sortI l) ∧ ∀ x, x ∈ sortI l ↔ x ∈ l := by
  have hp : (l.mergeSort fun x y => decide (x ≤ y)).Pairwise (fun x y => decide (x ≤ y) = true) :=
    List.pairwise_mergeSort (fun a b c h1 h2 => by simp only [decide_eq_true_eq] at *; omega) (fun a b => by simp only [Bool.or_eq_true, decide_eq_true_eq]; omega) l
  have hm : ∀ x, x ∈ (l.mergeSort fun x y => decide (x ≤ y)) ↔ x ∈ l := fun x => (List.mergeSort_perm l _).mem_iff
  unfold sortI Lib.compact
  generalize (l.mergeSort fun x y => decide (x ≤ y)) = m at *
  have hs : ∀ i j, i ≤ j → j < m.toArray.size → m.toArray[i]! ≤ m.toArray[j]! := by
    intro i j hij hj
    have hj' : j < m.length := by simpa using hj
    rw [getElem!_pos _ i (by simp; omega), getElem!_pos _ j hj]
    simp only [List.getElem_toArray]
    by_cases e : i = j
    · subst e; exact Int.le_refl _
    · have := List.pairwise_iff_getElem.1 hp i j (by omega) hj' (by omega)
      simpa using this
  obtain ⟨h1, h2⟩ := compactUpToI_rises m.toArray hs m.length (by simp)
  refine ⟨h1, fun x => ?_⟩
  rw [h2, ← hm x, List.mem_iff_getElem]
  constructor
  · rintro ⟨j, hj, e⟩
    exact ⟨j, hj, by rw [← e, getElem!_pos _ j (by simpa using hj)]; simp⟩
  · rintro ⟨j, hj, e⟩
    exact ⟨j, hj, by rw [← e, getElem!_pos _ j (by simpa using hj)]; simp⟩
theorem sortI_blocks (l : List Cg) : sortI (l.map (·.block)) = blocksC l :=
  (sortI_rises _).1.uniq (blocksC_rise l) fun x => by rw [(sortI_rises _).2, blocksC_mem]; simp
def behind (S : List Int) (m : Nat) (b : Int) : Bool := decide (m = 0) || decide (S.getD (m - 1) 0 < b)
def Least (S : List Int) (m : Nat) (l : List Cg) (j : Nat) (x : Int) (f : Bool) : Prop :=
  (f = false ∧ ∀ i (h : i < l.length), i < j → behind S m l[i].block = false) ∨
  (f = true ∧ (∃ i, ∃ h : i < l.length, i < j ∧ l[i].block = x) ∧ behind S m x = true ∧ ∀ i (h : i < l.length), i < j → behind S m l[i].block = true → x ≤ l[i].block)
theorem Least.start (S : List Int) (m : Nat) (l : List Cg) (x : Int) : Least S m l 0 x false := Or.inl ⟨rfl, fun _ _ h => absurd h (Nat.not_lt_zero _)⟩
theorem Least.skip {S : List Int} {m : Nat} {l : List Cg} {j : Nat} {x : Int} {f : Bool} (h : Least S m l j x f) (hj : j < l.length) (hb : behind S m l[j].block = false) : Least S m l (j + 1) x f := by
  rcases h with ⟨rfl, h1⟩ | ⟨rfl, ⟨i, hi, h1, h2⟩, h3, h4⟩
  · refine Or.inl ⟨rfl, fun i hi hij => ?_⟩
    by_cases hc : i = j
    · subst hc; exact hb
    · exact h1 i hi (by omega)
  · refine Or.inr ⟨rfl, ⟨i, hi, by omega, h2⟩, h3, fun k hk hkj hbk => ?_⟩
    by_cases hc : k = j
    · subst hc; rw [hb] at hbk; cases hbk
    · exact h4 k hk (by omega) hbk
theorem Least.keep {S : List Int} {m : Nat} {l : List Cg} {j : Nat} {x : Int} (h : Least S m l j x true) (hj : j < l.length) (hx : x ≤ l[j].block) : Least S m l (j + 1) x true := by
  rcases h with ⟨h0, _⟩ | ⟨_, ⟨i, hi, h1, h2⟩, h3, h4⟩
  · cases h0
  · refine Or.inr ⟨rfl, ⟨i, hi, by omega, h2⟩, h3, fun k hk hkj hbk => ?_⟩
    by_cases hc : k = j
    · subst hc; exact hx
    · exact h4 k hk (by omega) hbk
theorem Least.put {S : List Int} {m : Nat} {l : List Cg} {j : Nat} {x : Int} {f : Bool} (h : Least S m l j x f) (hj : j < l.length) (hb : behind S m l[j].block = true) (hx : f = false ∨ l[j].block < x) : Least S m l (j + 1) l[j].block true := by
  refine Or.inr ⟨rfl, ⟨j, hj, by omega, rfl⟩, hb, fun k hk hkj hbk => ?_⟩
  by_cases hc : k = j
  · subst hc; exact Int.le_refl _
  · rcases h with ⟨_, h1⟩ | ⟨h0, _, _, h4⟩
    · rw [h1 k hk (by omega)] at hbk; cases hbk
    · rcases hx with hx | hx
      · rw [h0] at hx; cases hx
      · have := h4 k hk (by omega) hbk
        omega
theorem blocksC_len (l : List Cg) : (blocksC l).length ≤ l.length := by
  rw [← sortI_blocks]
  unfold sortI
  refine Nat.le_trans (Lib.compact_length_le _) ?_
  rw [List.length_mergeSort, List.length_map]
  exact Nat.le_refl _

end Go.Proofs.YtpmbpklbiocclaaGreat

/-
  A number laid into a block of its own beside a read, in whichever order; slices of numbers sorted and made compact in place. Plain but for the two contracts.
-/
namespace Go.Proofs.YtpmbpklbiocclaaGreat
open Go.RowKit Go.Shelf Go.Sort

section
variable {P : Program} {w : World} {a : Act} {o : Oper} {K : Act → World → Prop} {Q : Exit → Act → World → Prop}
theorem run_build_int (P : Program) (w : World) (t e : TypeId) (ht : P.underlying t = some (.slice e)) (z : Value) (by_ : Nat) (hi : (P.info? e).map (fun i => (i.zero, i.size, i.bytes)) = some (some z, 1, by_)) (X : Int) :
    (Instr.buildSlice t 1 #[(0, .int .i64 X)]).run P w = .ok (.slice (some ⟨w.heap.size, 0, none⟩) 1 1) (w.alloc (.cells #[.int .i64 X] e)) := by
  obtain ⟨i, h1, h2, h3, h4⟩ := info_parts hi
  have hf : Instr.fill (fun i => some (i * 1, 1)) ((Array.range 1).map (z.cells[· % z.cells.size]!)) [(0, .int .i64 X)] = some #[.int .i64 X] := by
    have hsz : ((Array.range 1).map (z.cells[· % z.cells.size]!)).size = 1 := by simp
    generalize (Array.range 1).map (z.cells[· % z.cells.size]!) = cs at hsz
    obtain ⟨l⟩ := cs
    match l, hsz with
    | [c0], _ => simp [Instr.fill, Value.cells]
  exact run_buildSlice w t e 1 _ _ i z ht h1 h2 (by omega) (by omega) (by rw [h3]; exact hf)
theorem ow_build_int (t e : TypeId) (x : Operand) (ho : o.op = .buildSlice t 1 #[(0, x)]) (ht : P.underlying t = some (.slice e)) (z : Value) (by_ : Nat) (hi : (P.info? e).map (fun i => (i.zero, i.size, i.bytes)) = some (some z, 1, by_)) (X : Int) (hx : a.eval x = .int .i64 X)
    (h : K (a.put o.dst (.slice (some ⟨w.heap.size, 0, none⟩) 1 1)) (w.alloc (.cells #[.int .i64 X] e))) : o.wp P a w K Q := by
  unfold Oper.wp execOp
  simp only [ho, hx, Sem.run_bind, List.map_toArray, List.map_cons, List.map_nil, run_build_int P w t e ht z by_ hi X, Result.andThen_ok]
  exact h
theorem WH.readBuild {l : List Oper} {S : World → Prop} {listed : List Bool} {n : Nat} (i j : Nat) (oi oj : Oper) (hi : l[i]? = some oi) (hj : l[j]? = some oj) (v : Value) (t e : TypeId) (x : Operand) (ho : oj.op = .buildSlice t 1 #[(0, x)]) (ht : P.underlying t = some (.slice e)) (z : Value) (by_ : Nat) (hinf : (P.info? e).map (fun i => (i.zero, i.size, i.bytes)) = some (some z, 1, by_))
    (X : Int) (hx1 : a.eval x = .int .i64 X) (hx2 : (a.put oi.dst v).eval x = .int .i64 X)
    (hr : Region.ready .any l.toArray listed.toArray = [i, j]) (hri : Region.ready .any l.toArray (listed.set i true).toArray = [j]) (hrj : Region.ready .any l.toArray (listed.set j true).toArray = [i])
    (hwi : Region.wanted oi (yielded l.toArray a.tmps) = true) (hwj : Region.wanted oj (yielded l.toArray a.tmps) = true) (hwi2 : ∀ u, Region.wanted oi (yielded l.toArray (a.put oj.dst u).tmps) = true) (hwj2 : Region.wanted oj (yielded l.toArray (a.put oi.dst v).tmps) = true)
    (hij : i ≠ j) (hcm : ∀ u, (a.put oj.dst u).put oi.dst v = (a.put oi.dst v).put oj.dst u)
    (hS : S w) (hS1 : ∀ w1, Grew w w1 → S w1) (hl1 : (execOp a.eval oi).run P w = .ok (.value v) w) (hl2 : ∀ u w1, Grew w w1 → (execOp (a.put oj.dst u).eval oi).run P w1 = .ok (.value v) w1)
    (h : Stop (∀ w1, Hid (Grew w w1) → Hid (Blk w1 w.heap.size e #[.int .i64 X]) → WH P l Q S ((listed.set i true).set j true) n ((a.put oi.dst v).put oj.dst (.slice (some ⟨w.heap.size, 0, none⟩) 1 1)) w1)) : WH P l Q S listed (n + 2) a w := by
  have hG := Grew.alloc w (.cells #[.int .i64 X] e)
  have hB := Blk.new w e #[.int .i64 X]
  refine WH.two i j oi oj hi hj hr hwi hwj (fun K hK => ?_) (fun K hK => ?_)
  · unfold Oper.wp
    rw [hl1]
    refine hK _ _ hS ?_
    refine WH.only j oj hj hri hwj2 (fun K hK => ?_)
    exact ow_build_int t e x ho ht z by_ hinf X hx2 (hK _ _ (hS1 _ hG) (h _ hG hB))
  · refine ow_build_int t e x ho ht z by_ hinf X hx1 (hK _ _ (hS1 _ hG) ?_)
    refine WH.only i oi hi hrj (hwi2 _) (fun K hK => ?_)
    unfold Oper.wp
    rw [hl2 _ _ hG]
    refine hK _ _ (hS1 _ hG) ?_
    rw [hcm, List.set_comm _ _ hij.symm]
    exact h _ hG hB
end

theorem Fam.put {ι : Type} [DecidableEq ι] {w w' : World} {B : Nat} {e : TypeId} {S : ι → Value} {X : ι → List Int} (h : Fam w B e S X) {i : ι} {v : Value} {L : List Int} (hl : Lies w w' (S i) v) (ho : OwnC w' B e v (ivals L)) : Fam w' B e (updF S i v) (updF X i L) where
  own j := by
    by_cases hj : j = i
    · subst hj; rw [updF_same, updF_same]; exact ho
    · rw [updF_other _ _ hj, updF_other _ _ hj]
      refine World.ownsRow.kept (h.own j) hl.grown ?_
      cases hb : (S j).ownBlock with
      | none => exact Or.inl rfl
      | some k => exact Or.inr fun e => h.apart j i hj k hb e.symm
  apart j k hjk := by
    have key : ∀ q, q ≠ i → Apart (S q) v := fun q hq m hm e => by
      rcases hl.place with e2 | e2
      · exact h.apart q i hq m hm (e2 ▸ e)
      · rw [e2] at e
        injection e with e
        have := (h.lt q m hm).2
        omega
    by_cases hj : j = i
    · subst hj
      rw [updF_same, updF_other _ _ (Ne.symm hjk)]
      exact (key k (Ne.symm hjk)).symm
    · rw [updF_other _ _ hj]
      by_cases hk : k = i
      · subst hk
        rw [updF_same]
        exact key j hj
      · rw [updF_other _ _ hk]; exact h.apart j k hjk

theorem Fam.grownNo {ι : Type} {w w' : World} {B : Nat} {e : TypeId} {S : ι → Value} {X : ι → List Int} (h : Fam w B e S X) {r : Nat} (hn : NoB S r) (hg : w.grownBy w' (some r)) : Fam w' B e S X :=
  ⟨fun i => World.ownsRow.kept (h.own i) hg (by
    cases hb : (S i).ownBlock with
    | none => exact Or.inl rfl
    | some k => exact Or.inr fun e => hn i (hb.trans e)), h.apart⟩
theorem updF_self {ι β : Type} [DecidableEq ι] (f : ι → β) (i : ι) : updF f i (f i) = f := funext fun j => by
  unfold updF
  split
  · rename_i h; rw [h]
  · rfl
theorem Turns.of_self {ι : Type} [DecidableEq ι] {w w' : World} (G : Nat → Prop) {S : ι → Value} {i : ι} (h : Lies w w' (S i) (S i)) : Turns G w w' S S := by
  have := Turns.of_lies G h
  rwa [updF_self] at this
theorem grown_putRow {w : World} {g q : Nat} {d : Array Int} : w.grownBy (putRow (Value.int .i64) (Sort.ahead w q) g 0 d) (some g) :=
  ⟨rfl, rfl, rfl, by simp [putRow, mapBlock, Sort.ahead], fun k hk hne => by
    have : g ≠ k := fun e => hne (by rw [e])
    simp [putRow, mapBlock, Sort.ahead, Array.getElem?_modify, this]⟩
theorem grown_same (w : World) (r : Option Nat) : w.grownBy w r := ⟨rfl, rfl, rfl, Nat.le_refl _, fun _ _ _ => rfl⟩
theorem sortOwn_any (B : Nat) (v : Value) (zs : List Int) (hl : zs.length < 4611686018427387904) (w : World) (ho : OwnC w B 3 v (ivals zs)) :
    Calls Tryz.prog 62 #[v] w fun e w' => e = .returned (.tuple #[]) ∧ OwnC w' B 3 v (ivals (zs.mergeSort fun x y => decide (x ≤ y))) ∧ Lies w w' v v := by
  have ho' : w.ownsRow B 3 1 v zs.length (zs.map (Value.int .i64)) := by have := ho; unfold OwnC at this; rw [ivals_len] at this; exact this
  have hl2 : (zs.mergeSort fun x y => decide (x ≤ y)).length = zs.length := List.length_mergeSort zs
  rcases ho'.2 with ⟨rfl, h0⟩ | ⟨g, cap, cur, rfl, hbase, hb, h1, h2, h3, h4⟩
  · have hz : zs = [] := List.eq_nil_of_length_eq_zero h0
    subst hz
    refine (Any.slices_Sort_int_none laysSort none 0 w).mono ?_
    rintro e w' ⟨rfl, rfl⟩
    have h0 : ([] : List Int).mergeSort (fun x y => decide (x ≤ y)) = [] := List.eq_nil_of_length_eq_zero hl2
    rw [h0]
    exact ⟨rfl, OwnC.nil_ _ _ _, ⟨grown_same _ _, Or.inl rfl⟩⟩
  · obtain ⟨g', cap', hv, hbg, hgl, hncap, hcm, -, hH⟩ := Lib.holds_of_ownsRow ho' (by simp)
    injection hv with hv1 _ hv3
    injection hv1 with hv1
    injection hv1 with hv1
    subst hv1
    refine (Any.slices_Sort_int laysSort g 0 cap zs w hH hgl hl).mono ?_
    rintro e w' ⟨rfl, n, os, rfl⟩
    have hs := ownsRow_sortedI (n := n) (os := os) (ts := zs.mergeSort fun x y => decide (x ≤ y)) hl2 hbase hb h1 h2 h3
    refine ⟨rfl, ?_, ⟨grownBy_sortedI _, Or.inl rfl⟩⟩
    unfold OwnC
    rw [ivals_len, hl2]
    exact hs
theorem compactOwn_any (B : Nat) (v : Value) (zs : List Int) (hl : zs.length ≤ 9223372036854775807) (w : World) (ho : OwnC w B 3 v (ivals zs)) :
    Calls Tryz.prog 82 #[v] w fun e w' => ∃ v', e = .returned v' ∧ OwnC w' B 3 v' (ivals (Lib.compact zs)) ∧ Lies w w' v v' := by
  have ho' : w.ownsRow B 3 1 v zs.length (zs.map (Value.int .i64)) := by have := ho; unfold OwnC at this; rw [ivals_len] at this; exact this
  have hle : (Lib.compact zs).length ≤ zs.length := Lib.compact_length_le _
  rcases ho'.2 with ⟨rfl, h0⟩ | ⟨g, cap, cur, rfl, hbase, hb, h1, h2, h3, h4⟩
  · have hz : zs = [] := List.eq_nil_of_length_eq_zero h0
    subst hz
    refine (Any.slices_Compact_int_empty laysCompact none 0 w).mono ?_
    rintro e w' ⟨rfl, rfl⟩
    refine ⟨_, rfl, ?_, ⟨grown_same _ _, Or.inl rfl⟩⟩
    have : Lib.compact ([] : List Int) = [] := List.eq_nil_of_length_eq_zero (by simpa using hle)
    rw [this]
    exact OwnC.nil_ _ _ _
  · obtain ⟨g', cap', hv, hbg, hgl, hncap, hcm, -, hH⟩ := Lib.holds_of_ownsRow ho' (by simp)
    injection hv with hv1 _ hv3
    injection hv1 with hv1
    injection hv1 with hv1
    subst hv1
    refine (Any.slices_Compact_int laysCompact g 0 cap zs w hH hl h1).mono ?_
    rintro e w' ⟨rfl, q, rfl⟩
    refine ⟨_, rfl, ?_, ⟨grown_putRow, Or.inl rfl⟩⟩
    have hc := Lib.ownsRow_putRow (q := q) (k := (Lib.compact zs).length) (ys := Lib.compact zs ++ List.replicate (zs.length - (Lib.compact zs).length) 0) ho' (by simp; omega) (by omega)
    rw [List.take_left] at hc
    unfold OwnC
    rw [ivals_len]
    exact hc

end Go.Proofs.YtpmbpklbiocclaaGreat

/-
  A set of numbers of the call's own, as a map to structs of nothing: made, asked, added to. Plain; no program is named here.
-/
namespace Go.Proofs.YtpmbpklbiocclaaGreat
open Go.RowKit Go.Maps Go.ChangeMaps Go.MapKept

def SetI (w : World) (P : Program) (K : TypeId) (b n : Nat) (m : Int → Bool) : Prop :=
  ∃ D : DataW Unit, w.ownsMap P K unitElem b n D ∧ IsMap D ∧ ∀ k, Maps.has D (.int .i64 k) = m k

section
variable {P : Program} {K e t : TypeId} {w w' : World} {b n : Nat} {m : Int → Bool}
theorem SetI.made (w : World) (P : Program) (K : TypeId) : SetI (w.alloc (.map #[] 0)) P K w.heap.size 0 (fun _ => false) :=
  ⟨.map [], World.ownsMap_made w P K _, isMap_empty, fun _ => rfl⟩
theorem SetI.lt (h : SetI w P K b n m) : b < w.heap.size := by obtain ⟨_, h1, _⟩ := h; exact h1.lt
theorem SetI.mono (h : SetI w P K b n m) {n' : Nat} (hn : n ≤ n') : SetI w P K b n' m := by
  obtain ⟨D, h1, h2⟩ := h
  exact ⟨D, h1.mono hn, h2⟩
theorem SetI.congr (h : SetI w P K b n m) {m' : Int → Bool} (e : ∀ k, m k = m' k) : SetI w P K b n m' := by
  obtain ⟨D, h1, h2, h3⟩ := h
  exact ⟨D, h1, h2, fun k => (h3 k).trans (e k)⟩
theorem SetI.same (h : SetI w P K b n m) (hb : w'.heap[b]? = w.heap[b]?) : SetI w' P K b n m := by
  obtain ⟨D, ⟨es, clock, h0, h1⟩, h2⟩ := h
  exact ⟨D, ⟨es, clock, hb.trans h0, h1⟩, h2⟩
theorem SetI.ext (h : SetI w P K b n m) (hb : Below w.heap.size w w') : SetI w' P K b n m := h.same (hb.block b h.lt)
theorem SetI.only (h : SetI w P K b n m) {g : Nat} (ho : Only w w' g) (hg : b ≠ g) : SetI w' P K b n m := h.same (ho.block b hg)
theorem SetI.grown (h : SetI w P K b n m) {row : Option Nat} (hg : w.grownBy w' row) (hne : some b ≠ row) : SetI w' P K b n m := h.same (hg.block b h.lt hne)
theorem SetI.look_ok (h : SetI w P K b n m) (hk : P.underlying K = some (.int .i64)) (ht : P.underlying t = some (.map K e)) (hz : (P.info? e).map (·.zero) = some (some (.agg #[]))) (k : Int) (hw : (Lit.int .i64 k).wf = true) :
    (Instr.lookup t (.map (some b)) (.int .i64 k) true).run P w = .ok (.tuple #[.agg #[], .bool (m k)]) w := by
  obtain ⟨D, h1, _, h4⟩ := h
  obtain ⟨v, ps, hrun, hv⟩ := h1.look_ok (int_keyed hk) ht (zero_of hz w) unitElem_mk (keyOf_int_mk hk hw)
  rw [hrun, (unitElem_inv hv).1, h4 k]
def addM (m : Int → Bool) (k : Int) : Int → Bool := fun j => if j = k then true else m j
theorem SetI.store (h : SetI w P K b n m) (hk : P.underlying K = some (.int .i64)) (ht : P.underlying t = some (.map K e)) (hn : n < maxLen) (k : Int) (hw : (Lit.int .i64 k).wf = true) :
    ∃ w', (Instr.mapUpdate t (.map (some b)) (.int .i64 k) (.agg #[])).run P w = .ok () w' ∧ SetI w' P K b (n + 1) (addM m k) ∧ w.grownBy w' (some b) ∧ w'.heap.size = w.heap.size := by
  obtain ⟨D, h1, h2, h4⟩ := h
  obtain ⟨w', hrun, r1, r2⟩ := h1.store (int_keyed hk) ht hn (keyOf_int_mk hk hw) unitElem_mk
  refine ⟨w', hrun, ⟨_, r1, h2.put _ _, fun j => ?_⟩, r2.grown, ?_⟩
  · unfold addM
    by_cases hj : j = k
    · subst hj
      rw [if_pos rfl, has_put_same (k := .int .i64 j) h2 trivial]
    · rw [if_neg hj, has_put_other (by intro h; injection h with _ h; exact hj h)]
      exact h4 j
  · obtain ⟨es, clock, es', clock', hb, rfl⟩ := r2
    simp [setBlock]
end

section
variable {P : Program} {ops : Array Oper} {rest : List Oper} {o : Oper} {a : Act} {w : World} {L : Act → World → Prop} {Q : Exit → Act → World → Prop} {b n : Nat} {m : Int → Bool}
theorem wpList_set_look (hgd : Region.wanted o (yielded ops a.tmps) = true) (t : TypeId) (x y : Operand) (ho : o.op = .lookup t x y true) (K e : TypeId) (hk : P.underlying K = some (.int .i64)) (ht : P.underlying t = some (.map K e)) (hz : (P.info? e).map (·.zero) = some (some (.agg #[])))
    (hx : a.eval x = .map (some b)) (hM : SetI w P K b n m) (k : Int) (hy : a.eval y = .int .i64 k) (hw : (Lit.int .i64 k).wf = true) (r : Bool) (hr : m k = r)
    (h : wpList P ops Q rest (a.put o.dst (.tuple #[.agg #[], .bool r])) w) : wpList P ops Q (o :: rest) a w := by
  refine wpList_wanted hgd fun K' hK => ?_
  unfold Oper.wp execOp
  simp only [ho, hx, hy, Sem.run_bind, Sem.run_pure, Result.andThen_ok, hM.look_ok hk ht hz k hw, hr]
  exact hK _ _ h
theorem wpList_set_store (hgd : Region.wanted o (yielded ops a.tmps) = true) (t : TypeId) (x y z : Operand) (ho : o.op = .mapUpdate t x y z) (K e : TypeId) (hk : P.underlying K = some (.int .i64)) (ht : P.underlying t = some (.map K e))
    (hx : a.eval x = .map (some b)) (hM : SetI w P K b n m) (hn : n < maxLen) (k : Int) (hy : a.eval y = .int .i64 k) (hw : (Lit.int .i64 k).wf = true) (hz : a.eval z = .agg #[])
    (h : Stop (∀ w', Hid (SetI w' P K b (n + 1) (addM m k)) → Hid (Only w w' b) → wpList P ops Q rest (a.put o.dst undef) w')) : wpList P ops Q (o :: rest) a w := by
  refine wpList_wanted hgd fun K' hK => ?_
  obtain ⟨w', hrun, r1, r2, r3⟩ := hM.store hk ht hn k hw
  unfold Oper.wp execOp
  simp only [ho, hx, hy, hz, Sem.run_bind, Sem.run_pure, Result.andThen_ok, hrun]
  refine hK _ _ (h w' r1 ⟨r2.os, r2.tape, r2.output, r3, fun k hk => ?_⟩)
  rcases Nat.lt_or_ge k w.heap.size with hlt | hge
  · exact r2.block k hlt (fun e => hk (by injection e))
  · rw [Array.getElem?_eq_none (by omega), Array.getElem?_eq_none hge]
end

end Go.Proofs.YtpmbpklbiocclaaGreat

/-
  Laws on one operation: a cut of a slice, a variable of one cell, a set of nothing; what is empty. Cut out of the texts on package ready's Ready.
-/
namespace Go.Proofs.YtpmbpklbiocclaaGreat
open Go.RowKit

theorem Tryz.unitZero : (Tryz.prog.info? 140).map (·.zero) = some (some (.agg #[])) := by kernel_rfl
theorem Tryz.unitSize : (Tryz.prog.info? 140).map (·.size) = some 0 := by kernel_rfl
section
variable {P : Program} {ops : Array Oper} {rest : List Oper} {o : Oper} {a : Act} {w : World} {Q : Exit → Act → World → Prop}
end

section
variable {P : Program} {ops : Array Oper} {rest : List Oper} {o : Oper} {a : Act} {w : World} {Q : Exit → Act → World → Prop}
theorem wpList_make_set (hgd : Region.wanted o (yielded ops a.tmps) = true) (t : TypeId) (ho : o.op = .makeMap t none) (K0 : TypeId)
    (h : Stop (∀ w', Hid (Grew w w') → Hid (SetI w' P K0 w.heap.size 0 (fun _ => false)) → wpList P ops Q rest (a.put o.dst (.map (some w.heap.size))) w')) : wpList P ops Q (o :: rest) a w := by
  refine wpList_wanted hgd fun K hK => ?_
  have hr : (Instr.makeMap t none).run P w = .ok (.map (some w.heap.size)) (w.alloc (.map #[] 0)) := rfl
  unfold Oper.wp execOp
  simp only [ho, Sem.run_bind, Sem.run_pure, Option.map_none, hr, Result.andThen_ok]
  exact hK _ _ (h _ (Grew.alloc w _) (SetI.made w P K0))
end
theorem OwnC.only {w w' : World} {B : Nat} {e : TypeId} {v : Value} {l : List Value} (h : OwnC w B e v l) {g : Nat} (ho : Only w w' g) (hg : g < B) : OwnC w' B e v l := by
  obtain ⟨hl, h | ⟨k, cap, cur, hv, hbk, hk, h⟩⟩ := h
  · exact ⟨hl, Or.inl h⟩
  · exact ⟨hl, Or.inr ⟨k, cap, cur, hv, hbk, Blk.only hk ho (by omega), h⟩⟩
theorem wf_int {z : Int} (h1 : -9223372036854775808 ≤ z) (h2 : z < 9223372036854775808) : (Lit.int .i64 z).wf = true := WalkArith.wf_i64 ⟨h1, by omega⟩
theorem Blk.grown {w w' : World} {g : Nat} {t : TypeId} {cs : Array Value} (h : Blk w g t cs) {row : Option Nat} (hg : w.grownBy w' row) (hne : some g ≠ row) : Blk w' g t cs := (hg.block g h.lt hne).trans h

end Go.Proofs.YtpmbpklbiocclaaGreat
