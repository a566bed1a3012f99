/-
  Texts of this claim joined: StepA, DiskB, DiskC, Dsk1, Dsk2, Dsk3, Dsk4.
-/
import Derived.Test.YtpmbpklbiocclaaGreatGrAC
import Derived.Test.YtpmbpklbiocclaaGreatGrAB
import Derived.Lib.SmallJoins
import Derived.Deep.Slices
import Derived.Deep.Strs
import Derived.Test.YtpmbpklbiocclaaGreatGrAD
import Derived.Test.YtpmbpklbiocclaaGreatPatO
import Derived.Test.YtpmbpklbiocclaaGreatGrAF
import Derived.Defers

/-
  Structs of two numbers and a byte that came in, and slices of these; a struct of one-cell fields that is loaded. Plain; no program is named here.
-/
namespace Go.Proofs.YtpmbpklbiocclaaGreat
open Go.ChangeShapes Go.WideShapes Go.ChangeAt Go.RowKit

structure St3 where
  do_ : Int
  no : Int
  b : UInt8
instance : Inhabited St3 := ⟨⟨0, 0, 0⟩⟩
structure R3 (v0 v1 v2 : Value) (s : St3) : Prop where
  e0 : v0 = .int .i64 s.do_
  e1 : v1 = .int .i64 s.no
  e2 : v2 = .int .u8 (s.b.toNat : Int)
  lo0 : -9223372036854775808 ≤ s.do_
  hi0 : s.do_ < 9223372036854775808
  lo1 : -9223372036854775808 ≤ s.no
  hi1 : s.no < 9223372036854775808
def R3L (w : World) (A : Option Addr) (l : List St3) : Prop :=
  ∀ k (h : k < l.length), ∃ ad v0 v1 v2, A = some ad ∧ w.cell? (ad.add (k * 3)) = some v0 ∧ w.cell? (ad.add (k * 3 + 1)) = some v1 ∧ w.cell? (ad.add (k * 3 + 2)) = some v2 ∧ R3 v0 v1 v2 l[k]
theorem R3L.below {w w' : World} {A : Option Addr} {l : List St3} (h : R3L w A l) (hb : Below w.heap.size w w') : R3L w' A l := fun k hk => by
  obtain ⟨ad, v0, v1, v2, e, h0, h1, h2, hp⟩ := h k hk
  exact ⟨ad, v0, v1, v2, e, by rw [hb.cell (block_lt_of_cell h0), h0], by rw [hb.cell (block_lt_of_cell h1), h1], by rw [hb.cell (block_lt_of_cell h2), h2], hp⟩

section
variable {H : Type} {enc : TypeId × Value → H} {P : Program}
end

section
variable {P : Program} {ops : Array Oper} {rest : List Oper} {o : Oper} {a : Act} {w : World} {K : Act → World → Prop} {Q : Exit → Act → World → Prop}
end

end Go.Proofs.YtpmbpklbiocclaaGreat

/-
  A device of blocks: what its calls tell, and how it is behind them; the document's one, of a byte for each block; and that both go alike. Plain; no program is named here.
-/
namespace Go.Proofs.YtpmbpklbiocclaaGreat
open Go.RowKit

def full (x : UInt8) : List UInt8 := List.replicate 256 x
structure Dev where
  bl : List (List UInt8)
  fuse : Int
  off : Bool
  wr : Nat
  rd : Nat
def Dev.has (d : Dev) (no : Int) : Bool := decide (0 ≤ no) && decide (no < (d.bl.length : Int))
theorem Dev.has_iff {d : Dev} {no : Int} : d.has no = true ↔ 0 ≤ no ∧ no < (d.bl.length : Int) := by unfold Dev.has; simp
def Dev.readE (d : Dev) (no : Int) : Int := if d.off then 12 else if d.has no then 0 else 2
def Dev.readB (d : Dev) (no : Int) : List UInt8 := if d.off then zeros 256 else if d.has no then d.bl.getD no.toNat (zeros 256) else zeros 256
def Dev.read (d : Dev) (no : Int) : Dev := if d.off then d else if d.has no then { d with rd := d.rd + 1 } else d
def Dev.writeE (d : Dev) (no : Int) : Int := if d.off then 12 else if d.has no then (if d.fuse = 0 then 12 else 0) else 2
def Dev.write (d : Dev) (no : Int) (b : List UInt8) : Dev :=
  if d.off then d else if d.has no then (if d.fuse = 0 then { d with off := true } else { d with bl := d.bl.set no.toNat b, fuse := if 0 < d.fuse then d.fuse - 1 else d.fuse, wr := d.wr + 1 }) else d
def Dev.setFuse (d : Dev) (n : Int) : Dev := { d with fuse := if n < 0 then -1 else n }
def Dev.up (d : Dev) : Dev := { d with fuse := -1, off := false }
def devSize (n : Int) : Nat := if n < 16 then 16 else if 512 < n then 512 else n.toNat
theorem devSize_le (n : Int) : 16 ≤ devSize n ∧ devSize n ≤ 512 := by unfold devSize; split <;> (try split) <;> omega
def Dev.new (n : Int) : Dev := ⟨List.replicate (devSize n) (zeros 256), -1, false, 0, 0⟩
theorem Dev.read_bl (d : Dev) (no : Int) : (d.read no).bl = d.bl := by unfold Dev.read; split <;> (try split) <;> rfl
theorem Dev.readB_len {d : Dev} (h : Bks d.bl) (no : Int) : (d.readB no).length = 256 := by
  unfold Dev.readB
  split
  · exact zeros_len 256
  · split
    · rename_i hh
      have := Dev.has_iff.1 hh
      have hk : no.toNat < d.bl.length := by omega
      simp only [List.getD, List.getElem?_eq_getElem hk, Option.getD_some]
      exact h.get hk
    · exact zeros_len 256
structure Doc where
  l : List UInt8
  fuse : Int
  off : Bool
  wr : Nat
  rd : Nat
def Doc.new (n : Int) : Doc := ⟨zeros (devSize n), -1, false, 0, 0⟩
def Doc.dev (x : Doc) : Dev := ⟨x.l.map full, x.fuse, x.off, x.wr, x.rd⟩
def Doc.go (x : Doc) (s : St3) : Doc × UInt8 × Int :=
  if s.do_ = 2 then ({ x with fuse := if s.no < 0 then -1 else s.no }, 0, 0)
  else if s.do_ = 3 then ({ x with fuse := -1, off := false }, 0, 0)
  else if x.off then (x, 0, 12)
  else if s.no < 0 ∨ (x.l.length : Int) ≤ s.no then (x, 0, 2)
  else if s.do_ = 0 then ({ x with rd := x.rd + 1 }, x.l.getD s.no.toNat 0, 0)
  else if x.fuse = 0 then ({ x with off := true }, 0, 12)
  else ({ x with l := x.l.set s.no.toNat s.b, fuse := if 0 < x.fuse then x.fuse - 1 else x.fuse, wr := x.wr + 1 }, 0, 0)
def Dev.go (d : Dev) (s : St3) : Dev × List UInt8 × Int :=
  if s.do_ = 0 then (d.read s.no, d.readB s.no, d.readE s.no)
  else if s.do_ = 1 then (d.write s.no (full s.b), zeros 256, d.writeE s.no)
  else if s.do_ = 2 then (d.setFuse s.no, zeros 256, 0)
  else (d.up, zeros 256, 0)

end Go.Proofs.YtpmbpklbiocclaaGreat

/-
  What a call leaves that changes two blocks alone; the cells of a device. Plain; no program is named here.
-/
namespace Go.Proofs.YtpmbpklbiocclaaGreat
open Go.RowKit

structure Turn (w w' : World) (b g : Nat) : Prop where
  os : w'.os = w.os
  tape : w'.tape = w.tape
  output : w'.output = w.output
  size : w.heap.size ≤ w'.heap.size
  block : ∀ k, k < w.heap.size → k ≠ b → k ≠ g → w'.heap[k]? = w.heap[k]?

section
variable {w w' w'' : World} {b g : Nat}
theorem Turn.refl (w : World) (b g : Nat) : Turn w w b g := ⟨rfl, rfl, rfl, Nat.le_refl _, fun _ _ _ _ => rfl⟩
theorem Turn.of_below (h : Below w.heap.size w w') (b g : Nat) : Turn w w' b g := ⟨h.os, h.tape, h.output, h.size, fun k hk _ _ => h.block k hk⟩
theorem Turn.of_only (h : Only w w' b) (g : Nat) : Turn w w' b g := ⟨h.os, h.tape, h.output, Nat.le_of_eq h.size.symm, fun k _ hb _ => h.block k hb⟩
theorem Turn.of_only2 (h : Only w w' g) (b : Nat) : Turn w w' b g := ⟨h.os, h.tape, h.output, Nat.le_of_eq h.size.symm, fun k _ _ hg => h.block k hg⟩
theorem Turn.trans (h : Turn w w' b g) (k : Turn w' w'' b g) : Turn w w'' b g :=
  ⟨k.os.trans h.os, k.tape.trans h.tape, k.output.trans h.output, Nat.le_trans h.size k.size, fun i hi h1 h2 => (k.block i (Nat.lt_of_lt_of_le hi h.size) h1 h2).trans (h.block i hi h1 h2)⟩
theorem Turn.new (h : Turn w w' b g) {x : Nat} (k : Only w' w'' x) (hx : w.heap.size ≤ x) : Turn w w'' b g :=
  ⟨k.os.trans h.os, k.tape.trans h.tape, k.output.trans h.output, by rw [k.size]; exact h.size, fun i hi h1 h2 => (k.block i (by omega)).trans (h.block i hi h1 h2)⟩
theorem Turn.bel (h : Turn w w' b g) (k : Below w'.heap.size w' w'') : Turn w w'' b g := h.trans (Turn.of_below k b g)
theorem Turn.one (h : Turn w w' b b) (g : Nat) : Turn w w' b g := ⟨h.os, h.tape, h.output, h.size, fun k hk h1 _ => h.block k hk h1 h1⟩
theorem Turn.low {B : Nat} (h : Turn w w' b g) (h0 : B ≤ w.heap.size) (h1 : B ≤ b) (h2 : B ≤ g) : Below B w w' := ⟨h.os, h.tape, h.output, h.size, fun k hk => h.block k (by omega) (by omega) (by omega)⟩
theorem Turn.drew (w : World) (n b g : Nat) : Turn w (w.drewN n) b g := Turn.of_below (bdrew w n) b g
theorem Blk.turn {k : Nat} {t : TypeId} {cs : Array Value} (hb : Blk w k t cs) (h : Turn w w' b g) (h1 : k ≠ b) (h2 : k ≠ g) : Blk w' k t cs := (h.block k hb.lt h1 h2).trans hb
theorem Turn.cell (h : Turn w w' b g) {p : Addr} {v : Value} (hc : w.cell? p = some v) (h1 : p.block ≠ b) (h2 : p.block ≠ g) : w'.cell? p = some v := by
  have hb := h.block p.block (block_lt_of_cell hc) h1 h2
  rw [← hc]
  unfold World.cell?
  rw [hb]
theorem RK.turn {A : Addr} {L : List (List UInt8)} (hr : RK w (some A) L) (h : Turn w w' b g) (h1 : A.block ≠ b) (h2 : A.block ≠ g) : RK w' (some A) L := fun k hk i hi => by
  obtain ⟨ad, x, e, hx, hc⟩ := hr k hk i hi
  injection e with e
  subst e
  exact ⟨_, x, rfl, hx, h.cell hc (by rw [block_of_add]; exact h1) (by rw [block_of_add]; exact h2)⟩
theorem Turn.keeps (h : Turn w w' b g) {S : World → Prop} (_ : S w) (k : ∀ w', Turn w w' b g → S w') : S w' := k w' h
end

def dcells (V : Value) (off fu : Bool) (fz wr rd : Int) : Array Value := #[V, .bool off, .bool fu, .int .i64 fz, .int .i64 wr, .int .i64 rd]
def ticked (r : Int) (k : Nat) (c : Int) (cs : Array Value) : Array Value := if r = 0 then cs.setIfInBounds k (.int .i64 (c + 1)) else cs
def DS (w : World) (T : TypeId) (b : Nat) (V : Value) (d : Dev) : Prop := ∃ fz : Int, Blk w b T (dcells V d.off (decide (0 ≤ d.fuse)) fz d.wr d.rd) ∧ (0 ≤ d.fuse → fz = d.fuse)
theorem DS.turn {w w' : World} {T : TypeId} {b x y : Nat} {V : Value} {d : Dev} (h : DS w T b V d) (k : Turn w w' x y) (h1 : b ≠ x) (h2 : b ≠ y) : DS w' T b V d := by
  obtain ⟨fz, hb, hf⟩ := h
  exact ⟨fz, hb.turn k h1 h2, hf⟩
theorem DS.ext {w w' : World} {T : TypeId} {b : Nat} {V : Value} {d : Dev} (h : DS w T b V d) (k : Below w.heap.size w w') : DS w' T b V d := by
  obtain ⟨fz, hb, hf⟩ := h
  exact ⟨fz, hb.ext k, hf⟩

end Go.Proofs.YtpmbpklbiocclaaGreat

/-
  Contracts of package disk: what is deferred, what is counted, the two that do it.
-/
namespace Go.Proofs.YtpmbpklbiocclaaGreat
open Go.RowKit

theorem Tryz.intSize : (Tryz.prog.info? 3).map (·.size) = some 1 := by kernel_rfl
theorem Tryz.boolSize : (Tryz.prog.info? 4).map (·.size) = some 1 := by kernel_rfl
theorem Tryz.errSize : (Tryz.prog.info? 38).map (·.size) = some 1 := by kernel_rfl

theorem tick_any (ge gc b k : Nat) (r c : Int) (te tc td : TypeId) (cs : Array Value) (u : FrameMode) (w : World) (he : Blk w ge te #[.int .i64 r]) (hc : Blk w gc tc #[.pointer (some ⟨b, k, none⟩)]) (hb : Blk w b td cs)
    (hk : cs[k]? = some (.int .i64 c)) (h0 : 0 ≤ c) (h1 : c < 4611686018427387904) :
    CallsD Tryz.prog 130 #[.pointer (some ⟨ge, 0, none⟩), .pointer (some ⟨gc, 0, none⟩)] u w fun e u' w' => u' = u ∧ (e = .returned (.tuple #[]) ∧ Only w w' b ∧ Blk w' b td (ticked r k c cs) ∧ (r ≠ 0 → w' = w)) := by
  have c1 := he.cell 0
  have c2 := hc.cell 0
  have c3 := hb.cell k
  rw [hk] at c3
  have hkl : k < cs.size := (Array.getElem?_eq_some_iff.1 hk).1
  have hw : IntKind.i64.wrap (c + 1) = c + 1 := IntWalk.i64_in _ (by omega)
  simp only [List.getElem?_toArray, List.getElem?_cons_zero] at c1 c2
  go_enter_d Tryz.func130, Tryz.ntmps130
  by_cases hr : r = 0
  · subst hr
    go_wp2_with (refine wpList_store_cell rfl _ _ _ rfl Tryz.intSize _ _ rfl (.int .i64 (c + 1)) rfl rfl rfl _ _ hb hkl ?_)
    apply Stop.go; intro w1 Ho1 Hb1
    go_wp2_with fail
    go_end0
    exact ⟨rfl, Ho1.out, by unfold ticked; rw [if_pos rfl]; exact Hb1.out, fun h => absurd rfl h⟩
  · have hd : (r == 0) = false := by simpa using hr
    go_wp2_with fail
    go_end0
    exact ⟨rfl, Only.refl _ _, by unfold ticked; rw [if_neg hr]; exact hb, fun _ => rfl⟩

def Dev.burnt (d : Dev) : Dev := if d.fuse = 0 then { d with off := true } else { d with fuse := if 0 < d.fuse then d.fuse - 1 else d.fuse }

theorem dcells_size (V : Value) (off fu : Bool) (fz wr rd : Int) : (dcells V off fu fz wr rd).size = 6 := rfl

set_option maxHeartbeats 400000 in
theorem burn_any (b : Nat) (V : Value) (d : Dev) (w : World) (h : DS w 86 b V d) (hf : d.fuse < 9223372036854775808) :
    Calls Tryz.prog 99 #[.pointer (some ⟨b, 0, none⟩)] w fun e w' => e = .returned (.bool (!decide (d.fuse = 0))) ∧ Only w w' b ∧ DS w' 86 b V d.burnt := by
  obtain ⟨fz, hb, hz⟩ := h
  obtain ⟨bl, q, off, wr, rd⟩ := d
  simp only at hb hz hf ⊢
  have c2 := hb.cell 2
  have c3 := hb.cell 3
  simp only [dcells, List.getElem?_toArray, List.getElem?_cons_zero, List.getElem?_cons_succ] at c2 c3
  by_cases h0 : 0 ≤ q
  · obtain rfl := hz h0
    have d0 : decide (0 ≤ fz) = true := decide_eq_true h0
    rw [d0] at hb c2
    have Hd := Lib.hid d0
    by_cases h1 : fz = 0
    · have hd : Dev.burnt ⟨bl, fz, off, wr, rd⟩ = ⟨bl, fz, true, wr, rd⟩ := by unfold Dev.burnt; exact if_pos h1
      rw [hd, decide_eq_true h1]
      have e1 : (fz == 0) = true := by simpa using h1
      clear h1 hz h0 d0 hd
      go_enter Tryz.func99, Tryz.ntmps99
      go_wp2_with (refine wpList_store_cell rfl _ _ _ rfl Tryz.boolSize _ _ rfl (.bool true) rfl rfl rfl _ _ hb (by rw [dcells_size]; omega) ?_)
      apply Stop.go; intro w1 Ho1 Hb1
      go_wp2_with fail
      go_ret
      exact ⟨rfl, Ho1.out, fz, by rw [Hd.out]; exact Hb1.out, fun _ => rfl⟩
    · have hd : Dev.burnt ⟨bl, fz, off, wr, rd⟩ = ⟨bl, fz - 1, off, wr, rd⟩ := by unfold Dev.burnt; rw [if_neg h1]; simp only; rw [if_pos (by omega)]
      rw [hd, decide_eq_false h1]
      have e1 : (fz == 0) = false := by simpa using h1
      have hw : IntKind.i64.wrap (fz - 1) = fz - 1 := IntWalk.i64_in _ (by omega)
      have He := Lib.hid (show decide (0 ≤ fz - 1) = true from decide_eq_true (by omega))
      clear h1 hz h0 d0 hd
      go_enter Tryz.func99, Tryz.ntmps99
      go_wp2_with (refine wpList_store_cell rfl _ _ _ rfl Tryz.intSize _ _ rfl (.int .i64 (fz - 1)) rfl rfl rfl _ _ hb (by rw [dcells_size]; omega) ?_)
      apply Stop.go; intro w1 Ho1 Hb1
      go_wp2_with fail
      go_ret
      exact ⟨rfl, Ho1.out, fz - 1, by rw [He.out]; exact Hb1.out, fun _ => rfl⟩
  · have d0 : decide (0 ≤ q) = false := decide_eq_false h0
    rw [d0] at hb c2
    have hd : Dev.burnt ⟨bl, q, off, wr, rd⟩ = ⟨bl, q, off, wr, rd⟩ := by unfold Dev.burnt; rw [if_neg (by simp only; omega)]; simp only; rw [if_neg (by omega)]
    rw [hd, decide_eq_false (show ¬ q = 0 by omega)]
    have Hd := Lib.hid d0
    have Hb := Lib.hid hb
    have Hz := Lib.hid hz
    clear hz h0 d0 hd hb
    go_enter Tryz.func99, Tryz.ntmps99
    go_wp2_with fail
    go_ret
    exact ⟨rfl, Only.refl _ _, fz, by rw [Hd.out]; exact Hb.out, Hz.out⟩

set_option maxRecDepth 100000 in
theorem rd1_any (x y v b : Nat) (tx ty tv : TypeId) (ad : Addr) (n c i : Nat) (d : Dev) (z : List UInt8) (w : World) (hx : Blk w x tx #[.pointer (some ⟨b, 0, none⟩)]) (hy : Blk w y ty #[.int .i64 (i : Int)]) (hv : Blk w v tv (bcells z)) (hz : z.length = 256)
    (hd : DS w 86 b (.slice (some ad) n c) d) (hn : d.bl.length = n) (hL : Bks d.bl) (hr : RK w (some ad) d.bl) (hi : i < n) (hc : n ≤ c) (_hm : c ≤ maxLen) (n1 : x ≠ v) (n2 : y ≠ v) (n3 : b ≠ v) (n4 : ad.block ≠ v) :
    Calls Tryz.prog 107 #[.pointer (some ⟨x, 0, none⟩), .pointer (some ⟨y, 0, none⟩), .pointer (some ⟨v, 0, none⟩)] w fun e w' => e = .returned (.int .i64 0) ∧ Turn w w' v v ∧ Blk w' v tv (bcells (d.bl[i]'(by omega))) := by
  subst hn
  obtain ⟨fz, hb, _⟩ := hd
  have hlen := hL.get hi
  have z1 : (i : Int) < d.bl.length := by omega
  go_enter Tryz.func107, Tryz.ntmps107
  go_wp2_with fail
  refine WH.start (S := fun w' : World => Turn w w' v v) [false, false, false, false, false, false, false, false] 8 rfl rfl (by kernel_rfl) (Turn.drew w 1 v v) (fun hSn => ?_)
  refine WH.tv 0 rfl (fun w' hSw => exec_load_cell _ _ rfl _ rfl (.pointer (some ⟨b, 0, none⟩)) ((hx.turn hSw n1 n1).cell 0) _ Tryz.underlying27 rfl) ?_; simp only [setL]
  refine WH.tk 1 ?_; simp only [setL]
  refine WH.tk 2 ?_; simp only [setL]
  refine WH.tv 3 rfl (fun w' hSw => exec_load_cell _ _ rfl _ rfl (.slice (some ad) d.bl.length c) ((hb.turn hSw n3 n3).cell 0) _ Tryz.underlying82 rfl) ?_; simp only [setL]
  refine WH.tv 4 rfl (fun w' hSw => exec_load_cell _ _ rfl _ rfl (.int .i64 (i : Int)) ((hy.turn hSw n2 n2).cell 0) _ Tryz.underlying3 rfl) ?_; simp only [setL]
  refine WH.tk 5 ?_; simp only [setL]
  refine WH.tv 6 rfl (fun w' hSw => exec_load_bk _ _ rfl ad i rfl d.bl hL hi (hr.turn hSw n4 n4) _ Tryz.underlying50 rfl Tryz.blockSize) ?_; simp only [setL]
  refine WH.only 7 _ rfl (by kernel_rfl) rfl (fun K hK => ?_)
  refine ow_store _ _ _ rfl _ (bcells (d.bl[i]'hi)) rfl rfl _ _ (Blk.ext hv (bdrew w 1)) (Tryz.blockFits hlen) (by rw [bcells_size, bcells_size, hlen, hz]) (oneCell_bcells _) ?_
  apply Stop.go; intro w1 Ho1 Hb1
  have hSn := (Turn.drew w 1 v v).trans (Turn.of_only Ho1.out v); refine hK _ _ hSn ?_; clear hK; clear K; simp only [setL]
  refine WH.done (by kernel_rfl) ?_
  go_wp2_with fail
  go_ret
  exact ⟨rfl, (Turn.drew w 1 v v).trans (Turn.of_only Ho1.out v), Hb1.out⟩

set_option maxRecDepth 100000 in
theorem wr1_any (x y v b g : Nat) (tx ty tv : TypeId) (n i : Nat) (d : Dev) (z : List UInt8) (w : World) (hx : Blk w x tx #[.pointer (some ⟨b, 0, none⟩)]) (hy : Blk w y ty #[.int .i64 (i : Int)]) (hv : Blk w v tv (bcells z)) (hz : z.length = 256)
    (hd : DS w 86 b (.slice (some ⟨g, 0, none⟩) n n) d) (hn : d.bl.length = n) (hL : Bks d.bl) (hg : Blk w g 50 (bcells d.bl.flatten)) (hi : i < n) (hm : n ≤ maxLen) (hf : d.fuse < 9223372036854775808) (hne : b ≠ g)
    (n1 : x ≠ b) (n2 : y ≠ b) (n3 : v ≠ b) (m1 : x ≠ g) (m2 : y ≠ g) (m3 : v ≠ g) :
    Calls Tryz.prog 98 #[.pointer (some ⟨x, 0, none⟩), .pointer (some ⟨v, 0, none⟩), .pointer (some ⟨y, 0, none⟩)] w fun e w' => e = .returned (.int .i64 (if d.fuse = 0 then 12 else 0)) ∧ Turn w w' b g ∧
      DS w' 86 b (.slice (some ⟨g, 0, none⟩) n n) d.burnt ∧ Blk w' g 50 (bcells (if d.fuse = 0 then d.bl else d.bl.set i z).flatten) := by
  subst hn
  have Hx := Lib.hid hx
  have Hy := Lib.hid hy
  have Hv := Lib.hid hv
  have Hg := Lib.hid hg
  have c0 := hx.cell 0
  simp only [List.getElem?_toArray, List.getElem?_cons_zero] at c0
  have hB := burn_any b _ d w hd hf
  clear hx hy hv hg
  by_cases h0 : d.fuse = 0
  · rw [if_pos h0, if_pos h0]
    rw [decide_eq_true h0] at hB
    clear h0
    go_enter Tryz.func98, Tryz.ntmps98
    go_wp2_with (go_at_call 99; refine hB.mono ?_; rintro _ w1 ⟨rfl, ho, hd1⟩)
    go_ret
    exact ⟨rfl, Turn.of_only ho g, hd1, Hg.out.only ho (Ne.symm hne)⟩
  · rw [if_neg h0, if_neg h0]
    rw [decide_eq_false h0] at hB
    clear h0
    go_enter Tryz.func98, Tryz.ntmps98
    go_wp2_with (go_at_call 99; refine hB.mono ?_; rintro _ w1 ⟨rfl, ho, hd1⟩)
    have Hd1 := Lib.hid hd1
    obtain ⟨fz, hb, hq⟩ := hd1
    have T1 := Turn.of_only ho g
    have Hx1 := Lib.hid (Hx.out.turn T1 n1 m1)
    have Hy1 := Lib.hid (Hy.out.turn T1 n2 m2)
    have Hv1 := Lib.hid (Hv.out.turn T1 n3 m3)
    have Hg1 := Lib.hid (Hg.out.only ho (Ne.symm hne))
    have z1 : (i : Int) < d.bl.length := by omega
    go_wp2_with fail
    refine WH.start (S := fun w' : World => Turn w1 w' g g) [false, false, false, false, false, false, false, false] 8 rfl rfl (by kernel_rfl) (Turn.drew w1 1 g g) (fun hSn => ?_)
    refine WH.tv 0 rfl (fun w' hSw => exec_load_cell _ _ rfl _ rfl (.pointer (some ⟨b, 0, none⟩)) ((Hx1.out.turn hSw m1 m1).cell 0) _ Tryz.underlying27 rfl) ?_; simp only [setL]
    refine WH.tk 1 ?_; simp only [setL]
    refine WH.tk 2 ?_; simp only [setL]
    refine WH.tv 3 rfl (fun w' hSw => exec_load_cell _ _ rfl _ rfl (.slice (some ⟨g, 0, none⟩) d.bl.length d.bl.length) ((hb.turn hSw hne hne).cell 0) _ Tryz.underlying82 rfl) ?_; simp only [setL]
    refine WH.tv 4 rfl (fun w' hSw => exec_load_cell _ _ rfl _ rfl (.int .i64 (i : Int)) ((Hy1.out.turn hSw m2 m2).cell 0) _ Tryz.underlying3 rfl) ?_; simp only [setL]
    refine WH.tv 5 rfl (fun w' hSw => exec_load_blk _ _ rfl _ rfl _ _ (Hv1.out.turn hSw m3 m3) _ Tryz.underlying50 rfl (Tryz.blockFits hz)) ?_; simp only [setL]
    refine WH.tk 6 ?_; simp only [setL]
    refine WH.only 7 _ rfl (by kernel_rfl) rfl (fun K hK => ?_)
    refine ow_store_bk _ _ _ rfl Tryz.blockSize g i rfl z rfl hz _ d.bl hL hi (Blk.ext Hg1.out (bdrew w1 1)) ?_
    apply Stop.go; intro w2 Ho2 Hb2
    have hSn := (Turn.drew w1 1 g g).trans (Turn.of_only Ho2.out g); refine hK _ _ hSn ?_; clear hK; clear K; simp only [setL]
    refine WH.done (by kernel_rfl) ?_
    go_wp2_with fail
    go_ret
    have T2 := (Turn.drew w1 1 b g).trans (Turn.of_only2 Ho2.out b)
    refine ⟨rfl, T1.trans T2, Hd1.out.turn ((Turn.drew w1 1 g g).trans (Turn.of_only Ho2.out g)) hne hne, Hb2.out⟩

end Go.Proofs.YtpmbpklbiocclaaGreat

/-
  Contracts of package disk: counted, Read, Write.
-/
namespace Go.Proofs.YtpmbpklbiocclaaGreat
open Go.RowKit

theorem Blk.new2 (w : World) (o : Obj) (t : TypeId) (cs : Array Value) : Blk ((w.alloc o).alloc (.cells cs t)) (w.heap.size + 1) t cs := by
  have h := Blk.new (w.alloc o) t cs
  simpa using h
theorem Below.two (w : World) (o o' : Obj) : Below w.heap.size w ((w.alloc o).alloc o') := ((Below.refl _ _).alloc (Nat.le_refl _) o).alloc (by simp) o'

set_option maxHeartbeats 400000 in
theorem counted_not (b k : Nat) (no e : Int) (F : Value) (V : Value) (n : Nat) (off fu : Bool) (fz wr rd c : Int) (A : Option Addr) (cp : Nat) (w : World) (hV : V = .slice A n cp) (hb : Blk w b 86 (dcells V off fu fz wr rd)) (hk : (dcells V off fu fz wr rd)[k]? = some (.int .i64 c)) (h0 : 0 ≤ c) (h1 : c < 4611686018427387904)
    (he : (off = true ∧ e = 12) ∨ (off = false ∧ no < 0 ∧ e = 2) ∨ (off = false ∧ 0 ≤ no ∧ (n : Int) ≤ no ∧ e = 2)) :
    Calls Tryz.prog 97 #[.pointer (some ⟨b, 0, none⟩), .pointer (some ⟨b, k, none⟩), .int .i64 no, F] w fun r w' => r = .returned (.int .i64 e) ∧ Below w.heap.size w w' := by
  subst hV
  have hmf : ∀ (fn : Fn) (first cap : Array Value) (w : World), (Instr.makeFunc fn first cap).run Tryz.prog w = .ok (.func fn first cap) w := fun _ _ _ _ => rfl
  have hlt := hb.lt
  have HB := Lib.hid hb
  have HK := Lib.hid hk
  have c0 := hb.cell 0
  have c1 := hb.cell 1
  simp only [dcells, List.getElem?_toArray, List.getElem?_cons_zero, List.getElem?_cons_succ] at c0 c1
  clear hb hk
  go_enter_defers Tryz.func97, Tryz.ntmps97
  rcases he with ⟨rfl, rfl⟩ | ⟨rfl, h2, rfl⟩ | ⟨rfl, h2, h3, rfl⟩
  focus go_wp2_with fail
  rotate_left
  focus (
    have d1 : decide (no < 0) = true := decide_eq_true h2
    go_wp2_with fail)
  rotate_left
  focus (
    have d1 : decide (no < 0) = false := decide_eq_false (by omega)
    have d2 : decide ((n : Int) ≤ no) = true := decide_eq_true h3
    go_wp2_with fail)
  rotate_left
  all_goals
    refine leaves_cons (f := 130) (args := #[.pointer (some ⟨w.heap.size + 1, 0, none⟩), .pointer (some ⟨w.heap.size, 0, none⟩)]) (by simp) (by simp [go_sem]) ?_
    refine (tick_any (w.heap.size + 1) w.heap.size b k _ c _ _ _ _ .returning _ (Blk.new2 _ _ _ _) ((Blk.new _ _ _).alloc _) ((HB.out.alloc _).alloc _) HK.out h0 h1).mono ?_
    rintro _ _ w2 ⟨rfl, rfl, -, -, hw⟩
    obtain rfl := hw (by decide)
    simp [Leaves, settle, results, Tryz.results97, go_sem]
    exact Below.two _ _ _

set_option maxHeartbeats 400000 in
theorem counted_do (b g k : Nat) (i n cp : Nat) (F : FuncId) (caps : Array Value) (fu : Bool) (fz wr rd c r : Int) (A : Option Addr) (C : Array Value → Prop) (X : World → Prop) (w : World) (hb : Blk w b 86 (dcells (.slice A n cp) false fu fz wr rd)) (hi : i < n) (h0 : 0 ≤ c) (h1 : c < 4611686018427387904)
    (hcf : ∀ (args : Array Value) (w : World), (callFunc F args).run Tryz.prog w = .ok (.enter F args) w) (hbg : b < w.heap.size ∧ g < w.heap.size) (hk : ∀ cs, C cs → cs[k]? = some (.int .i64 c))
    (hdo : ∀ w1, Below w.heap.size w w1 → Calls Tryz.prog F caps w1 fun e w2 => e = .returned (.int .i64 r) ∧ Turn w1 w2 b g ∧ (∃ cs, C cs ∧ Blk w2 b 86 cs) ∧ X w2)
    (hX : ∀ w2 w3 x, (x = b ∨ w.heap.size ≤ x) → Only w2 w3 x → X w2 → X w3) :
    Calls Tryz.prog 97 #[.pointer (some ⟨b, 0, none⟩), .pointer (some ⟨b, k, none⟩), .int .i64 (i : Int), .func (.func F) #[] caps] w fun e w' =>
      e = .returned (.int .i64 r) ∧ Turn w w' b g ∧ (∃ cs, C cs ∧ Blk w' b 86 (ticked r k c cs)) ∧ X w' := by
  have hmf : ∀ (fn : Fn) (first cap : Array Value) (w : World), (Instr.makeFunc fn first cap).run Tryz.prog w = .ok (.func fn first cap) w := fun _ _ _ _ => rfl
  have hlt := hb.lt
  have c0 := hb.cell 0
  have c1 := hb.cell 1
  simp only [dcells, List.getElem?_toArray, List.getElem?_cons_zero, List.getElem?_cons_succ] at c0 c1
  have Hr := Lib.hid hbg
  have HK := Lib.hid hk
  have z1 : decide ((i : Int) < 0) = false := decide_eq_false (by omega)
  have z2 : decide ((n : Int) ≤ (i : Int)) = false := decide_eq_false (by omega)
  have z3 : decide (n ≤ i) = false := decide_eq_false (by omega)
  clear hb hk hbg
  go_enter_defers Tryz.func97, Tryz.ntmps97
  go_wp2_with fail
  refine (hdo _ (Below.two w _ _)).mono ?_
  rintro _ w2 ⟨rfl, ht, ⟨cs, hcs, hb2⟩, hx2⟩
  have Hcs := Lib.hid hcs
  clear hcs
  have He0 := (Blk.new2 w (.cells #[.pointer (some ⟨b, k, none⟩)] 159) 38 #[.int .i64 0]).turn ht (by have := Hr.out; omega) (by have := Hr.out; omega)
  have Hc0 := ((Blk.new w 159 #[.pointer (some ⟨b, k, none⟩)]).alloc (.cells #[.int .i64 0] 38)).turn ht (by have := Hr.out; omega) (by have := Hr.out; omega)
  have T2 := (Turn.of_below (Below.two w (.cells #[.pointer (some ⟨b, k, none⟩)] 159) (.cells #[.int .i64 0] 38)) b g).trans ht
  have Hb2 := Lib.hid hb2
  clear hb2 ht
  go_wp2_with (refine wpList_store_cell rfl _ _ _ rfl Tryz.errSize _ _ rfl (.int .i64 r) rfl rfl rfl _ _ He0 (by simp) ?_)
  apply Stop.go; intro w3 Ho3 He3
  have Hc3 := Hc0.only Ho3.out (by omega)
  have Hb3 := Hb2.out.only Ho3.out (by have := Hr.out; omega)
  have T3 := T2.new Ho3.out (by omega)
  have X3 := hX _ _ _ (Or.inr (by omega)) Ho3.out hx2
  go_wp2_with fail
  refine leaves_cons (f := 130) (args := #[.pointer (some ⟨w.heap.size + 1, 0, none⟩), .pointer (some ⟨w.heap.size, 0, none⟩)]) (by simp) (by simp [go_sem]) ?_
  refine (tick_any (w.heap.size + 1) w.heap.size b k r c _ _ _ _ .returning _ He3.out Hc3 Hb3 (HK.out cs Hcs.out) h0 h1).mono ?_
  rintro _ _ w4 ⟨rfl, rfl, ho4, hb4, -⟩
  have c4 := (He3.out.only ho4 (by have := Hr.out; omega)).cell 0
  simp only [List.getElem?_toArray, List.getElem?_cons_zero] at c4
  simp [Leaves, settle, results, Tryz.results97, go_sem, c4]
  exact ⟨T3.trans (Turn.of_only ho4 g), ⟨cs, Hcs.out, hb4⟩, hX _ _ _ (Or.inl rfl) ho4 X3⟩

end Go.Proofs.YtpmbpklbiocclaaGreat

/-
  Contracts of package disk: Read.
-/
namespace Go.Proofs.YtpmbpklbiocclaaGreat
open Go.RowKit

theorem Tryz.enter25 (args : Array Value) (w : World) : (callFunc 107 args).run Tryz.prog w = .ok (.enter 107 args) w := by
  simp [go_sem]
theorem Tryz.enter26 (args : Array Value) (w : World) : (callFunc 98 args).run Tryz.prog w = .ok (.enter 98 args) w := by
  simp [go_sem]

set_option maxHeartbeats 800000 in
theorem read_core (b : Nat) (no E : Int) (B : List UInt8) (hB : B.length = 256) (X : World → Prop) (w : World)
    (hb : b < w.heap.size) (hX : ∀ w2 w3 x, w.heap.size ≤ x → Only w2 w3 x → X w2 → X w3)
    (HC : ∀ w3 x y v, Blk w3 x 27 #[.pointer (some ⟨b, 0, none⟩)] → Blk w3 y 3 #[.int .i64 no] → Blk w3 v 50 (bcells (zeros 256)) → Below w.heap.size w w3 → w.heap.size ≤ x → w.heap.size ≤ y → w.heap.size ≤ v → x ≠ v → y ≠ v →
      Calls Tryz.prog 97 #[.pointer (some ⟨b, 0, none⟩), .pointer (some ⟨b, 5, none⟩), .int .i64 no, .func (.func 107) #[] #[.pointer (some ⟨x, 0, none⟩), .pointer (some ⟨y, 0, none⟩), .pointer (some ⟨v, 0, none⟩)]] w3 fun e w' =>
        e = .returned (.int .i64 E) ∧ Turn w3 w' b v ∧ Blk w' v 50 (bcells B) ∧ X w') :
    Calls Tryz.prog 77 #[.pointer (some ⟨b, 0, none⟩), .int .i64 no] w fun e w' => e = .returned (.tuple #[.agg (bcells B), .int .i64 E]) ∧ Turn w w' b b ∧ X w' := by
  have hmf : ∀ (fn : Fn) (first cap : Array Value) (w : World), (Instr.makeFunc fn first cap).run Tryz.prog w = .ok (.func fn first cap) w := fun _ _ _ _ => rfl
  have HLB := Lib.hid hB
  clear hB
  go_enter Tryz.func77, Tryz.ntmps77
  go_wp2_with (refine wpList_alloc_row rfl _ rfl _ Tryz.blockZero ?_)
  apply Stop.go; intro w1 Hg1 Hb1
  have Hx1 := ((Blk.new w 27 #[.pointer (some ⟨b, 0, none⟩)]).alloc (.cells #[.int .i64 no] 3)).ext Hg1.out.1
  have Hy1 := (Blk.new2 w (.cells #[.pointer (some ⟨b, 0, none⟩)] 27) 3 #[.int .i64 no]).ext Hg1.out.1
  have W1 := bt (Below.two w (.cells #[.pointer (some ⟨b, 0, none⟩)] 27) (.cells #[.int .i64 no] 3)) Hg1.out.1
  have c1 := Hx1.cell 0
  simp only [List.getElem?_toArray, List.getElem?_cons_zero] at c1
  go_wp2_with (refine wpList_alloc_row rfl _ rfl _ Tryz.blockZero ?_)
  apply Stop.go; intro w3 Hg3 Hb3
  have Hx3 := Lib.hid (Hx1.ext Hg3.out.1)
  have Hy3 := Lib.hid (Hy1.ext Hg3.out.1)
  have Hr3 := Lib.hid (Hb1.out.ext Hg3.out.1)
  have W3 := Lib.hid (bt W1 Hg3.out.1)
  have L1 := Hb1.out.lt
  clear c1 Hx1 Hy1 W1
  obtain ⟨v, Hv⟩ : ∃ v, Hid (w1.heap.size = v) := ⟨_, Lib.hid rfl⟩
  rw [Hv.out] at Hb3 L1 ⊢
  go_wp2_with fail
  refine WH.start (S := fun w' : World => Turn w3 w' b v) [false, false, false, false, false, false, false, false] 8 rfl rfl (by kernel_rfl) (Turn.drew w3 1 b v) (fun hSn => ?_)
  refine WH.tv 0 rfl (fun w' hSw => exec_load_cell _ _ rfl _ rfl (.pointer (some ⟨b, 0, none⟩)) ((Hx3.out.turn hSw (by omega) (by omega)).cell 0) _ Tryz.underlying27 rfl) ?_; simp only [setL]
  refine WH.tv 1 rfl (fun w' hSw => exec_load_cell _ _ rfl _ rfl (.pointer (some ⟨b, 0, none⟩)) ((Hx3.out.turn hSw (by omega) (by omega)).cell 0) _ Tryz.underlying27 rfl) ?_; simp only [setL]
  refine WH.tk 2 ?_; simp only [setL]
  refine WH.tk 3 ?_; simp only [setL]
  refine WH.tv 4 rfl (fun w' hSw => exec_load_cell _ _ rfl _ rfl (.int .i64 no) ((Hy3.out.turn hSw (by omega) (by omega)).cell 0) _ Tryz.underlying3 rfl) ?_; simp only [setL]
  refine WH.only 5 _ rfl (by kernel_rfl) rfl (fun K hK => ?_)
  go_simp
  have hSn := hSn; refine hK _ _ hSn ?_; clear hK; clear K; simp only [setL]
  refine WH.only 6 _ rfl (by kernel_rfl) rfl (fun K hK => ?_)
  go_simp; refine (HC (w3.drewN 1) w.heap.size (w.heap.size + 1) v (Hx3.out.ext (bdrew w3 1)) (Hy3.out.ext (bdrew w3 1)) (Hb3.out.ext (bdrew w3 1)) (bt W3.out (bdrew w3 1)) (by omega) (by omega) (by omega) (by omega) (by omega)).mono ?_; rintro e w4 ⟨rfl, ht4, hb4, hx4⟩; go_simp
  have T4 := Lib.hid ((Turn.drew w3 1 b v).trans ht4)
  have Hb4 := Lib.hid hb4
  clear hb4 ht4
  have hSn := T4.out; refine hK _ _ hSn ?_; clear hK; clear K; simp only [setL]
  refine WH.tk 7 ?_; simp only [setL]
  refine WH.done (by kernel_rfl) ?_
  have Hr4 := Lib.hid (Hr3.out.turn T4.out (by omega) (by omega))
  go_wp2_with (first | refine wpList_load_arr rfl _ _ rfl _ rfl _ _ Hb4.out _ _ Tryz.underlying50 (Tryz.blockFits HLB.out) ?_ | refine wpList_store_arr rfl _ _ _ rfl _ _ rfl rfl _ _ Hr4.out (Tryz.blockFits HLB.out) (by rw [bcells_size, bcells_size, HLB.out, zeros_len]) (oneCell_bcells _) ?_)
  apply Stop.go; intro w5 Ho5 Hb5
  go_wp2_with ((with_reducible show bodyPost _ _ _ _ _ _); refine bodyPost_cell_tmp rfl _ rfl _ _ Hb5.out _ _ Tryz.underlying50 (Tryz.blockFits HLB.out) rfl _ rfl ?_)
  apply Stop.go
  have T5 := (Turn.of_below W3.out b v).trans T4.out
  have T6 := T5.new Ho5.out (by omega)
  refine ⟨⟨T6.os, T6.tape, T6.output, T6.size, fun k hk h1 _ => T6.block k hk h1 (by omega)⟩, hX _ _ _ (by omega) Ho5.out hx4⟩

theorem Dev.read_ways (d : Dev) (no : Int) : ((d.off = true ∨ no < 0 ∨ (d.bl.length : Int) ≤ no) ∧ d.read no = d ∧ d.readB no = zeros 256 ∧ ((d.off = true ∧ d.readE no = 12) ∨ (d.off = false ∧ no < 0 ∧ d.readE no = 2) ∨ (d.off = false ∧ 0 ≤ no ∧ (d.bl.length : Int) ≤ no ∧ d.readE no = 2))) ∨
    (d.off = false ∧ ∃ (i : Nat) (h : i < d.bl.length), no = i ∧ d.read no = { d with rd := d.rd + 1 } ∧ d.readB no = d.bl[i] ∧ d.readE no = 0) := by
  unfold Dev.read Dev.readB Dev.readE
  cases ho : d.off
  · simp only [Bool.false_eq_true, if_false]
    by_cases h1 : 0 ≤ no
    · by_cases h2 : no < (d.bl.length : Int)
      · right
        have hh : d.has no = true := Dev.has_iff.2 ⟨h1, h2⟩
        obtain ⟨i, rfl⟩ := Int.eq_ofNat_of_zero_le h1
        refine ⟨by trivial, i, by omega, rfl, ?_⟩
        have hi : i < d.bl.length := by omega
        rw [hh]
        simp [List.getElem?_eq_getElem hi]
      · left
        have hh : d.has no = false := by
          cases h : d.has no
          · rfl
          · exact absurd (Dev.has_iff.1 h).2 h2
        rw [hh]
        simp
        omega
    · left
      have hh : d.has no = false := by
        cases h : d.has no
        · rfl
        · exact absurd (Dev.has_iff.1 h).1 h1
      rw [hh]
      simp
      omega
  · left
    simp

set_option maxHeartbeats 400000 in
theorem read_any (b : Nat) (ad : Addr) (c : Nat) (no : Int) (d : Dev) (w : World) (hd : DS w 86 b (.slice (some ad) d.bl.length c) d) (hL : Bks d.bl) (hr : RK w (some ad) d.bl) (hc : d.bl.length ≤ c) (hm : c ≤ maxLen)
    (hne : ad.block ≠ b) (hal : ad.block < w.heap.size) (hrd : d.rd < 4611686018427387904) :
    Calls Tryz.prog 77 #[.pointer (some ⟨b, 0, none⟩), .int .i64 no] w fun e w' => e = .returned (.tuple #[.agg (bcells (d.readB no)), .int .i64 (d.readE no)]) ∧ Turn w w' b b ∧ DS w' 86 b (.slice (some ad) d.bl.length c) (d.read no) := by
  obtain ⟨fz, hb, hq⟩ := hd
  have hbl := hb.lt
  refine read_core b no _ _ (Dev.readB_len hL no) (fun w' => DS w' 86 b (.slice (some ad) d.bl.length c) (d.read no)) w hbl (fun w2 w3 x hx ho h => h.turn (Turn.of_only ho x) (by omega) (by omega)) ?_
  intro w3 x y v hx hy hv hw gx gy gv nx ny
  have hb3 := hb.below hw hb.lt
  rcases Dev.read_ways d no with ⟨_, e1, e2, e3⟩ | ⟨ho, i, hi, rfl, e1, e2, e3⟩
  · rw [e1, e2]
    refine (counted_not b 5 no (d.readE no) _ _ d.bl.length d.off (decide (0 ≤ d.fuse)) fz d.wr d.rd d.rd (some ad) c w3 rfl hb3 rfl (by omega) (by omega) e3).mono ?_
    rintro e w' ⟨rfl, hbw⟩
    exact ⟨rfl, Turn.of_below hbw b v, hv.ext hbw, fz, hb3.ext hbw, hq⟩
  · rw [e1, e2, e3]
    rw [ho] at hb3
    have hvl := hv.lt
    refine (counted_do b v 5 i d.bl.length c 107 _ (decide (0 ≤ d.fuse)) fz d.wr d.rd d.rd 0 (some ad) (fun cs => cs = dcells (.slice (some ad) d.bl.length c) false (decide (0 ≤ d.fuse)) fz d.wr d.rd) (fun w' => Blk w' v 50 (bcells d.bl[i])) w3 hb3 hi (by omega) (by omega) Tryz.enter25 ⟨hb3.lt, hvl⟩ (fun cs h => by rw [h]; rfl) ?_ ?_).mono ?_
    · intro w4 hw4
      refine (rd1_any x y v b _ _ _ ad d.bl.length c i d (zeros 256) w4 (hx.ext hw4) (hy.ext hw4) (hv.ext hw4) (zeros_len 256) ⟨fz, by rw [ho]; exact hb3.ext hw4, hq⟩ rfl hL ((hr.below hw).below hw4) hi hc hm nx ny (by omega) (by omega)).mono ?_
      rintro e w5 ⟨rfl, ht5, hb5⟩
      refine ⟨rfl, ⟨ht5.os, ht5.tape, ht5.output, ht5.size, fun k hk _ h2 => ht5.block k hk h2 h2⟩, ⟨_, rfl, (hb3.ext hw4).turn ht5 (by omega) (by omega)⟩, hb5⟩
    · rintro w5 w6 z (rfl | hz) ho5 h
      · exact h.only ho5 (by omega)
      · exact h.only ho5 (by omega)
    · rintro e w' ⟨rfl, ht, ⟨cs, rfl, hbw⟩, hx'⟩
      refine ⟨rfl, ht, hx', fz, ?_, hq⟩
      have h := hbw
      unfold ticked at h
      rw [if_pos rfl] at h
      rw [ho]
      exact h

end Go.Proofs.YtpmbpklbiocclaaGreat

/-
  Contracts of package disk: Write.
-/
namespace Go.Proofs.YtpmbpklbiocclaaGreat
open Go.RowKit

set_option maxHeartbeats 800000 in
theorem write_core (b g : Nat) (no E : Int) (z : List UInt8) (hz : z.length = 256) (X : World → Prop) (w : World)
    (hb : b < w.heap.size) (hg : g < w.heap.size)
    (HC : ∀ w3 x y v, Blk w3 x 27 #[.pointer (some ⟨b, 0, none⟩)] → Blk w3 y 3 #[.int .i64 no] → Blk w3 v 50 (bcells z) → Below w.heap.size w w3 → w.heap.size ≤ x → w.heap.size ≤ y → w.heap.size ≤ v →
      Calls Tryz.prog 97 #[.pointer (some ⟨b, 0, none⟩), .pointer (some ⟨b, 4, none⟩), .int .i64 no, .func (.func 98) #[] #[.pointer (some ⟨x, 0, none⟩), .pointer (some ⟨v, 0, none⟩), .pointer (some ⟨y, 0, none⟩)]] w3 fun e w' =>
        e = .returned (.int .i64 E) ∧ Turn w3 w' b g ∧ X w') :
    Calls Tryz.prog 67 #[.pointer (some ⟨b, 0, none⟩), .int .i64 no, .agg (bcells z)] w fun e w' => e = .returned (.int .i64 E) ∧ Turn w w' b g ∧ X w' := by
  have hmf : ∀ (fn : Fn) (first cap : Array Value) (w : World), (Instr.makeFunc fn first cap).run Tryz.prog w = .ok (.func fn first cap) w := fun _ _ _ _ => rfl
  have HLB := Lib.hid hz
  clear hz
  go_enter Tryz.func67, Tryz.ntmps67
  go_wp2_with (refine wpList_box_row rfl _ _ rfl _ rfl ?_)
  apply Stop.go; intro w1 Hg1 Hb1
  have Hx1 := ((Blk.new w 27 #[.pointer (some ⟨b, 0, none⟩)]).alloc (.cells #[.int .i64 no] 3)).ext Hg1.out.1
  have Hy1 := Lib.hid ((Blk.new2 w (.cells #[.pointer (some ⟨b, 0, none⟩)] 27) 3 #[.int .i64 no]).ext Hg1.out.1)
  have W1 := Lib.hid (bt (Below.two w (.cells #[.pointer (some ⟨b, 0, none⟩)] 27) (.cells #[.int .i64 no] 3)) Hg1.out.1)
  have c1 := Hx1.cell 0
  simp only [List.getElem?_toArray, List.getElem?_cons_zero] at c1
  have Hx3 := Lib.hid Hx1
  clear Hx1
  go_wp2_with fail
  refine WH.start (S := fun w' : World => Turn w1 w' b g) [false, false, false, false, false, false, false, false] 8 rfl rfl (by kernel_rfl) (Turn.drew w1 1 b g) (fun hSn => ?_)
  refine WH.tv 0 rfl (fun w' hSw => exec_load_cell _ _ rfl _ rfl (.pointer (some ⟨b, 0, none⟩)) ((Hx3.out.turn hSw (by omega) (by omega)).cell 0) _ Tryz.underlying27 rfl) ?_; simp only [setL]
  refine WH.tv 1 rfl (fun w' hSw => exec_load_cell _ _ rfl _ rfl (.pointer (some ⟨b, 0, none⟩)) ((Hx3.out.turn hSw (by omega) (by omega)).cell 0) _ Tryz.underlying27 rfl) ?_; simp only [setL]
  refine WH.tk 2 ?_; simp only [setL]
  refine WH.tk 3 ?_; simp only [setL]
  refine WH.tv 4 rfl (fun w' hSw => exec_load_cell _ _ rfl _ rfl (.int .i64 no) ((Hy1.out.turn hSw (by omega) (by omega)).cell 0) _ Tryz.underlying3 rfl) ?_; simp only [setL]
  refine WH.only 5 _ rfl (by kernel_rfl) rfl (fun K hK => ?_)
  go_simp
  have hSn := hSn; refine hK _ _ hSn ?_; clear hK; clear K; simp only [setL]
  refine WH.only 6 _ rfl (by kernel_rfl) rfl (fun K hK => ?_)
  go_simp; refine (HC (w1.drewN 1) w.heap.size (w.heap.size + 1) (w.heap.size + 1 + 1) (Hx3.out.ext (bdrew w1 1)) (Hy1.out.ext (bdrew w1 1)) ((by simpa using Hb1.out : Blk w1 (w.heap.size + 1 + 1) 50 (bcells z)).ext (bdrew w1 1)) (bt W1.out (bdrew w1 1)) (by omega) (by omega) (by omega)).mono ?_; rintro e w4 ⟨rfl, ht4, hx4⟩; go_simp
  have T4 := Lib.hid ((Turn.drew w1 1 b g).trans ht4)
  clear ht4
  have hSn := T4.out; refine hK _ _ hSn ?_; clear hK; clear K; simp only [setL]
  refine WH.tk 7 ?_; simp only [setL]
  refine WH.done (by kernel_rfl) ?_
  go_wp2_with fail
  go_ret
  exact ⟨rfl, (Turn.of_below W1.out b g).trans T4.out, hx4⟩

structure DV (w : World) (b g : Nat) (d : Dev) : Prop where
  ds : DS w 86 b (.slice (some ⟨g, 0, none⟩) d.bl.length d.bl.length) d
  bks : Bks d.bl
  blk : Blk w g 50 (bcells d.bl.flatten)
  ne : b ≠ g
  len : d.bl.length ≤ 512
  fuse : d.fuse < 9223372036854775808
theorem DV.lt {w : World} {b g : Nat} {d : Dev} (h : DV w b g d) : b < w.heap.size ∧ g < w.heap.size := by
  obtain ⟨_, hb, _⟩ := h.ds
  exact ⟨hb.lt, h.blk.lt⟩
theorem DV.turn {w w' : World} {b g x y : Nat} {d : Dev} (h : DV w b g d) (k : Turn w w' x y) (h1 : b ≠ x) (h2 : b ≠ y) (h3 : g ≠ x) (h4 : g ≠ y) : DV w' b g d :=
  ⟨h.ds.turn k h1 h2, h.bks, h.blk.turn k h3 h4, h.ne, h.len, h.fuse⟩
theorem DV.ext {w w' : World} {b g : Nat} {d : Dev} (h : DV w b g d) (k : Below w.heap.size w w') : DV w' b g d :=
  ⟨h.ds.ext k, h.bks, h.blk.ext k, h.ne, h.len, h.fuse⟩

theorem Dev.write_ways (d : Dev) (no : Int) (z : List UInt8) : (d.write no z = d ∧ ((d.off = true ∧ d.writeE no = 12) ∨ (d.off = false ∧ no < 0 ∧ d.writeE no = 2) ∨ (d.off = false ∧ 0 ≤ no ∧ (d.bl.length : Int) ≤ no ∧ d.writeE no = 2))) ∨
    (d.off = false ∧ ∃ (i : Nat) (_ : i < d.bl.length), no = i ∧ ((d.fuse = 0 ∧ d.write no z = d.burnt ∧ d.writeE no = 12) ∨ (¬ d.fuse = 0 ∧ d.write no z = { d.burnt with bl := d.bl.set i z, wr := d.wr + 1 } ∧ d.writeE no = 0))) := by
  unfold Dev.write Dev.writeE
  cases ho : d.off
  · simp only [Bool.false_eq_true, if_false]
    by_cases h1 : 0 ≤ no
    · by_cases h2 : no < (d.bl.length : Int)
      · right
        have hh : d.has no = true := Dev.has_iff.2 ⟨h1, h2⟩
        obtain ⟨i, rfl⟩ := Int.eq_ofNat_of_zero_le h1
        refine ⟨by trivial, i, by omega, rfl, ?_⟩
        rw [hh]
        by_cases h0 : d.fuse = 0
        · left
          simp [h0, Dev.burnt]
        · right
          simp [h0, Dev.burnt, ho]
      · left
        have hh : d.has no = false := by
          cases h : d.has no
          · rfl
          · exact absurd (Dev.has_iff.1 h).2 h2
        rw [hh]
        simp
        omega
    · left
      have hh : d.has no = false := by
        cases h : d.has no
        · rfl
        · exact absurd (Dev.has_iff.1 h).1 h1
      rw [hh]
      simp
      omega
  · left
    simp

theorem Dev.burnt_bl (d : Dev) : d.burnt.bl = d.bl := by unfold Dev.burnt; split <;> rfl
theorem Dev.burnt_wr (d : Dev) : d.burnt.wr = d.wr ∧ d.burnt.rd = d.rd := by unfold Dev.burnt; split <;> exact ⟨rfl, rfl⟩
theorem Dev.burnt_fuse (d : Dev) (h : d.fuse < 9223372036854775808) : d.burnt.fuse < 9223372036854775808 := by
  unfold Dev.burnt
  split
  · exact h
  · simp only
    split <;> omega

set_option maxHeartbeats 400000 in
theorem write_any (b g : Nat) (no : Int) (z : List UInt8) (hz : z.length = 256) (d : Dev) (w : World) (h : DV w b g d) (hwr : d.wr < 4611686018427387904) :
    Calls Tryz.prog 67 #[.pointer (some ⟨b, 0, none⟩), .int .i64 no, .agg (bcells z)] w fun e w' => e = .returned (.int .i64 (d.writeE no)) ∧ Turn w w' b g ∧ DV w' b g (d.write no z) := by
  obtain ⟨lb, lg⟩ := h.lt
  refine write_core b g no _ z hz (fun w' => DV w' b g (d.write no z)) w lb lg ?_
  intro w3 x y v hx hy hv hw gx gy gv
  have h3 : DV w3 b g d := ⟨(by obtain ⟨fz, hb, hq⟩ := h.ds; exact ⟨fz, hb.below hw hb.lt, hq⟩), h.bks, h.blk.below hw h.blk.lt, h.ne, h.len, h.fuse⟩
  have hlen := h.len
  obtain ⟨fz, hb3, hq⟩ := h3.ds
  rcases Dev.write_ways d no z with ⟨e1, e3⟩ | ⟨ho, i, hi, rfl, e3⟩
  · rw [e1]
    refine (counted_not b 4 no (d.writeE no) _ _ d.bl.length d.off (decide (0 ≤ d.fuse)) fz d.wr d.rd d.wr _ _ w3 rfl hb3 rfl (by omega) (by omega) e3).mono ?_
    rintro e w' ⟨rfl, hbw⟩
    exact ⟨rfl, Turn.of_below hbw b g, h3.ext hbw⟩
  · have hE : d.writeE i = if d.fuse = 0 then 12 else 0 := by
      rcases e3 with ⟨h0, _, e⟩ | ⟨h0, _, e⟩
      · rw [e, if_pos h0]
      · rw [e, if_neg h0]
    rw [hE]
    have hb3' := hb3
    rw [ho] at hb3'
    have hwr' : d.burnt.wr = d.wr := d.burnt_wr.1
    refine (counted_do b g 4 i d.bl.length d.bl.length 98 _ (decide (0 ≤ d.fuse)) fz d.wr d.rd d.wr (if d.fuse = 0 then 12 else 0) _ (fun cs => ∃ fz', cs = dcells (.slice (some ⟨g, 0, none⟩) d.bl.length d.bl.length) d.burnt.off (decide (0 ≤ d.burnt.fuse)) fz' d.wr d.rd ∧ (0 ≤ d.burnt.fuse → fz' = d.burnt.fuse)) (fun w' => Blk w' g 50 (bcells (if d.fuse = 0 then d.bl else d.bl.set i z).flatten)) w3 hb3' hi (by omega) (by omega) Tryz.enter26 h3.lt (fun cs h => by obtain ⟨fz', rfl, _⟩ := h; rfl) ?_ ?_).mono ?_
    · intro w4 hw4
      have h4 := h3.ext hw4
      have := h4.lt
      refine (wr1_any x y v b g _ _ _ d.bl.length i d z w4 (hx.ext hw4) (hy.ext hw4) (hv.ext hw4) hz h4.ds rfl h4.bks h4.blk hi (by unfold maxLen; omega) h4.fuse h4.ne (by omega) (by omega) (by omega) (by omega) (by omega) (by omega)).mono ?_
      rintro e w5 ⟨rfl, ht5, ⟨fz', hb5, hq5⟩, hg5⟩
      rw [hwr', d.burnt_wr.2] at hb5
      exact ⟨rfl, ht5, ⟨_, ⟨fz', rfl, hq5⟩, hb5⟩, hg5⟩
    · rintro w5 w6 q (rfl | hq6) ho5 hh
      · exact hh.only ho5 (Ne.symm h.ne)
      · exact hh.only ho5 (by have := h3.lt; omega)
    · rintro e w' ⟨rfl, ht, ⟨cs, ⟨fz', rfl, hq'⟩, hbw⟩, hg'⟩
      refine ⟨rfl, ht, ?_⟩
      rcases e3 with ⟨h0, e, _⟩ | ⟨h0, e, _⟩
      · rw [e]
        rw [if_pos h0] at hbw hg'
        unfold ticked at hbw
        rw [if_neg (by decide)] at hbw
        refine ⟨⟨fz', ?_, hq'⟩, by rw [d.burnt_bl]; exact h.bks, by rw [d.burnt_bl]; exact hg', h.ne, by rw [d.burnt_bl]; exact h.len, d.burnt_fuse h.fuse⟩
        rw [d.burnt_bl, hwr', d.burnt_wr.2]
        exact hbw
      · rw [e]
        rw [if_neg h0] at hbw hg'
        unfold ticked at hbw
        rw [if_pos rfl] at hbw
        refine ⟨⟨fz', ?_, hq'⟩, h.bks.set i hz, hg', h.ne, by simp; exact h.len, d.burnt_fuse h.fuse⟩
        simp only [List.length_set, d.burnt_wr.2]
        exact hbw

end Go.Proofs.YtpmbpklbiocclaaGreat
