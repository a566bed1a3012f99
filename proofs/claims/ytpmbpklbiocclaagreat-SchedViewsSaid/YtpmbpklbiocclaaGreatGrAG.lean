/-
  Texts of this claim joined: Cg1, Cg2, Cg3.
-/
import Derived.Test.YtpmbpklbiocclaaGreatGrAF
import Derived.Test.YtpmbpklbiocclaaGreatGrAA
import Derived.Deep.LoopGhost

/-
  Contracts of package ready: needsMayBe, Check. Laws on structs of five cells (changes).
-/
namespace Go.Proofs.YtpmbpklbiocclaaGreat
open Go.RowKit

theorem Tryz.chgZero : (Tryz.prog.info? 88).map (·.zero) = some (some (.agg #[.int .i64 0, .int .i64 0, .int .i64 0, .slice none 0 0, .slice none 0 0])) := by kernel_rfl
theorem Tryz.chgSize : (Tryz.prog.info? 88).map (·.size) = some 5 := by kernel_rfl
theorem Tryz.chgInfo : (Tryz.prog.info? 88).map (fun i => (i.zero, i.size, i.bytes)) = some (some (.agg #[.int .i64 0, .int .i64 0, .int .i64 0, .slice none 0 0, .slice none 0 0]), 5, 72) := by kernel_rfl
theorem Tryz.rchgSize : (Tryz.prog.info? 119).map (·.size) = some 5 := by kernel_rfl
theorem Tryz.rchgInfo : (Tryz.prog.info? 119).map (fun i => (i.zero, i.size, i.bytes)) = some (some (.agg #[.int .i64 0, .int .i64 0, .int .i64 0, .slice none 0 0, .slice none 0 0]), 5, 72) := by kernel_rfl

structure CV (w : World) (c : Cg) (Ad : Option Addr) (nd cd : Nat) (An : Option Addr) (nn cn : Nat) : Prop where
  lo0 : -9223372036854775808 ≤ c.id
  hi0 : c.id < 9223372036854775808
  lo1 : -9223372036854775808 ≤ c.block
  hi1 : c.block < 9223372036854775808
  p : PV w c.p Ad nd cd
  len : c.needs.length = nn
  cap : nn ≤ cn
  max : cn ≤ maxLen
  read : RC w An (ivals c.needs)
  nb : ∀ z ∈ c.needs, -9223372036854775808 ≤ z ∧ z < 9223372036854775808
theorem CV.below {w w' : World} {c : Cg} {Ad : Option Addr} {nd cd : Nat} {An : Option Addr} {nn cn : Nat} (h : CV w c Ad nd cd An nn cn) (hb : Below w.heap.size w w') : CV w' c Ad nd cd An nn cn :=
  ⟨h.lo0, h.hi0, h.lo1, h.hi1, h.p.below hb, h.len, h.cap, h.max, h.read.below hb, h.nb⟩
theorem RCg.cv {w : World} {v0 v1 v2 v3 v4 : Value} {c : Cg} (h : RCg w v0 v1 v2 v3 v4 c) : ∃ Ad nd cd An nn cn, v0 = .int .i64 c.id ∧ v1 = .int .i64 c.block ∧ v2 = .int .i64 c.p.at_ ∧ v3 = .slice Ad nd cd ∧ v4 = .slice An nn cn ∧ CV w c Ad nd cd An nn cn := by
  obtain ⟨Ad, nd, cd, e2, e3, hp⟩ := h.p.pv
  obtain ⟨An, cn, e4, q1, q2, q3⟩ := h.needs
  exact ⟨Ad, nd, cd, An, _, cn, h.e0, h.e1, e2, e3, e4, h.lo0, h.hi0, h.lo1, h.hi1, hp, rfl, q1, q2, q3, h.nb⟩
theorem CV.rcg {w : World} {c : Cg} {Ad : Option Addr} {nd cd : Nat} {An : Option Addr} {nn cn : Nat} (h : CV w c Ad nd cd An nn cn) : RCg w (.int .i64 c.id) (.int .i64 c.block) (.int .i64 c.p.at_) (.slice Ad nd cd) (.slice An nn cn) c :=
  ⟨rfl, rfl, h.lo0, h.hi0, h.lo1, h.hi1, h.p.rp, ⟨An, cn, by rw [h.len], by rw [h.len]; exact h.cap, h.max, h.read⟩, h.nb⟩
theorem CV.rd {w : World} {c : Cg} {Ad : Option Addr} {nd cd : Nat} {An : Option Addr} {nn cn : Nat} (h : CV w c Ad nd cd An nn cn) : RdC.R w [.int .i64 c.id, .int .i64 c.block, .int .i64 c.p.at_, .slice Ad nd cd, .slice An nn cn] c :=
  ⟨_, _, _, _, _, rfl, h.rcg⟩

section
variable {P : Program} {ops : Array Oper} {rest : List Oper} {o : Oper} {a : Act} {w : World} {K : Act → World → Prop} {Q : Exit → Act → World → Prop}
theorem run_loadVar_five (P : Program) (w : World) (t : TypeId) (fs : Array Field) (hu : P.underlying t = some (.struct fs)) (hi : (P.info? t).map (·.size) = some 5) (ad : Addr) (v0 v1 v2 v3 v4 : Value) (h0 : w.cell? ad = some v0) (h1 : w.cell? (ad.add 1) = some v1) (h2 : w.cell? (ad.add 2) = some v2) (h3 : w.cell? (ad.add 3) = some v3) (h4 : w.cell? (ad.add 4) = some v4) : (loadVar t ad).run P w = .ok (.agg #[v0, v1, v2, v3, v4]) w := by
  have hl : (loadCells ad [v0, v1, v2, v3, v4].length).run P w = .ok [v0, v1, v2, v3, v4].toArray w := run_loadCells_list (P := P) w ad [v0, v1, v2, v3, v4] (fun j v hv => by
    match j, hv with
    | 0, hv => simp at hv; subst hv; exact h0
    | 1, hv => simp at hv; subst hv; exact h1
    | 2, hv => simp at hv; subst hv; exact h2
    | 3, hv => simp at hv; subst hv; exact h3
    | 4, hv => simp at hv; subst hv; exact h4)
  obtain ⟨i, hq, hs⟩ := Option.map_eq_some_iff.1 hi
  have hagg : (isAgg t).run P w = .ok true w := by
    unfold isAgg
    rw [Sem.run_bind, run_underlying hu w]
    simp
  simp only [List.length_cons, List.length_nil, Nat.zero_add, Nat.reduceAdd] at hl
  simp [loadVar, Sem.run_bind, hagg, sizeOf, typeInfo, hq, hs, hl]
theorem exec_load_five {o : Oper} (t : TypeId) (x : Operand) (ho : o.op = .load t x) (ad : Addr) (hx : a.eval x = .pointer (some ad)) (v0 v1 v2 v3 v4 : Value) (h0 : w.cell? ad = some v0) (h1 : w.cell? (ad.add 1) = some v1) (h2 : w.cell? (ad.add 2) = some v2) (h3 : w.cell? (ad.add 3) = some v3) (h4 : w.cell? (ad.add 4) = some v4)
    (fs : Array Field) (hu : P.underlying t = some (.struct fs)) (hi : (P.info? t).map (·.size) = some 5) : (execOp a.eval o).run P w = .ok (.value (.agg #[v0, v1, v2, v3, v4])) w := by
  unfold execOp
  simp only [ho, hx, Instr.loadAt, Instr.sureAddr, Sem.run_bind, Sem.run_pure, Result.andThen_ok, run_loadVar_five P w t fs hu hi ad v0 v1 v2 v3 v4 h0 h1 h2 h3 h4]
theorem wpList_load_five (hgd : Region.wanted o (yielded ops a.tmps) = true) (t : TypeId) (x : Operand) (ho : o.op = .load t x) (ad : Addr) (hx : a.eval x = .pointer (some ad)) (v0 v1 v2 v3 v4 : Value) (h0 : w.cell? ad = some v0) (h1 : w.cell? (ad.add 1) = some v1) (h2 : w.cell? (ad.add 2) = some v2) (h3 : w.cell? (ad.add 3) = some v3) (h4 : w.cell? (ad.add 4) = some v4)
    (fs : Array Field) (hu : P.underlying t = some (.struct fs)) (hi : (P.info? t).map (·.size) = some 5) (h : wpList P ops Q rest (a.put o.dst (.agg #[v0, v1, v2, v3, v4])) w) : wpList P ops Q (o :: rest) a w := by
  refine wpList_wanted hgd fun K hK => ?_
  unfold Oper.wp
  rw [exec_load_five t x ho ad hx v0 v1 v2 v3 v4 h0 h1 h2 h3 h4 fs hu hi]
  exact hK _ _ h
end
theorem cell_fld {w : World} {ad : Addr} {i : Nat} {v u : Value} (h0 : w.cell? ad = some u) (h : w.cell? (ad.add i) = some v) : w.cell? ⟨ad.block, ad.off + i, none⟩ = some v := by
  rw [← h]
  have hs : ad.spot = none := World.cell?_spot h0
  have e : (⟨ad.block, ad.off + i, none⟩ : Addr) = ad.add i := by
    obtain ⟨b, o, s⟩ := ad
    simp at hs
    subst hs
    unfold Addr.add
    split <;> simp_all
  rw [e]

theorem cell_fld1 {w : World} {ad : Addr} {i : Nat} {v u : Value} (h0 : w.cell? ad = some u) (h : w.cell? (ad.add (i + 1)) = some v) : w.cell? ((⟨ad.block, ad.off + i, none⟩ : Addr).add 1) = some v := by
  have e : ((⟨ad.block, ad.off + i, none⟩ : Addr).add 1) = ⟨ad.block, ad.off + (i + 1), none⟩ := rfl
  rw [e]
  exact cell_fld h0 h
theorem Blk.five {w : World} {g : Nat} {t : TypeId} {v0 v1 v2 v3 v4 : Value} (h : Blk w g t #[v0, v1, v2, v3, v4]) :
    w.cell? ⟨g, 0, none⟩ = some v0 ∧ w.cell? ⟨g, 1, none⟩ = some v1 ∧ w.cell? ⟨g, 2, none⟩ = some v2 ∧ w.cell? ⟨g, 3, none⟩ = some v3 ∧ w.cell? ⟨g, 4, none⟩ = some v4 ∧ w.cell? ((⟨g, 2, none⟩ : Addr).add 1) = some v3 :=
  ⟨h.cell 0, h.cell 1, h.cell 2, h.cell 3, h.cell 4, h.cell 3⟩
def chkI (l : List Cg) : Int := if mayC l then 0 else 1
theorem chkI_yes {l : List Cg} (h : mayC l = true) : chkI l = 0 := by unfold chkI; rw [if_pos h]
theorem chkI_no {l : List Cg} (h : mayC l = false) : chkI l = 1 := by unfold chkI; rw [h]; rfl
def RetI (w : World) (l : List Int) (e : Ending) (w' : World) : Prop := ∃ A n c, e = .returned (.slice A n c) ∧ l.length = n ∧ n ≤ c ∧ c ≤ maxLen ∧ RC w' A (ivals l) ∧ Below w.heap.size w w'
def RetC (w : World) (l : List Cg) (e : Ending) (w' : World) : Prop := ∃ A n c, e = .returned (.slice A n c) ∧ l.length = n ∧ n ≤ c ∧ c ≤ maxLen ∧ RdL RdC w' A 5 l ∧ Below w.heap.size w w'
theorem RdL.cg {w : World} {A : Option Addr} {l : List Cg} (h : RdL RdC w A 5 l) {k : Nat} (hk : k < l.length) :
    ∃ ad Ad nd cd An nn cn, A = some ad ∧ CV w l[k] Ad nd cd An nn cn ∧ w.cell? (ad.add (k * 5)) = some (.int .i64 l[k].id) ∧ w.cell? ((ad.add (k * 5)).add 1) = some (.int .i64 l[k].block) ∧ w.cell? ((ad.add (k * 5)).add 2) = some (.int .i64 l[k].p.at_) ∧ w.cell? ((ad.add (k * 5)).add 3) = some (.slice Ad nd cd) ∧ w.cell? ((ad.add (k * 5)).add 4) = some (.slice An nn cn) := by
  obtain ⟨ad, v0, v1, v2, v3, v4, e, hr, h0, h1, h2, h3, h4⟩ := h.change hk
  obtain ⟨Ad, nd, cd, An, nn, cn, rfl, rfl, rfl, rfl, rfl, hcv⟩ := hr.cv
  exact ⟨ad, Ad, nd, cd, An, nn, cn, e, hcv, h0, h1, h2, h3, h4⟩

def lastN (l : List Int) (k : Nat) : Int := if k = 0 then 0 else l.getD (k - 1) 0
theorem lastN_zero (l : List Int) : lastN l 0 = 0 := rfl
theorem lastN_succ (l : List Int) (k : Nat) (h : k < l.length) : lastN l (k + 1) = l[k] := by
  unfold lastN
  rw [if_neg (by omega)]
  simp [List.getD, h]
theorem riseN_iff0 {e : Int} {l : List Int} : riseN e 0 l = true ↔ ∀ i (h : i < l.length), l[i] < e ∧ lastN l i < l[i] := by
  rw [riseN_iff]
  constructor
  · intro h i hi
    obtain ⟨h1, h2⟩ := h i hi
    refine ⟨h1, ?_⟩
    unfold lastN
    split
    · rename_i h0; rw [if_pos h0] at h2; exact h2
    · rename_i h0; rw [if_neg h0] at h2; simpa [List.getD, show i - 1 < l.length by omega] using h2
  · intro h i hi
    obtain ⟨h1, h2⟩ := h i hi
    refine ⟨h1, ?_⟩
    unfold lastN at h2
    split
    · rename_i h0; rw [if_pos h0] at h2; exact h2
    · rename_i h0; rw [if_neg h0] at h2; simpa [List.getD, show i - 1 < l.length by omega] using h2
theorem riseN_last {e : Int} {l : List Int} (he : 0 < e) (h : ∀ j (hj : j < l.length), lastN l j < l[j]) : riseN e 0 l = decide (lastN l l.length < e) := by
  have key : ∀ j, j ≤ l.length → ∀ i (hi : i < l.length), i < j → l[i] ≤ lastN l j := by
    intro j
    induction j with
    | zero => intro _ i _ h; omega
    | succ j ih =>
      intro hj i hi hij
      rw [lastN_succ l j (by omega)]
      by_cases hc : i = j
      · subst hc; exact Int.le_refl _
      · have h1 := ih (by omega) i hi (by omega)
        have h2 := h j (by omega)
        omega
  rw [Bool.eq_iff_iff, riseN_iff0]
  simp only [decide_eq_true_eq]
  constructor
  · intro h1
    by_cases h0 : l.length = 0
    · rw [h0]; exact he
    · have h2 := (h1 (l.length - 1) (by omega)).1
      have h3 := lastN_succ l (l.length - 1) (by omega)
      rw [show l.length - 1 + 1 = l.length by omega] at h3
      rw [h3]; exact h2
  · intro h1 i hi
    have h2 := key l.length (Nat.le_refl _) i hi hi
    exact ⟨by omega, h i hi⟩

set_option maxHeartbeats 800000 in
theorem needs_any (c : Cg) (Ad : Option Addr) (nd cd : Nat) (An : Option Addr) (nn cn : Nat) (w : World) (h : CV w c Ad nd cd An nn cn) (hid : 0 < c.id) :
    Calls Tryz.prog 131 #[.agg #[.int .i64 c.id, .int .i64 c.block, .int .i64 c.p.at_, .slice Ad nd cd, .slice An nn cn]] w fun e w' => e = .returned (.bool (riseN c.id 0 c.needs)) ∧ Below w.heap.size w w' := by
  have H := Lib.hid h
  have Hpos := Lib.hid hid
  have hm : nn ≤ 9223372036854775807 := by have := h.cap; have := h.max; unfold maxLen at *; omega
  have hi0 := h.hi0
  clear h hid
  go_enter Tryz.func131, Tryz.ntmps131
  go_wp2_with (refine wpList_box_row rfl _ _ rfl _ rfl ?_)
  apply Stop.go; intro w1 Hg1 Hb1
  have c0 : w1.cell? ⟨w.heap.size, 0, none⟩ = some (.int .i64 c.id) := Hb1.out.cell 0
  have c4 : w1.cell? ⟨w.heap.size, 4, none⟩ = some (.slice An nn cn) := Hb1.out.cell 4
  have Hr := Lib.hid (H.out.read.below Hg1.out.1)
  go_wp2_with fail
  go_loop [3, 9] (fun z i => ∃ k : Nat, k ≤ nn ∧ i = .int .i64 k ∧ z = .int .i64 (lastN c.needs k) ∧ ∀ j (h : j < c.needs.length), j < k → lastN c.needs j < c.needs[j]) (fun _ i => nn - (intOf i).toNat)
  case atStart => exact ⟨0, Nat.zero_le _, rfl, rfl, fun j _ h => absurd h (Nat.not_lt_zero _)⟩
  case round =>
    obtain ⟨k, hk, rfl, rfl, hr⟩ := hrel
    have Hk := Lib.hid hr
    clear hr
    have Hl := Lib.hid H.out.len
    by_cases hlt : k < nn
    · have d0 : decide ((k : Int) < nn) = true := by simpa using hlt
      have hkl : k < c.needs.length := by rw [Hl.out]; exact hlt
      obtain ⟨ad, rfl, hc⟩ := Hr.out.int k hkl
      have Hs := Lib.hid (lastN_succ c.needs k hkl)
      have Hf := Lib.hid (show if lastN c.needs k < c.needs[k] then lastN c.needs k < c.needs[k] else riseN c.id 0 c.needs = false by
        split
        · assumption
        · rename_i hh
          exact Bool.eq_false_iff.2 fun hr => hh (riseN_iff0.1 hr k hkl).2)
      have Hg : ∀ x z : Int, c.needs[k] = x → lastN c.needs k = z → Hid (if z < x then lastN c.needs k < c.needs[k] else riseN c.id 0 c.needs = false) := fun x z e1 e2 => by subst e1; subst e2; exact Hf
      obtain ⟨x, ex⟩ : ∃ x, c.needs[k] = x := ⟨_, rfl⟩
      obtain ⟨z, ez⟩ : ∃ z, lastN c.needs k = z := ⟨_, rfl⟩
      have Hf := Hg x z ex ez
      rw [ex] at hc Hs
      rw [ez]
      clear ex ez Hg
      by_cases hx : z < x
      · have d1 : decide (x ≤ z) = false := by simp; omega
        have Hx := Lib.hid (by have h := Hf.out; rw [if_pos hx] at h; exact h)
        clear hx
        go_wp2_with fail
        refine ⟨⟨k + 1, by omega, by go_num, by rw [Hs.out], fun j hj hjk => ?_⟩, by simp [intOf]; omega⟩
        by_cases hc : j = k
        · subst hc; exact Hx.out
        · exact Hk.out j hj (by omega)
      · have d1 : decide (x ≤ z) = true := by simp; omega
        have Hx := Lib.hid (by have h := Hf.out; rw [if_neg hx] at h; exact h)
        clear hx
        go_wp2_with fail
        go_ret
        rw [Hx.out]
        exact ⟨rfl, Hg1.out.1⟩
    · have d0 : decide ((k : Int) < nn) = false := by simpa using hlt
      have Hx := Lib.hid (show riseN c.id 0 c.needs = decide (lastN c.needs k < c.id) by
        rw [riseN_last Hpos.out (fun j hj => Hk.out j hj (by have := Hl.out; omega)), show k = c.needs.length by have := Hl.out; omega])
      generalize lastN c.needs k = z at *
      by_cases hx : z < c.id
      · have d1 : decide (z < c.id) = true := by simpa using hx
        go_wp2_with fail
        go_ret
        rw [Hx.out, d1]
        exact ⟨rfl, Hg1.out.1⟩
      · have d1 : decide (z < c.id) = false := by simpa using hx
        go_wp2_with fail
        go_ret
        rw [Hx.out, d1]
        exact ⟨rfl, Hg1.out.1⟩

end Go.Proofs.YtpmbpklbiocclaaGreat

/-
  The contract of package ready's Check.
-/
namespace Go.Proofs.YtpmbpklbiocclaaGreat
open Go.RowKit

def lastI (l : List Cg) (k : Nat) : Int := lastN (l.map (·.id)) k
theorem lastI_succ (l : List Cg) (k : Nat) (h : k < l.length) : lastI l (k + 1) = l[k].id := by
  unfold lastI
  rw [lastN_succ _ _ (by simpa using h)]
  simp
theorem mayC_iff0 {l : List Cg} : mayC l = true ↔ ∀ i (h : i < l.length), l[i].may (lastI l i) = true := by
  unfold mayC
  rw [mayN_iff]
  have key : ∀ i (h : i < l.length), (if i = 0 then 0 < l[i].id else l[i - 1].id < l[i].id) ↔ lastI l i < l[i].id := fun i h => by
    unfold lastI lastN
    by_cases h0 : i = 0
    · rw [if_pos h0, if_pos h0]
    · rw [if_neg h0, if_neg h0]
      simp [List.getD, show i - 1 < l.length by omega]
  constructor
  · intro h i hi
    obtain ⟨h1, h2⟩ := h i hi
    exact Cg.may_iff.2 ⟨(key i hi).1 h1, h2⟩
  · intro h i hi
    obtain ⟨h1, h2⟩ := Cg.may_iff.1 (h i hi)
    exact ⟨(key i hi).2 h1, h2⟩

set_option maxRecDepth 100000 in
set_option maxHeartbeats 1600000 in
theorem chk_any (A : Option Addr) (n c : Nat) (l : List Cg) (hn : l.length = n) (hm : n ≤ 4096) (w : World) (hr : RdL RdC w A 5 l) :
    Calls Tryz.prog 102 #[.slice A n c] w fun e w' => e = .returned (.int .i64 (chkI l)) ∧ Below w.heap.size w w' := by
  have Hn := Lib.hid hn
  have Hr := Lib.hid hr
  clear hn hr
  go_enter Tryz.func102, Tryz.ntmps102
  go_wp2_with fail
  go_loopw [3, 8] (fun z i wr => ∃ k : Nat, k ≤ n ∧ i = .int .i64 k ∧ z = .int .i64 (lastI l k) ∧ 0 ≤ lastI l k ∧ (∀ j (h : j < l.length), j < k → l[j].may (lastI l j) = true) ∧ Below w.heap.size w wr) (fun _ i _ => n - (intOf i).toNat)
  case atStart => exact ⟨0, Nat.zero_le _, rfl, rfl, Int.le_refl _, fun j _ h => absurd h (Nat.not_lt_zero _), Below.refl _ _⟩
  case round =>
    obtain ⟨k, hk, rfl, rfl, hz0, hall, hbw⟩ := hrel
    have Hbw := Lib.hid hbw
    have Hall := Lib.hid hall
    have Hz0 := Lib.hid hz0
    clear hbw hall hz0
    by_cases hlt : k < n
    · have d0 : decide ((k : Int) < n) = true := by simpa using hlt
      have hkl : k < l.length := by rw [Hn.out]; exact hlt
      obtain ⟨ad, Ad, nd, cd, An, nn, cn, rfl, hcv, h0, h1, h2, h3, h4⟩ := (Hr.out.below Hbw.out).cg hkl
      have Hs := Lib.hid (lastI_succ l k hkl)
      have Hno : Hid (l[k].may (lastI l k) = false → mayC l = false) := Lib.hid fun h => Bool.eq_false_iff.2 fun hh => by
        have := mayC_iff0.1 hh k hkl
        rw [this] at h; cases h
      have Hyes : Hid (l[k].may (lastI l k) = true → ∀ j (h : j < l.length), j < k + 1 → l[j].may (lastI l j) = true) := Lib.hid fun hh j hj hjk => by
        by_cases hc : j = k
        · subst hc; exact hh
        · exact Hall.out j hj (by omega)
      have Hd := Lib.hid (show l[k].may (lastI l k) = (decide (lastI l k < l[k].id) && decide (0 ≤ l[k].block) && l[k].p.right && riseN l[k].id 0 l[k].needs) from rfl)
      have C0 := Lib.hid h0
      have C1 := Lib.hid h1
      have C2 := Lib.hid h2
      have C3 := Lib.hid h3
      have C4 := Lib.hid h4
      have Hcv := Lib.hid hcv
      clear h0 h1 h2 h3 h4 hcv
      generalize hB : l[k].may (lastI l k) = B at *
      clear hB
      generalize l[k] = c at *
      generalize lastI l k = z at *
      go_wp2_with (first | refine wpList_load_five rfl _ _ rfl (ad.add (k * 5)) rfl _ _ _ _ _ C0.out C1.out C2.out C3.out C4.out _ Tryz.underlying88 Tryz.chgSize ?_ | refine wpList_alloc_row rfl _ rfl _ Tryz.chgZero ?_); apply Stop.go; intro w3 Hg3 Hb3; go_wp2_with (refine wpList_store_arr rfl _ _ _ rfl _ #[.int .i64 c.id, .int .i64 c.block, .int .i64 c.p.at_, .slice Ad nd cd, .slice An nn cn] rfl rfl _ _ Hb3.out Tryz.chgSize rfl (by simp [Value.oneCell']) ?_); apply Stop.go; intro w4 Ho4 Hb4; have D4 := Lib.hid (bonly Hg3.out.1 Ho4.out (Nat.le_refl _))
      have c0 : w4.cell? ⟨wr.heap.size, 0, none⟩ = some (.int .i64 c.id) := Hb4.out.cell 0
      have c1 : w4.cell? ⟨wr.heap.size, 1, none⟩ = some (.int .i64 c.block) := Hb4.out.cell 1
      by_cases g1 : z < c.id
      · have d1 : decide (c.id ≤ z) = false := by simp; omega
        by_cases g2 : c.block < 0
        · have d2 : decide (c.block < 0) = true := by simpa using g2
          have Hf := Lib.hid (Hno.out (by rw [Hd.out, decide_eq_false (show ¬ 0 ≤ c.block by omega)]; simp))
          clear g1 g2
          go_wp2_with fail
          go_ret
          rw [chkI_no Hf.out]
          exact ⟨rfl, bt Hbw.out D4.out⟩
        · have d2 : decide (c.block < 0) = false := by simpa using g2
          have G1 := Lib.hid g1
          have G2 := Lib.hid g2
          clear g1 g2
          go_wp2_with (refine wpList_load_pair rfl _ _ rfl ⟨wr.heap.size, 2, none⟩ rfl (.int .i64 c.p.at_) (.slice Ad nd cd) Hb4.out.five.2.2.1 Hb4.out.five.2.2.2.2.2 _ Tryz.underlying64 Tryz.patchSize ?_)
          refine (check_any c.p Ad nd cd _ (Hcv.out.p.below D4.out)).mono ?_; rintro e w5 ⟨rfl, hb5⟩
          have Hb5 := Lib.hid hb5
          have D5 := Lib.hid (bt D4.out hb5)
          have c5 : w5.cell? ⟨wr.heap.size, 0, none⟩ = some (.int .i64 c.id) := (Hb4.out.ext hb5).cell 0
          clear hb5
          have Hck := Lib.hid (show checkI c.p = if c.p.right then 0 else 2 from rfl)
          cases hr : c.p.right
          · have e1 : checkI c.p = 2 := by rw [Hck.out, hr]; rfl
            have Hf := Lib.hid (Hno.out (by rw [Hd.out, hr]; simp))
            rw [e1]
            clear hr e1
            go_wp2_with fail
            go_ret
            rw [chkI_no Hf.out]
            exact ⟨rfl, bt Hbw.out D5.out⟩
          · have e1 : checkI c.p = 0 := by rw [Hck.out, hr]; rfl
            have HR := Lib.hid hr
            rw [e1]
            clear hr e1
            go_wp2_with (refine wpList_load_blk rfl _ _ rfl _ rfl _ _ (Hb4.out.ext Hb5.out) _ Tryz.underlying88 rfl Tryz.chgSize ?_)
            refine (needs_any c Ad nd cd An nn cn _ (Hcv.out.below D5.out) (by have := Hz0.out; have := G1.out; omega)).mono ?_; rintro e w6 ⟨rfl, hb6⟩
            have D6 := Lib.hid (bt D5.out hb6)
            have c6 : w6.cell? ⟨wr.heap.size, 0, none⟩ = some (.int .i64 c.id) := ((Hb4.out.ext Hb5.out).ext hb6).cell 0
            clear hb6 c0 c1 c5
            cases hq : riseN c.id 0 c.needs
            · have Hf := Lib.hid (Hno.out (by rw [Hd.out, hq]; simp))
              clear hq
              go_wp2_with fail
              go_ret
              rw [chkI_no Hf.out]
              exact ⟨rfl, bt Hbw.out D6.out⟩
            · have Hf := Lib.hid (Hyes.out (by rw [Hd.out, hq, HR.out, decide_eq_true G1.out, decide_eq_true (show 0 ≤ c.block by have := G2.out; omega)]; rfl))
              clear hq
              go_wp2_with fail
              go_roundw
              case rel => exact ⟨k + 1, by omega, by go_num, by rw [Hs.out], by rw [Hs.out]; have := Hz0.out; have := G1.out; omega, Hf.out, bt Hbw.out D6.out⟩
              case measure => simp [intOf]; omega
      · have d1 : decide (c.id ≤ z) = true := by simp; omega
        have Hf := Lib.hid (Hno.out (by rw [Hd.out, decide_eq_false g1]; simp))
        clear g1
        go_wp2_with fail
        go_ret
        rw [chkI_no Hf.out]
        exact ⟨rfl, bt Hbw.out D4.out⟩
    · have d0 : decide ((k : Int) < n) = false := by simpa using hlt
      have Hf := Lib.hid (mayC_iff0.2 fun i hi => Hall.out i hi (by have := Hn.out; omega))
      go_wp2_with fail
      go_ret
      rw [chkI_yes Hf.out]
      exact ⟨rfl, Hbw.out⟩

end Go.Proofs.YtpmbpklbiocclaaGreat

/-
  Contracts of package ready's place (a search among changes whose IDs rise).
-/
namespace Go.Proofs.YtpmbpklbiocclaaGreat
open Go.RowKit

theorem isNaNI_any (x : Int) (w : World) : Calls Tryz.prog 125 #[.int .i64 x] w fun e w' => e = .returned (.bool false) ∧ w' = w := by
  have e1 : (x != x) = false := by simp
  go_enter Tryz.func125, Tryz.ntmps125
  go_wp2_with fail
  go_ret
  exact ⟨by first | rfl | rw [e1], rfl⟩
def cmpZ (x y : Int) : Int := if x < y then -1 else if y < x then 1 else 0
theorem cmpZ_lt {x y : Int} (h : x < y) : cmpZ x y = -1 := by unfold cmpZ; rw [if_pos h]
theorem cmpZ_gt {x y : Int} (h : y < x) : cmpZ x y = 1 := by unfold cmpZ; rw [if_neg (by omega), if_pos h]
theorem cmpZ_eq (x : Int) : cmpZ x x = 0 := by unfold cmpZ; rw [if_neg (by omega), if_neg (by omega)]
theorem cmpInt_any (x y : Int) (w : World) : Calls Tryz.prog 93 #[.int .i64 x, .int .i64 y] w fun e w' => e = .returned (.int .i64 (cmpZ x y)) ∧ w' = w := by
  unfold cmpZ
  by_cases h1 : x < y
  · rw [if_pos h1]
    have d1 : decide (x < y) = true := by simpa using h1
    clear h1
    go_enter Tryz.func93, Tryz.ntmps93
    go_wp2_with (go_at_call 125; refine (isNaNI_any _ _).mono ?_; rintro _ _ ⟨rfl, rfl⟩)
    go_ret
    exact ⟨rfl, rfl⟩
  · rw [if_neg h1]
    have d1 : decide (x < y) = false := by simpa using h1
    clear h1
    by_cases h2 : y < x
    · rw [if_pos h2]
      have d2 : decide (y < x) = true := by simpa using h2
      clear h2
      go_enter Tryz.func93, Tryz.ntmps93
      go_wp2_with (go_at_call 125; refine (isNaNI_any _ _).mono ?_; rintro _ _ ⟨rfl, rfl⟩)
      go_ret
      exact ⟨rfl, rfl⟩
    · rw [if_neg h2]
      have d2 : decide (y < x) = false := by simpa using h2
      clear h2
      go_enter Tryz.func93, Tryz.ntmps93
      go_wp2_with (go_at_call 125; refine (isNaNI_any _ _).mono ?_; rintro _ _ ⟨rfl, rfl⟩)
      go_ret
      exact ⟨rfl, rfl⟩
theorem half_uint (i j : Nat) (hlt : i < j) (h : i + j < 9223372036854775808) :
    ∃ s h : Nat, i ≤ h ∧ h < j ∧ h = (i + j) / 2 ∧ IntKind.i64.wrap ((i : Int) + j) = s ∧ IntKind.u64.wrap (s : Int) = s ∧ (s : Int) / 2 = h ∧ IntKind.i64.wrap (h : Int) = h := by
  refine ⟨i + j, (i + j) / 2, by omega, by omega, rfl, ?_, ?_, ?_, ?_⟩
  · rw [IntKind.wrap_i64]; omega
  · simp [IntKind.wrap, IntKind.bits, IntKind.signed]; omega
  · omega
  · rw [IntKind.wrap_i64]; omega
theorem mayC_rise {l : List Cg} (h : mayC l = true) (i j : Nat) (hij : i < j) (hj : j < l.length) : (l[i]'(by omega)).id < l[j].id := by
  induction j with
  | zero => omega
  | succ j ih =>
    have h1 := (Cg.may_iff.1 (mayC_iff0.1 h (j + 1) hj)).1
    rw [lastI_succ l j (by omega)] at h1
    by_cases hc : i = j
    · subst hc; exact h1
    · have := ih (by omega) (by omega)
      omega
def Found (l : List Cg) (id : Int) (p : Nat) (b : Bool) : Prop := (b = true → ∃ h : p < l.length, l[p].id = id) ∧ (b = false → ∀ c ∈ l, c.id ≠ id)

end Go.Proofs.YtpmbpklbiocclaaGreat
