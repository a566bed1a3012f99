/-
  Texts of this claim joined: Cg4, Cg5, ChgO, Cg9.
-/
import Derived.Test.YtpmbpklbiocclaaGreatGrAG
import Derived.Test.YtpmbpklbiocclaaGreatShelf
import Derived.Test.YtpmbpklbiocclaaGreatGrAF
import Derived.Test.YtpmbpklbiocclaaGreatPatO

/-
  Contracts of package ready's waitsFor, Waits.
-/
namespace Go.Proofs.YtpmbpklbiocclaaGreat
open Go.RowKit Go.Shelf



end Go.Proofs.YtpmbpklbiocclaaGreat

/-
  The contract of package ready's Waits.
-/
namespace Go.Proofs.YtpmbpklbiocclaaGreat
open Go.RowKit

theorem Tryz.infoInt : (Tryz.prog.info? 3).map (fun i => (i.zero, i.size, i.bytes)) = some (some (.int .i64 0), 1, 8) := by kernel_rfl
def preW (l : List Cg) (c : Cg) (k : Nat) : List Int := ((l.take k).filter fun d => keepsB d c).map (·.id)
theorem preW_off {l : List Cg} {c : Cg} {k : Nat} (hk : k < l.length) (h : keepsB l[k] c = false) : preW l c (k + 1) = preW l c k := by
  unfold preW
  rw [List.take_succ_eq_append_getElem hk, List.filter_append]
  simp [h]
theorem preW_on {l : List Cg} {c : Cg} {k : Nat} (hk : k < l.length) (h : keepsB l[k] c = true) : preW l c (k + 1) = preW l c k ++ [l[k].id] := by
  unfold preW
  rw [List.take_succ_eq_append_getElem hk, List.filter_append]
  simp [h]
theorem preW_len (l : List Cg) (c : Cg) (k : Nat) : (preW l c k).length ≤ k := by
  unfold preW
  rw [List.length_map]
  exact Nat.le_trans (List.length_filter_le _ _) (by rw [List.length_take]; omega)
theorem waitsC_at {l : List Cg} {p : Nat} {id : Int} (hm : mayC l = true) (hp : p < l.length) (h : l[p].id = id) : waitsC l id = preW l l[p] p := by
  rw [← h, waitsC_mid hm (pre := l.take p) (post := l.drop (p + 1)) (by rw [List.getElem_cons_drop, List.take_append_drop])]
  rfl
theorem waitsC_none {l : List Cg} {id : Int} (h : ∀ c ∈ l, c.id ≠ id) : waitsC l id = [] := by
  unfold waitsC
  rw [splitId_none.2 h]
  split <;> rfl
theorem waitsC_not {l : List Cg} (id : Int) (h : mayC l = false) : waitsC l id = [] := by
  unfold waitsC
  rw [h]
  rfl
theorem RetI.nil_ {w w' : World} (h : Below w.heap.size w w') : RetI w [] (.returned (.slice none 0 0)) w' := ⟨none, 0, 0, rfl, rfl, Nat.le_refl _, by unfold maxLen; omega, RC.nil_ _ _, h⟩
theorem OwnC.retI {w w' : World} {B : Nat} {e : TypeId} {v : Value} {l : List Int} (h : OwnC w' B e v (ivals l)) (hb : Below w.heap.size w w') : RetI w l (.returned v) w' := by
  obtain ⟨A, c, rfl, h1, h2, h3⟩ := h.ints
  exact ⟨A, _, c, rfl, rfl, h1, h2, h3, hb⟩


end Go.Proofs.YtpmbpklbiocclaaGreat

/-
  Values appended to none, in a block that is there; an empty slice made. Plain; no program is named here.
-/
namespace Go.Proofs.YtpmbpklbiocclaaGreat
open Go.RowKit

section
variable {P : Program} {ops : Array Oper} {rest : List Oper} {o : Oper} {a : Act} {w : World} {K : Act → World → Prop} {Q : Exit → Act → World → Prop}
theorem ow_build0b (t e : TypeId) (ho : o.op = .buildSlice t 0 #[]) (ht : P.underlying t = some (.slice e)) (hs : (P.info? e).map (·.size) = some 1)
    (h : Stop (∀ w', Hid (Grew w w') → Hid (Blk w' w.heap.size e #[]) → K (a.put o.dst (.slice (some ⟨w.heap.size, 0, none⟩) 0 0)) w')) : o.wp P a w K Q :=
  ow_build0 t e ho ht hs (h _ (Grew.alloc w _) (Blk.new w e _))
end
theorem ivals_one (l : List Int) : ∀ u ∈ ivals l, u.oneCell' = true := fun u hu => by
  obtain ⟨x, _, rfl⟩ := List.mem_map.1 hu
  rfl
theorem PV.lt {w : World} {p : Pt} {ad : Addr} {n c : Nat} (h : PV w p (some ad) n c) (hl : 0 < p.data.length) : ad.block < w.heap.size := by
  obtain ⟨ad', e, hc⟩ := h.read 0 hl
  injection e with e
  subst e
  have := block_lt_of_cell hc
  rwa [block_of_add] at this
theorem PV.grown {w w' : World} {p : Pt} {ad : Addr} {n c g0 : Nat} (h : PV w p (some ad) n c) (hg : w.grownBy w' (some g0)) (hne : 0 < p.data.length → ad.block ≠ g0) : PV w' p (some ad) n c :=
  ⟨h.lo, h.hi, h.len, h.cap, h.max, RB.same h.read fun hl a' e => by
    injection e with e
    subst e
    exact hg.block _ (h.lt hl) (fun e => hne hl (by injection e))⟩

end Go.Proofs.YtpmbpklbiocclaaGreat

/-
  Contracts of package ready's copied, Find.
-/
namespace Go.Proofs.YtpmbpklbiocclaaGreat
open Go.RowKit Go.Shelf

theorem Tryz.sliceByteSize : (Tryz.prog.info? 56).map (·.size) = some 1 := by kernel_rfl
theorem Tryz.sliceIntSz : (Tryz.prog.info? 59).map (·.size) = some 1 := by kernel_rfl
theorem cloneB_any (A : Option Addr) (n c : Nat) (l : List UInt8) (hn : l.length = n) (hc : n ≤ c) (_ : c ≤ maxLen) (hm : n ≤ 140737488355328) (w : World) (hr : RB w A l) :
    Calls Tryz.prog 48 #[.slice A n c] w fun e w' => ∃ A' c', e = .returned (.slice A' n c') ∧ RB w' A' l ∧ n ≤ c' ∧ c' ≤ maxLen ∧ (∀ ad, A' = some ad → w.heap.size ≤ ad.block) ∧ Below w.heap.size w w' := by
  cases A with
  | some ad =>
    refine (clone_any ad n c l hn hm w hr).mono ?_
    rintro _ w' ⟨g, c', rfl, h1, h2, h3, h4, h5⟩
    exact ⟨_, c', rfl, h1, h2, h3, fun ad e => by injection e with e; subst e; exact h4, h5⟩
  | none =>
    have hl : l = [] := by
      cases l with
      | nil => rfl
      | cons x l =>
        obtain ⟨_, e, _⟩ := hr 0 (by simp)
        cases e
    subst hl
    subst hn
    have qn : ∀ w' : World, (binOp .eql 56 (.slice none 0 c) (.slice none 0 0)).run Tryz.prog w' = .ok (.bool true) w' := fun w' => Lib.run_eql_slice_nil w' _ _ none 0 c 0 0 Tryz.underlying56
    go_enter Tryz.func48, Tryz.ntmps48
    go_wp2_with fail
    go_ret
    exact ⟨none, 0, rfl, RB.nil_ _ _, Nat.le_refl _, by unfold maxLen; omega, fun ad e => (by cases e), Below.refl _ _⟩
theorem cloneI_any (A : Option Addr) (n c : Nat) (l : List Int) (hn : l.length = n) (hm : n * 8 ≤ 140737488355328) (w : World) (hr : RC w A (ivals l)) :
    Calls Tryz.prog 106 #[.slice A n c] w fun e w' => ∃ A' c', e = .returned (.slice A' n c') ∧ RC w' A' (ivals l) ∧ n ≤ c' ∧ c' ≤ maxLen ∧ (∀ ad, A' = some ad → w.heap.size ≤ ad.block) ∧ Below w.heap.size w w' := by
  subst hn
  have key : ∀ (v' : Value) (w' : World), w'.ownsRow w.heap.size 3 1 v' l.length (l.map (Value.int .i64)) → Below w.heap.size w w' → ∃ A' c', Ending.returned v' = .returned (.slice A' l.length c') ∧ RC w' A' (ivals l) ∧ l.length ≤ c' ∧ c' ≤ maxLen ∧ (∀ ad, A' = some ad → w.heap.size ≤ ad.block) ∧ Below w.heap.size w w' := fun v' w' ho hb => by
    have ho' : OwnC w' w.heap.size 3 v' (ivals l) := by
      unfold OwnC
      rw [ivals_len]
      exact ho
    obtain ⟨A', c', rfl, h1, h2, h3⟩ := ho'.ints
    refine ⟨A', c', rfl, h3, h1, h2, fun ad e => ?_, hb⟩
    subst e
    rcases ho'.2 with ⟨h, _⟩ | ⟨g, cap, cur, hv, hbg, _⟩
    · cases h
    · injection hv with e1
      injection e1 with e1
      subst e1
      exact hbg
  cases A with
  | none =>
    have hl : l = [] := by
      cases l with
      | nil => rfl
      | cons x l =>
        obtain ⟨_, e, _⟩ := hr.int 0 (by simp)
        cases e
    subst hl
    refine (Any.slices_Clone_int_nil laysClone 0 c w).mono ?_
    rintro _ _ ⟨rfl, rfl⟩
    exact ⟨none, 0, rfl, RC.nil_ _ _, Nat.le_refl _, by unfold maxLen; omega, fun ad e => (by cases e), Below.refl _ _⟩
  | some ad =>
    by_cases h0 : l = []
    · subst h0
      refine (Any.slices_Clone_int_zero laysClone ad c w).mono ?_
      rintro _ w' ⟨v', rfl, ho, _, hb⟩
      exact key v' w' ho hb
    · have hpos : 0 < l.length := List.length_pos_iff.2 h0
      obtain ⟨ad', e, hc0⟩ := hr.int 0 hpos
      injection e with e
      subst e
      obtain ⟨b, off, spot⟩ := ad
      have hspot : spot = none := by simpa [Addr.add] using World.cell?_spot hc0
      subst hspot
      refine (Any.slices_Clone_int laysClone b off l.length c l w (Nat.le_refl _) hm fun j hj => ?_).mono ?_
      · obtain ⟨ad', e', hc⟩ := hr.int j hj
        injection e' with e'
        subst e'
        rw [WideShapes.add_plain] at hc
        rw [hc]
        simp [List.getD, hj]
      · rintro _ w' ⟨v', rfl, ho, _, hb⟩
        rw [List.take_length] at ho
        exact key v' w' ho hb

def RetCg (w : World) (c : Cg) (e : Ending) (w' : World) : Prop := ∃ Ad nd cd An nn cn, e = .returned (.agg #[.int .i64 c.id, .int .i64 c.block, .int .i64 c.p.at_, .slice Ad nd cd, .slice An nn cn]) ∧ CV w' c Ad nd cd An nn cn ∧ (∀ ad, Ad = some ad → w.heap.size ≤ ad.block) ∧ (∀ ad, An = some ad → w.heap.size ≤ ad.block) ∧ Below w.heap.size w w'
theorem PV.only {w w' : World} {p : Pt} {A : Option Addr} {n c g : Nat} (h : PV w p A n c) (ho : Only w w' g) (hne : ∀ ad, A = some ad → ad.block ≠ g) : PV w' p A n c :=
  ⟨h.lo, h.hi, h.len, h.cap, h.max, RB.same h.read fun _ ad e => ho.block _ (hne ad e)⟩
theorem CV.only {w w' : World} {c : Cg} {Ad : Option Addr} {nd cd : Nat} {An : Option Addr} {nn cn g : Nat} (h : CV w c Ad nd cd An nn cn) (ho : Only w w' g) (h1 : ∀ ad, Ad = some ad → ad.block ≠ g) (h2 : ∀ ad, An = some ad → ad.block ≠ g) : CV w' c Ad nd cd An nn cn :=
  ⟨h.lo0, h.hi0, h.lo1, h.hi1, h.p.only ho h1, h.len, h.cap, h.max, RC.same h.read fun _ ad e => ho.block _ (h2 ad e), h.nb⟩

set_option maxRecDepth 100000 in
set_option maxHeartbeats 4000000 in
theorem copied_any (c : Cg) (Ad : Option Addr) (nd cd : Nat) (An : Option Addr) (nn cn : Nat) (hd : nd ≤ 4096) (hnn : nn ≤ 4096) (w : World) (h : CV w c Ad nd cd An nn cn) :
    Calls Tryz.prog 76 #[.agg #[.int .i64 c.id, .int .i64 c.block, .int .i64 c.p.at_, .slice Ad nd cd, .slice An nn cn]] w (RetCg w c) := by
  have H := Lib.hid h
  clear h
  go_enter Tryz.func76, Tryz.ntmps76
  go_wp2_with (refine wpList_box_row rfl _ _ rfl _ rfl ?_)
  apply Stop.go; intro w1 Hg1 Hb1
  go_wp2_with (refine wpList_alloc_row rfl _ rfl _ Tryz.chgZero ?_)
  apply Stop.go; intro w2 Hg2 Hb2
  have Hx2 := Lib.hid (Hb1.out.ext Hg2.out.1)
  have Hw2 := Lib.hid (bt Hg1.out.1 Hg2.out.1)
  have Z := Lib.hid (show w1.heap.size = w.heap.size + 1 ∧ w2.heap.size = w1.heap.size + 1 from ⟨Hg1.out.2, Hg2.out.2⟩)
  have c3 : w2.cell? ⟨w.heap.size, 3, none⟩ = some (.slice Ad nd cd) := Hx2.out.five.2.2.2.1
  go_wp2_with fail
  refine (cloneB_any Ad nd cd c.p.data H.out.p.len H.out.p.cap H.out.p.max (by omega) _ (H.out.p.read.below Hw2.out)).mono ?_; rintro e w3 ⟨Ad3, cd3, rfl, hr3, q3, m3, f3, hb3⟩
  have HR3 := Lib.hid hr3
  have HQ3 := Lib.hid (And.intro q3 m3)
  have HF3 := Lib.hid (show ∀ ad, Ad3 = some ad → w.heap.size < ad.block ∧ w1.heap.size < ad.block from fun ad e => by have := f3 ad e; have := Z.out; omega)
  have Hx3 := Lib.hid (Hx2.out.ext hb3)
  have Hy3 := Lib.hid (Hb2.out.ext hb3)
  have Hw3 := Lib.hid (bt Hw2.out hb3)
  clear hr3 hb3 q3 m3 f3 c3
  go_wp2_with (refine wpList_store_cell rfl _ _ _ rfl Tryz.sliceByteSize w.heap.size 3 rfl (.slice Ad3 nd cd3) rfl rfl rfl _ _ Hx3.out (by simp) ?_)
  apply Stop.go; intro w4 Ho4 Hb4
  have Hx4 := Lib.hid (show Blk w4 w.heap.size 88 #[.int .i64 c.id, .int .i64 c.block, .int .i64 c.p.at_, .slice Ad3 nd cd3, .slice An nn cn] from Hb4.out)
  have Hy4 := Lib.hid (Hy3.out.only Ho4.out (by have := Z.out; omega))
  have Hw4 := Lib.hid (bonly Hw3.out Ho4.out (Nat.le_refl _))
  have HR4 := Lib.hid (RB.same HR3.out fun _ ad e => Ho4.out.block _ (by have := HF3.out ad e; omega))
  have c4 : w4.cell? ⟨w.heap.size, 4, none⟩ = some (.slice An nn cn) := Hx4.out.five.2.2.2.2.1
  clear HR3 Hb4
  go_wp2_with fail
  refine (cloneI_any An nn cn c.needs H.out.len (by omega) _ (H.out.read.below Hw4.out)).mono ?_; rintro e w5 ⟨An5, cn5, rfl, hr5, q5, m5, f5, hb5⟩
  have HR5 := Lib.hid hr5
  have HQ5 := Lib.hid (And.intro q5 m5)
  have HF5 := Lib.hid (show ∀ ad, An5 = some ad → w.heap.size < ad.block ∧ w1.heap.size < ad.block from fun ad e => by have := f5 ad e; have := Z.out; have := Ho4.out.size; have := Hw3.out.size; have := Hy3.out.lt; omega)
  have Hx5 := Lib.hid (Hx4.out.ext hb5)
  have Hy5 := Lib.hid (Hy4.out.ext hb5)
  have Hw5 := Lib.hid (bt Hw4.out hb5)
  have HRB5 := Lib.hid (HR4.out.below hb5)
  clear hr5 hb5 q5 m5 f5 c4
  go_wp2_with (refine wpList_store_cell rfl _ _ _ rfl Tryz.sliceIntSz w.heap.size 4 rfl (.slice An5 nn cn5) rfl rfl rfl _ _ Hx5.out (by simp) ?_)
  apply Stop.go; intro w6 Ho6 Hb6
  have Hx6 := Lib.hid (show Blk w6 w.heap.size 88 #[.int .i64 c.id, .int .i64 c.block, .int .i64 c.p.at_, .slice Ad3 nd cd3, .slice An5 nn cn5] from Hb6.out)
  have Hy6 := Lib.hid (Hy5.out.only Ho6.out (by have := Z.out; omega))
  have Hw6 := Lib.hid (bonly Hw5.out Ho6.out (Nat.le_refl _))
  have HRB6 := Lib.hid (RB.same HRB5.out fun _ ad e => Ho6.out.block _ (by have := HF3.out ad e; omega))
  have HRI6 := Lib.hid (RC.same HR5.out fun _ ad e => Ho6.out.block _ (by have := HF5.out ad e; omega))
  have HC6 : Hid (CV w6 c Ad3 nd cd3 An5 nn cn5) := Lib.hid ⟨H.out.lo0, H.out.hi0, H.out.lo1, H.out.hi1, ⟨H.out.p.lo, H.out.p.hi, H.out.p.len, HQ3.out.1, HQ3.out.2, HRB6.out⟩, H.out.len, HQ5.out.1, HQ5.out.2, HRI6.out, H.out.nb⟩
  clear Hb6 HRB5 HR5 HR4
  go_wp2_with (first | refine wpList_load_blk rfl _ _ rfl _ rfl _ _ Hx6.out _ Tryz.underlying88 rfl Tryz.chgSize ?_ | refine wpList_store_arr rfl _ _ _ rfl _ #[.int .i64 c.id, .int .i64 c.block, .int .i64 c.p.at_, .slice Ad3 nd cd3, .slice An5 nn cn5] rfl rfl _ _ Hy6.out Tryz.chgSize rfl (by simp [Value.oneCell']) ?_)
  apply Stop.go; intro w7 Ho7 Hb7
  go_wp2_with ((with_reducible show bodyPost _ _ _ _ _ _); refine bodyPost_struct rfl _ rfl _ _ Hb7.out _ Tryz.underlying88 rfl Tryz.chgSize rfl ?_)
  apply Stop.go
  exact ⟨Ad3, nd, cd3, An5, nn, cn5, rfl, HC6.out.only Ho7.out (fun ad e => by have := HF3.out ad e; omega) (fun ad e => by have := HF5.out ad e; omega), fun ad e => by have := HF3.out ad e; omega, fun ad e => by have := HF5.out ad e; omega, bonly Hw6.out Ho7.out (by have := Z.out; omega)⟩

end Go.Proofs.YtpmbpklbiocclaaGreat
