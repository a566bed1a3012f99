/-
  Contracts of geom's functions.
-/
import Derived.Test.YtbajicgpjggkfaaGreatGrB
import Derived.Test.YtbajicgpjggkfaaGreatGrU
import Derived.Test.YtbajicgpjggkfaaGreatGrA
import Derived.BigQuiet
namespace Go.Proofs.YtbajicgpjggkfaaGreat
open Go.RowKit


set_option maxHeartbeats 800000 in
theorem gmay_any (l : Lay14) (w : World) :
    Calls Tryz.prog 114 #[.agg l.val] w fun e w' => e = .returned (.bool l.may) ∧ Below w.heap.size w w' := by
  go_enter Tryz.func114, Tryz.ntmps114
  go_wp2_with (refine wpList_box_row rfl _ _ rfl _ rfl ?_)
  apply Stop.go; intro w1 Hg1 Hb1
  go_wp2_with (refine wpList_load_blk rfl _ _ rfl _ rfl _ _ Hb1.out _ Tryz.underlying26 rfl Tryz.laySize ?_)
  refine (check14_any l _).mono ?_; rintro e w2 ⟨rfl, hb2⟩
  have Hbel := Lib.hid (bt Hg1.out.1 hb2)
  clear hb2
  obtain ⟨b, Hm⟩ : ∃ b, Hid (l.may = b) := ⟨_, Lib.hid rfl⟩
  rw [Hm.out]
  cases b
  · rw [okArg_false]
    go_wp2_with fail
    go_ret
    rw [Hm.out]
    exact ⟨rfl, Hbel.out⟩
  · rw [okArg_true]
    go_wp2_with fail
    go_ret
    rw [Hm.out]
    exact ⟨rfl, Hbel.out⟩

set_option maxHeartbeats 800000 in
theorem table_any (l : Lay14) (w : World) :
    Calls Tryz.prog 159 #[.agg l.val] w fun e w' => e = .returned (.tuple #[.int .i64 l.tf, .int .i64 l.tn]) ∧ Below w.heap.size w w' := by
  go_enter Tryz.func159, Tryz.ntmps159
  go_wp2_with (refine wpList_box_row rfl _ _ rfl _ rfl ?_)
  apply Stop.go; intro w1 Hg1 Hb1
  go_wp2_with (refine wpList_load_blk rfl _ _ rfl _ rfl _ _ Hb1.out _ Tryz.underlying26 rfl Tryz.laySize ?_)
  refine (gmay_any l _).mono ?_; rintro e w2 ⟨rfl, hb2⟩
  have Hbel := Lib.hid (bt Hg1.out.1 hb2)
  have Hb2 := Lib.hid (Hb1.out.ext hb2)
  clear hb2
  obtain ⟨b, Hm⟩ : ∃ b, Hid (l.may = b) := ⟨_, Lib.hid rfl⟩
  rw [Hm.out]
  cases b
  · go_wp2_with fail
    go_ret2
    have h := Lay14.off Hm.out
    rw [h.1, h.2.1]
    exact ⟨rfl, Hbel.out⟩
  · have h := Lay14.may_iff.1 Hm.out
    have h1 : 0 ≤ l.inodes := by omega
    have h2 : l.inodes ≤ 128 := by omega
    have c1 := Hb2.out.lay1
    clear h
    go_wp2_with fail
    go_quiet (fail)
    go_wp2_with fail
    go_ret2
    have h := Lay14.on Hm.out
    rw [h.1, h.2.1]
    exact ⟨rfl, bt Hbel.out (bdrew _ _)⟩

set_option maxHeartbeats 800000 in
theorem data_any (l : Lay14) (w : World) :
    Calls Tryz.prog 118 #[.agg l.val] w fun e w' => e = .returned (.int .i64 l.data) ∧ Below w.heap.size w w' := by
  have h := l.bounds
  have hd : l.tf + l.tn = l.data := rfl
  have HD := Lib.hid hd
  have h1 := h.1
  have h2 := h.2.1
  have h3 := h.2.2.1
  have h4 := h.2.2.2.1
  clear h hd
  go_enter Tryz.func118, Tryz.ntmps118
  go_wp2_with (refine wpList_box_row rfl _ _ rfl _ rfl ?_)
  apply Stop.go; intro w1 Hg1 Hb1
  go_wp2_with (refine wpList_load_blk rfl _ _ rfl _ rfl _ _ Hb1.out _ Tryz.underlying26 rfl Tryz.laySize ?_)
  refine (table_any l _).mono ?_; rintro e w2 ⟨rfl, hb2⟩
  have Hbel := Lib.hid (bt Hg1.out.1 hb2)
  clear hb2
  go_wp2_with fail
  go_ret
  rw [← HD.out]
  exact ⟨rfl, Hbel.out⟩


set_option maxHeartbeats 800000 in
theorem isdata_any (l : Lay14) (no : Int) (w : World) :
    Calls Tryz.prog 73 #[.agg l.val, .int .i64 no] w fun e w' => e = .returned (.bool (l.isD no)) ∧ Below w.heap.size w w' := by
  go_enter Tryz.func73, Tryz.ntmps73
  go_wp2_with (refine wpList_box_row rfl _ _ rfl _ rfl ?_)
  apply Stop.go; intro w1 Hg1 Hb1
  go_wp2_with (refine wpList_load_blk rfl _ _ rfl _ rfl _ _ Hb1.out _ Tryz.underlying26 rfl Tryz.laySize ?_)
  refine (gmay_any l _).mono ?_; rintro e w2 ⟨rfl, hb2⟩
  have Hbel := Lib.hid (bt Hg1.out.1 hb2)
  have Hb2 := Lib.hid (Hb1.out.ext hb2)
  clear hb2
  obtain ⟨b, Hm⟩ : ∃ b, Hid (l.may = b) := ⟨_, Lib.hid rfl⟩
  rw [Hm.out]
  cases b
  · go_wp2_with fail
    go_ret
    rw [Lay14.isD_off Hm.out]
    exact ⟨rfl, Hbel.out⟩
  · go_wp2_with (refine wpList_load_blk rfl _ _ rfl _ rfl _ _ Hb2.out _ Tryz.underlying26 rfl Tryz.laySize ?_)
    refine (data_any l _).mono ?_; rintro e w3 ⟨rfl, hb3⟩
    have Hbel3 := Lib.hid (bt Hbel.out hb3)
    have Hb3 := Lib.hid (Hb2.out.ext hb3)
    clear hb3
    have c0 := Hb3.out.lay0
    by_cases h1 : l.data ≤ no <;> by_cases h2 : no < l.blocks
    all_goals
      go_wp2_with fail
      go_ret
      exact ⟨congrArg (fun b => Ending.returned (.bool b)) (Bool.eq_iff_iff.2 (by rw [Lay14.isD_on Hm.out]; simp only [decide_eq_true_eq, Bool.false_eq_true, false_iff, true_iff]; omega)), Hbel3.out⟩

set_option maxHeartbeats 800000 in
theorem isinode_any (l : Lay14) (i : Int) (w : World) :
    Calls Tryz.prog 68 #[.agg l.val, .int .i64 i] w fun e w' => e = .returned (.bool (l.isI i)) ∧ Below w.heap.size w w' := by
  go_enter Tryz.func68, Tryz.ntmps68
  go_wp2_with (refine wpList_box_row rfl _ _ rfl _ rfl ?_)
  apply Stop.go; intro w1 Hg1 Hb1
  go_wp2_with (refine wpList_load_blk rfl _ _ rfl _ rfl _ _ Hb1.out _ Tryz.underlying26 rfl Tryz.laySize ?_)
  refine (gmay_any l _).mono ?_; rintro e w2 ⟨rfl, hb2⟩
  have Hbel := Lib.hid (bt Hg1.out.1 hb2)
  have Hb2 := Lib.hid (Hb1.out.ext hb2)
  clear hb2
  obtain ⟨b, Hm⟩ : ∃ b, Hid (l.may = b) := ⟨_, Lib.hid rfl⟩
  rw [Hm.out]
  cases b
  · go_wp2_with fail
    go_ret
    rw [Lay14.isI_off Hm.out]
    exact ⟨rfl, Hbel.out⟩
  · have c1 := Hb2.out.lay1
    by_cases h1 : 1 ≤ i <;> by_cases h2 : i ≤ l.inodes
    all_goals
      go_wp2_with fail
      go_ret
      exact ⟨congrArg (fun b => Ending.returned (.bool b)) (Bool.eq_iff_iff.2 (by rw [Lay14.isI_on Hm.out]; simp only [decide_eq_true_eq, Bool.false_eq_true, false_iff, true_iff]; omega)), Hbel.out⟩

set_option maxHeartbeats 800000 in
theorem gwhere_any (l : Lay14) (i : Int) (w : World) :
    Calls Tryz.prog 31 #[.agg l.val, .int .i64 i] w fun e w' => e = .returned (.tuple #[.int .i64 (l.wb i), .int .i64 (l.wk i), .bool (l.isI i)]) ∧ Below w.heap.size w w' := by
  go_enter Tryz.func31, Tryz.ntmps31
  go_wp2_with (refine wpList_box_row rfl _ _ rfl _ rfl ?_)
  apply Stop.go; intro w1 Hg1 Hb1
  go_wp2_with (refine wpList_load_blk rfl _ _ rfl _ rfl _ _ Hb1.out _ Tryz.underlying26 rfl Tryz.laySize ?_)
  refine (isinode_any l i _).mono ?_; rintro e w2 ⟨rfl, hb2⟩
  have Hbel := Lib.hid (bt Hg1.out.1 hb2)
  clear hb2
  obtain ⟨b, Hm⟩ : ∃ b, Hid (l.isI i = b) := ⟨_, Lib.hid rfl⟩
  rw [Hm.out]
  cases b
  · have h := Lay14.where_off Hm.out
    go_wp2_with fail
    go_ret3
    rw [Hm.out, h.1, h.2]
    exact ⟨rfl, Hbel.out⟩
  · have h := Lay14.where_on Hm.out
    have ho := Lay14.on h.1
    have HV := Lib.hid (And.intro h.2.2.2.1 h.2.2.2.2.1)
    have h1 : 1 ≤ i := h.2.1
    have h2 : i ≤ 128 := by omega
    clear h ho
    go_wp2_with fail
    go_ret3
    rw [Hm.out, HV.out.1, HV.out.2]
    exact ⟨rfl, Hbel.out⟩



end Go.Proofs.YtbajicgpjggkfaaGreat
