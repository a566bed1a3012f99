/-
  Contracts of geom's functions.
-/
import Derived.Test.YtpdeohmgjblkeaaGeomA
import Derived.Test.YtpdeohmgjblkeaaSup1
import Derived.Test.YtpdeohmgjblkeaaGrA
import Derived.BigQuiet
namespace Go.Proofs.Ytpdeohmgjblkeaa
open Go.RowKit

theorem map_any (w : World) : Calls Try.prog 33 #[] w fun e w' => e = .returned (.int .i64 1) ∧ w = w' := by
  go_enter Try.func33, Try.ntmps33
  go_wp2_with fail
  go_ret
  exact ⟨rfl, rfl⟩

set_option maxHeartbeats 800000 in
theorem gmay_any (l : Lay14) (w : World) :
    Calls Try.prog 48 #[.agg l.val] w fun e w' => e = .returned (.bool l.may) ∧ Below w.heap.size w w' := by
  go_enter Try.func48, Try.ntmps48
  go_wp2_with (refine wpList_box_row rfl _ _ rfl _ rfl ?_)
  apply Stop.go; intro w1 Hg1 Hb1
  go_wp2_with (refine wpList_load_blk rfl _ _ rfl _ rfl _ _ Hb1.out _ Try.underlying26 rfl Try.laySize ?_)
  refine (check14_any l _).mono ?_; rintro e w2 ⟨rfl, hb2⟩
  have Hbel := Lib.hid (bt Hg1.out.1 hb2)
  clear hb2
  obtain ⟨b, Hm⟩ : ∃ b, Hid (l.may = b) := ⟨_, Lib.hid rfl⟩
  rw [Hm.out]
  cases b
  · rw [okArg_false]
    go_wp2_with fail
    go_ret
    rw [Hm.out]
    exact ⟨rfl, Hbel.out⟩
  · rw [okArg_true]
    go_wp2_with fail
    go_ret
    rw [Hm.out]
    exact ⟨rfl, Hbel.out⟩

set_option maxHeartbeats 800000 in
theorem table_any (l : Lay14) (w : World) :
    Calls Try.prog 27 #[.agg l.val] w fun e w' => e = .returned (.tuple #[.int .i64 l.tf, .int .i64 l.tn]) ∧ Below w.heap.size w w' := by
  go_enter Try.func27, Try.ntmps27
  go_wp2_with (refine wpList_box_row rfl _ _ rfl _ rfl ?_)
  apply Stop.go; intro w1 Hg1 Hb1
  go_wp2_with (refine wpList_load_blk rfl _ _ rfl _ rfl _ _ Hb1.out _ Try.underlying26 rfl Try.laySize ?_)
  refine (gmay_any l _).mono ?_; rintro e w2 ⟨rfl, hb2⟩
  have Hbel := Lib.hid (bt Hg1.out.1 hb2)
  have Hb2 := Lib.hid (Hb1.out.ext hb2)
  clear hb2
  obtain ⟨b, Hm⟩ : ∃ b, Hid (l.may = b) := ⟨_, Lib.hid rfl⟩
  rw [Hm.out]
  cases b
  · go_wp2_with fail
    go_ret2
    have h := Lay14.off Hm.out
    rw [h.1, h.2.1]
    exact ⟨rfl, Hbel.out⟩
  · have h := Lay14.may_iff.1 Hm.out
    have h1 : 0 ≤ l.inodes := by omega
    have h2 : l.inodes ≤ 128 := by omega
    have c1 := Hb2.out.lay1
    clear h
    go_wp2_with fail
    go_quiet (fail)
    go_wp2_with fail
    go_ret2
    have h := Lay14.on Hm.out
    rw [h.1, h.2.1]
    exact ⟨rfl, bt Hbel.out (bdrew _ _)⟩

set_option maxHeartbeats 800000 in
theorem data_any (l : Lay14) (w : World) :
    Calls Try.prog 52 #[.agg l.val] w fun e w' => e = .returned (.int .i64 l.data) ∧ Below w.heap.size w w' := by
  have h := l.bounds
  have hd : l.tf + l.tn = l.data := rfl
  have HD := Lib.hid hd
  have h1 := h.1
  have h2 := h.2.1
  have h3 := h.2.2.1
  have h4 := h.2.2.2.1
  clear h hd
  go_enter Try.func52, Try.ntmps52
  go_wp2_with (refine wpList_box_row rfl _ _ rfl _ rfl ?_)
  apply Stop.go; intro w1 Hg1 Hb1
  go_wp2_with (refine wpList_load_blk rfl _ _ rfl _ rfl _ _ Hb1.out _ Try.underlying26 rfl Try.laySize ?_)
  refine (table_any l _).mono ?_; rintro e w2 ⟨rfl, hb2⟩
  have Hbel := Lib.hid (bt Hg1.out.1 hb2)
  clear hb2
  go_wp2_with fail
  go_ret
  rw [← HD.out]
  exact ⟨rfl, Hbel.out⟩



set_option maxHeartbeats 800000 in
theorem isinode_any (l : Lay14) (i : Int) (w : World) :
    Calls Try.prog 56 #[.agg l.val, .int .i64 i] w fun e w' => e = .returned (.bool (l.isI i)) ∧ Below w.heap.size w w' := by
  go_enter Try.func56, Try.ntmps56
  go_wp2_with (refine wpList_box_row rfl _ _ rfl _ rfl ?_)
  apply Stop.go; intro w1 Hg1 Hb1
  go_wp2_with (refine wpList_load_blk rfl _ _ rfl _ rfl _ _ Hb1.out _ Try.underlying26 rfl Try.laySize ?_)
  refine (gmay_any l _).mono ?_; rintro e w2 ⟨rfl, hb2⟩
  have Hbel := Lib.hid (bt Hg1.out.1 hb2)
  have Hb2 := Lib.hid (Hb1.out.ext hb2)
  clear hb2
  obtain ⟨b, Hm⟩ : ∃ b, Hid (l.may = b) := ⟨_, Lib.hid rfl⟩
  rw [Hm.out]
  cases b
  · go_wp2_with fail
    go_ret
    rw [Lay14.isI_off Hm.out]
    exact ⟨rfl, Hbel.out⟩
  · have c1 := Hb2.out.lay1
    by_cases h1 : 1 ≤ i <;> by_cases h2 : i ≤ l.inodes
    all_goals
      go_wp2_with fail
      go_ret
      exact ⟨congrArg (fun b => Ending.returned (.bool b)) (Bool.eq_iff_iff.2 (by rw [Lay14.isI_on Hm.out]; simp only [decide_eq_true_eq, Bool.false_eq_true, false_iff, true_iff]; omega)), Hbel.out⟩

set_option maxHeartbeats 800000 in
theorem gwhere_any (l : Lay14) (i : Int) (w : World) :
    Calls Try.prog 34 #[.agg l.val, .int .i64 i] w fun e w' => e = .returned (.tuple #[.int .i64 (l.wb i), .int .i64 (l.wk i), .bool (l.isI i)]) ∧ Below w.heap.size w w' := by
  go_enter Try.func34, Try.ntmps34
  go_wp2_with (refine wpList_box_row rfl _ _ rfl _ rfl ?_)
  apply Stop.go; intro w1 Hg1 Hb1
  go_wp2_with (refine wpList_load_blk rfl _ _ rfl _ rfl _ _ Hb1.out _ Try.underlying26 rfl Try.laySize ?_)
  refine (isinode_any l i _).mono ?_; rintro e w2 ⟨rfl, hb2⟩
  have Hbel := Lib.hid (bt Hg1.out.1 hb2)
  clear hb2
  obtain ⟨b, Hm⟩ : ∃ b, Hid (l.isI i = b) := ⟨_, Lib.hid rfl⟩
  rw [Hm.out]
  cases b
  · have h := Lay14.where_off Hm.out
    go_wp2_with fail
    go_ret3
    rw [Hm.out, h.1, h.2]
    exact ⟨rfl, Hbel.out⟩
  · have h := Lay14.where_on Hm.out
    have ho := Lay14.on h.1
    have HV := Lib.hid (And.intro h.2.2.2.1 h.2.2.2.2.1)
    have h1 : 1 ≤ i := h.2.1
    have h2 : i ≤ 128 := by omega
    clear h ho
    go_wp2_with fail
    go_ret3
    rw [Hm.out, HV.out.1, HV.out.2]
    exact ⟨rfl, Hbel.out⟩

set_option maxHeartbeats 800000 in
theorem inode_any (l : Lay14) (b k : Int) (w : World) :
    Calls Try.prog 29 #[.agg l.val, .int .i64 b, .int .i64 k] w fun e w' => e = .returned (.tuple #[.int .i64 (l.ino b k), .bool (l.has b k)]) ∧ Below w.heap.size w w' := by
  have HB := Lib.hid l.bounds
  by_cases h1 : 2 ≤ b
  · have d0 : decide (b < 2) = false := by simp; omega
    go_enter Try.func29, Try.ntmps29
    go_wp2_with (refine wpList_box_row rfl _ _ rfl _ rfl ?_)
    apply Stop.go; intro w1 Hg1 Hb1
    go_wp2_with (refine wpList_load_blk rfl _ _ rfl _ rfl _ _ Hb1.out _ Try.underlying26 rfl Try.laySize ?_)
    refine (data_any l _).mono ?_; rintro e w2 ⟨rfl, hb2⟩
    have Hbel := Lib.hid (bt Hg1.out.1 hb2)
    clear hb2
    by_cases hh : l.has b k = true
    · have h := of_decide_eq_true hh
      have HI := Lib.hid (show l.ino b k = (b - 2) * 8 + k + 1 by unfold Lay14.ino; rw [if_pos hh])
      have HH := Lib.hid hh
      have h2 : b < l.data := by omega
      have h3 : b ≤ 18 := by have := HB.out; omega
      have h4 : 0 ≤ k := by omega
      have h5 : k < 8 := by omega
      clear h hh
      go_wp2_with fail
      go_ret2
      rw [HH.out, HI.out]
      exact ⟨rfl, Hbel.out⟩
    · have hf : l.has b k = false := by simpa using hh
      have HI := Lib.hid (show l.ino b k = 0 by unfold Lay14.ino; rw [if_neg hh])
      have HN := Lib.hid (show ¬ (2 ≤ b ∧ b < l.data ∧ 0 ≤ k ∧ k < 8) from of_decide_eq_false hf)
      have HH := Lib.hid hf
      clear hh hf
      go_wp2_with fail
      all_goals
        first
        | (exfalso; have := HN.out; omega)
        | (go_ret2
           rw [HH.out, HI.out]
           exact ⟨rfl, Hbel.out⟩)
  · have hf : l.has b k = false := decide_eq_false (by omega)
    have HI := Lib.hid (show l.ino b k = 0 by unfold Lay14.ino; rw [if_neg (by rw [hf]; simp)])
    rw [hf, HI.out]
    clear hf
    go_enter Try.func29, Try.ntmps29
    go_wp2_with (refine wpList_box_row rfl _ _ rfl _ rfl ?_)
    apply Stop.go; intro w1 Hg1 Hb1
    go_wp2_with fail
    go_ret2
    exact ⟨rfl, Hg1.out.1⟩


end Go.Proofs.Ytpdeohmgjblkeaa
