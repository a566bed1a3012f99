/-
  Contracts of geom's functions.
-/
import Derived.Test.YtffemgjbicebeaaGeomA
import Derived.Test.YtffemgjbicebeaaSup1
import Derived.Test.YtffemgjbicebeaaRets
import Derived.BigQuiet
namespace Go.Proofs.Ytffemgjbicebeaa
open Go.RowKit

set_option maxHeartbeats 800000 in
theorem gmay_any (l : Lay14) (w : World) :
    Calls Try.prog 21 #[.agg l.val] w fun e w' => e = .returned (.bool l.may) ∧ Below w.heap.size w w' := by
  go_enter Try.func21, Try.ntmps21
  go_wp2_with (refine wpList_box_row rfl _ _ rfl _ rfl ?_)
  apply Stop.go; intro w1 Hg1 Hb1
  go_wp2_with (refine wpList_load_blk rfl _ _ rfl _ rfl _ _ Hb1.out _ Try.underlying24 rfl Try.laySize ?_)
  refine (check14_any l _).mono ?_; rintro e w2 ⟨rfl, hb2⟩
  have Hbel := Lib.hid (bt Hg1.out.1 hb2)
  clear hb2
  obtain ⟨b, Hm⟩ : ∃ b, Hid (l.may = b) := ⟨_, Lib.hid rfl⟩
  rw [Hm.out]
  cases b
  · rw [okArg_false]
    go_wp2_with fail
    go_ret
    rw [Hm.out]
    exact ⟨rfl, Hbel.out⟩
  · rw [okArg_true]
    go_wp2_with fail
    go_ret
    rw [Hm.out]
    exact ⟨rfl, Hbel.out⟩

set_option maxHeartbeats 800000 in
theorem table_any (l : Lay14) (w : World) :
    Calls Try.prog 7 #[.agg l.val] w fun e w' => e = .returned (.tuple #[.int .i64 l.tf, .int .i64 l.tn]) ∧ Below w.heap.size w w' := by
  go_enter Try.func7, Try.ntmps7
  go_wp2_with (refine wpList_box_row rfl _ _ rfl _ rfl ?_)
  apply Stop.go; intro w1 Hg1 Hb1
  go_wp2_with (refine wpList_load_blk rfl _ _ rfl _ rfl _ _ Hb1.out _ Try.underlying24 rfl Try.laySize ?_)
  refine (gmay_any l _).mono ?_; rintro e w2 ⟨rfl, hb2⟩
  have Hbel := Lib.hid (bt Hg1.out.1 hb2)
  have Hb2 := Lib.hid (Hb1.out.ext hb2)
  clear hb2
  obtain ⟨b, Hm⟩ : ∃ b, Hid (l.may = b) := ⟨_, Lib.hid rfl⟩
  rw [Hm.out]
  cases b
  · go_wp2_with fail
    go_ret2
    have h := Lay14.off Hm.out
    rw [h.1, h.2.1]
    exact ⟨rfl, Hbel.out⟩
  · have h := Lay14.may_iff.1 Hm.out
    have h1 : 0 ≤ l.inodes := by omega
    have h2 : l.inodes ≤ 128 := by omega
    have c1 := Hb2.out.lay1
    clear h
    go_wp2_with fail
    go_quiet (fail)
    go_wp2_with fail
    go_ret2
    have h := Lay14.on Hm.out
    rw [h.1, h.2.1]
    exact ⟨rfl, bt Hbel.out (bdrew _ _)⟩

set_option maxHeartbeats 800000 in
theorem data_any (l : Lay14) (w : World) :
    Calls Try.prog 9 #[.agg l.val] w fun e w' => e = .returned (.int .i64 l.data) ∧ Below w.heap.size w w' := by
  have h := l.bounds
  have hd : l.tf + l.tn = l.data := rfl
  have HD := Lib.hid hd
  have h1 := h.1
  have h2 := h.2.1
  have h3 := h.2.2.1
  have h4 := h.2.2.2.1
  clear h hd
  go_enter Try.func9, Try.ntmps9
  go_wp2_with (refine wpList_box_row rfl _ _ rfl _ rfl ?_)
  apply Stop.go; intro w1 Hg1 Hb1
  go_wp2_with (refine wpList_load_blk rfl _ _ rfl _ rfl _ _ Hb1.out _ Try.underlying24 rfl Try.laySize ?_)
  refine (table_any l _).mono ?_; rintro e w2 ⟨rfl, hb2⟩
  have Hbel := Lib.hid (bt Hg1.out.1 hb2)
  clear hb2
  go_wp2_with fail
  go_ret
  rw [← HD.out]
  exact ⟨rfl, Hbel.out⟩

set_option maxHeartbeats 800000 in
theorem many_any (l : Lay14) (w : World) :
    Calls Try.prog 10 #[.agg l.val] w fun e w' => e = .returned (.int .i64 l.many) ∧ Below w.heap.size w w' := by
  go_enter Try.func10, Try.ntmps10
  go_wp2_with (refine wpList_box_row rfl _ _ rfl _ rfl ?_)
  apply Stop.go; intro w1 Hg1 Hb1
  go_wp2_with (refine wpList_load_blk rfl _ _ rfl _ rfl _ _ Hb1.out _ Try.underlying24 rfl Try.laySize ?_)
  refine (gmay_any l _).mono ?_; rintro e w2 ⟨rfl, hb2⟩
  have Hbel := Lib.hid (bt Hg1.out.1 hb2)
  have Hb2 := Lib.hid (Hb1.out.ext hb2)
  clear hb2
  obtain ⟨b, Hm⟩ : ∃ b, Hid (l.may = b) := ⟨_, Lib.hid rfl⟩
  rw [Hm.out]
  cases b
  · go_wp2_with fail
    go_ret
    rw [(Lay14.off Hm.out).2.2.2]
    exact ⟨rfl, Hbel.out⟩
  · have h := Lay14.on Hm.out
    have h1 : 0 ≤ l.data := by omega
    have h2 : l.data ≤ 18 := by omega
    have h3 : 16 ≤ l.blocks := by omega
    have h4 : l.blocks ≤ 512 := by omega
    clear h
    go_wp2_with fail
    refine WH.start (S := fun w' : World => Blk w' w.heap.size 24 l.val) [false, false, false, false, false, false] 6 rfl rfl (by kernel_rfl) (Hb2.out.ext (bdrew w2 1)) (fun hSn => ?_); obtain ⟨wS, hwS⟩ : ∃ x, (w2).drew = x := ⟨_, rfl⟩; have HE := Lib.hid (show Below (w2).heap.size (w2) wS from hwS ▸ bdrew w2 1); rw [hwS] at hSn ⊢; clear hwS
    refine WH.tk 0 ?_; simp only [setL]
    refine WH.tv 1 rfl (fun w' hSw => exec_load_cell _ _ rfl ⟨w.heap.size, 0, none⟩ rfl _ hSw.lay0 _ Try.underlying3 rfl) ?_; simp only [setL]
    refine WH.tv 2 rfl (fun w' hSw => exec_load_blk _ _ rfl _ rfl _ _ (hSw) _ (Try.underlying24) rfl (Try.laySize)) ?_; simp only [setL]
    refine WH.only 3 _ rfl (by kernel_rfl) rfl (fun K hK => ?_)
    go_simp; refine (data_any l _).mono ?_; rintro e wa ⟨rfl, hba⟩; go_simp
    have HE := Lib.hid (bt HE.out hba)
    have hSn := hSn.ext hba; refine hK _ _ hSn ?_; clear hK; clear K; simp only [setL]
    refine WH.tk 4 ?_; simp only [setL]
    refine WH.tk 5 ?_; simp only [setL]
    refine WH.done (by kernel_rfl) ?_
    go_wp2_with fail
    go_ret
    rw [(Lay14.on Hm.out).2.2.2.2.2.2.2.2.2]
    exact ⟨congrArg (fun z => Ending.returned (.int .i64 z)) (IntWalk.i64_in _ (by omega)), bt Hbel.out HE.out⟩

set_option maxHeartbeats 800000 in
theorem isdata_any (l : Lay14) (no : Int) (w : World) :
    Calls Try.prog 11 #[.agg l.val, .int .i64 no] w fun e w' => e = .returned (.bool (l.isD no)) ∧ Below w.heap.size w w' := by
  go_enter Try.func11, Try.ntmps11
  go_wp2_with (refine wpList_box_row rfl _ _ rfl _ rfl ?_)
  apply Stop.go; intro w1 Hg1 Hb1
  go_wp2_with (refine wpList_load_blk rfl _ _ rfl _ rfl _ _ Hb1.out _ Try.underlying24 rfl Try.laySize ?_)
  refine (gmay_any l _).mono ?_; rintro e w2 ⟨rfl, hb2⟩
  have Hbel := Lib.hid (bt Hg1.out.1 hb2)
  have Hb2 := Lib.hid (Hb1.out.ext hb2)
  clear hb2
  obtain ⟨b, Hm⟩ : ∃ b, Hid (l.may = b) := ⟨_, Lib.hid rfl⟩
  rw [Hm.out]
  cases b
  · go_wp2_with fail
    go_ret
    rw [Lay14.isD_off Hm.out]
    exact ⟨rfl, Hbel.out⟩
  · go_wp2_with (refine wpList_load_blk rfl _ _ rfl _ rfl _ _ Hb2.out _ Try.underlying24 rfl Try.laySize ?_)
    refine (data_any l _).mono ?_; rintro e w3 ⟨rfl, hb3⟩
    have Hbel3 := Lib.hid (bt Hbel.out hb3)
    have Hb3 := Lib.hid (Hb2.out.ext hb3)
    clear hb3
    have c0 := Hb3.out.lay0
    by_cases h1 : l.data ≤ no <;> by_cases h2 : no < l.blocks
    all_goals
      go_wp2_with fail
      go_ret
      exact ⟨congrArg (fun b => Ending.returned (.bool b)) (Bool.eq_iff_iff.2 (by rw [Lay14.isD_on Hm.out]; simp only [decide_eq_true_eq, Bool.false_eq_true, false_iff, true_iff]; omega)), Hbel3.out⟩

set_option maxHeartbeats 800000 in
theorem isinode_any (l : Lay14) (i : Int) (w : World) :
    Calls Try.prog 16 #[.agg l.val, .int .i64 i] w fun e w' => e = .returned (.bool (l.isI i)) ∧ Below w.heap.size w w' := by
  go_enter Try.func16, Try.ntmps16
  go_wp2_with (refine wpList_box_row rfl _ _ rfl _ rfl ?_)
  apply Stop.go; intro w1 Hg1 Hb1
  go_wp2_with (refine wpList_load_blk rfl _ _ rfl _ rfl _ _ Hb1.out _ Try.underlying24 rfl Try.laySize ?_)
  refine (gmay_any l _).mono ?_; rintro e w2 ⟨rfl, hb2⟩
  have Hbel := Lib.hid (bt Hg1.out.1 hb2)
  have Hb2 := Lib.hid (Hb1.out.ext hb2)
  clear hb2
  obtain ⟨b, Hm⟩ : ∃ b, Hid (l.may = b) := ⟨_, Lib.hid rfl⟩
  rw [Hm.out]
  cases b
  · go_wp2_with fail
    go_ret
    rw [Lay14.isI_off Hm.out]
    exact ⟨rfl, Hbel.out⟩
  · have c1 := Hb2.out.lay1
    by_cases h1 : 1 ≤ i <;> by_cases h2 : i ≤ l.inodes
    all_goals
      go_wp2_with fail
      go_ret
      exact ⟨congrArg (fun b => Ending.returned (.bool b)) (Bool.eq_iff_iff.2 (by rw [Lay14.isI_on Hm.out]; simp only [decide_eq_true_eq, Bool.false_eq_true, false_iff, true_iff]; omega)), Hbel.out⟩

set_option maxHeartbeats 800000 in
theorem gwhere_any (l : Lay14) (i : Int) (w : World) :
    Calls Try.prog 14 #[.agg l.val, .int .i64 i] w fun e w' => e = .returned (.tuple #[.int .i64 (l.wb i), .int .i64 (l.wk i), .bool (l.isI i)]) ∧ Below w.heap.size w w' := by
  go_enter Try.func14, Try.ntmps14
  go_wp2_with (refine wpList_box_row rfl _ _ rfl _ rfl ?_)
  apply Stop.go; intro w1 Hg1 Hb1
  go_wp2_with (refine wpList_load_blk rfl _ _ rfl _ rfl _ _ Hb1.out _ Try.underlying24 rfl Try.laySize ?_)
  refine (isinode_any l i _).mono ?_; rintro e w2 ⟨rfl, hb2⟩
  have Hbel := Lib.hid (bt Hg1.out.1 hb2)
  clear hb2
  obtain ⟨b, Hm⟩ : ∃ b, Hid (l.isI i = b) := ⟨_, Lib.hid rfl⟩
  rw [Hm.out]
  cases b
  · have h := Lay14.where_off Hm.out
    go_wp2_with fail
    go_ret3
    rw [Hm.out, h.1, h.2]
    exact ⟨rfl, Hbel.out⟩
  · have h := Lay14.where_on Hm.out
    have ho := Lay14.on h.1
    have HV := Lib.hid (And.intro h.2.2.2.1 h.2.2.2.2.1)
    have h1 : 1 ≤ i := h.2.1
    have h2 : i ≤ 128 := by omega
    clear h ho
    go_wp2_with fail
    go_ret3
    rw [Hm.out, HV.out.1, HV.out.2]
    exact ⟨rfl, Hbel.out⟩

set_option maxHeartbeats 800000 in
theorem inode_any (l : Lay14) (b k : Int) (w : World) :
    Calls Try.prog 18 #[.agg l.val, .int .i64 b, .int .i64 k] w fun e w' => e = .returned (.tuple #[.int .i64 (l.ino b k), .bool (l.has b k)]) ∧ Below w.heap.size w w' := by
  have HB := Lib.hid l.bounds
  by_cases h1 : 2 ≤ b
  · have d0 : decide (b < 2) = false := by simp; omega
    go_enter Try.func18, Try.ntmps18
    go_wp2_with (refine wpList_box_row rfl _ _ rfl _ rfl ?_)
    apply Stop.go; intro w1 Hg1 Hb1
    go_wp2_with (refine wpList_load_blk rfl _ _ rfl _ rfl _ _ Hb1.out _ Try.underlying24 rfl Try.laySize ?_)
    refine (data_any l _).mono ?_; rintro e w2 ⟨rfl, hb2⟩
    have Hbel := Lib.hid (bt Hg1.out.1 hb2)
    clear hb2
    by_cases hh : l.has b k = true
    · have h := of_decide_eq_true hh
      have HI := Lib.hid (show l.ino b k = (b - 2) * 8 + k + 1 by unfold Lay14.ino; rw [if_pos hh])
      have HH := Lib.hid hh
      have h2 : b < l.data := by omega
      have h3 : b ≤ 18 := by have := HB.out; omega
      have h4 : 0 ≤ k := by omega
      have h5 : k < 8 := by omega
      clear h hh
      go_wp2_with fail
      go_ret2
      rw [HH.out, HI.out]
      exact ⟨rfl, Hbel.out⟩
    · have hf : l.has b k = false := by simpa using hh
      have HI := Lib.hid (show l.ino b k = 0 by unfold Lay14.ino; rw [if_neg hh])
      have HN := Lib.hid (show ¬ (2 ≤ b ∧ b < l.data ∧ 0 ≤ k ∧ k < 8) from of_decide_eq_false hf)
      have HH := Lib.hid hf
      clear hh hf
      go_wp2_with fail
      all_goals
        first
        | (exfalso; have := HN.out; omega)
        | (go_ret2
           rw [HH.out, HI.out]
           exact ⟨rfl, Hbel.out⟩)
  · have hf : l.has b k = false := decide_eq_false (by omega)
    have HI := Lib.hid (show l.ino b k = 0 by unfold Lay14.ino; rw [if_neg (by rw [hf]; simp)])
    rw [hf, HI.out]
    clear hf
    go_enter Try.func18, Try.ntmps18
    go_wp2_with (refine wpList_box_row rfl _ _ rfl _ rfl ?_)
    apply Stop.go; intro w1 Hg1 Hb1
    go_wp2_with fail
    go_ret2
    exact ⟨rfl, Hg1.out.1⟩

set_option maxHeartbeats 1600000 in
theorem own_any (l : Lay14) (w : World) :
    Calls Try.prog 8 #[.agg l.val] w fun e w' => ∃ v, e = .returned v ∧ OwnC w' w.heap.size 3 v (ivals (upN l.data.toNat)) ∧ Below w.heap.size w w' := by
  have hB := l.bounds
  obtain ⟨T, hT⟩ : ∃ T : Nat, l.data = T := ⟨l.data.toNat, by omega⟩
  have HTb := Lib.hid (show T ≤ 18 by omega)
  clear hB
  rw [hT, Int.toNat_natCast]
  go_enter Try.func8, Try.ntmps8
  go_wp2_with (refine wpList_box_row rfl _ _ rfl _ rfl ?_)
  apply Stop.go; intro w1 Hg1 Hb1
  go_wp2_with (refine wpList_load_blk rfl _ _ rfl _ rfl _ _ Hb1.out _ Try.underlying24 rfl Try.laySize ?_)
  refine (data_any l _).mono ?_; rintro e w2 ⟨rfl, hb2⟩
  rw [hT]
  have Hbel := Lib.hid (bt Hg1.out.1 hb2)
  clear hb2 hT
  go_wp2_with fail
  go_loopw [3, 7] (fun u i wr => ∃ k : Nat, k ≤ T ∧ i = .int .i64 k ∧ OwnC wr w.heap.size 3 u (ivals (upN k)) ∧ Below w.heap.size w wr) (fun _ i _ => T - (intOf i).toNat)
  case atStart => exact ⟨0, Nat.zero_le _, rfl, OwnC.nil_ _ _ _, Hbel.out⟩
  case round =>
    obtain ⟨k, hk, rfl, hu, hbw⟩ := hrel
    have Hu := Lib.hid hu
    have Hbw := Lib.hid hbw
    clear hu hbw
    by_cases hlt : k < T
    · have d0 : decide ((k : Int) < T) = true := by simp; omega
      have d1 : decide (k < T) = true := by simp; omega
      have hkb : k < 18 := by have := HTb.out; omega
      have hl1 : (ivals (upN k)).length + 1 ≤ maxLen := by rw [ivals_len, upN_len]; unfold maxLen; omega
      have hl2 : ((ivals (upN k)).length + 1) * 8 ≤ 140737488355328 := by rw [ivals_len, upN_len]; omega
      go_wp2_with (at_builtin; refine wpList_append_one rfl _ _ _ _ rfl Try.underlying28 (.int .i64 0) 8 Try.intInfo rfl w.heap.size _ _ rfl Hu.out (.int .i64 k) rfl rfl Hbw.out.size hl1 hl2 ?_)
      apply Stop.go
      intro v' w3 Hv' Ha'
      go_wp2_with fail
      go_roundw
      case rel => exact ⟨k + 1, by omega, by go_num, by rw [upN_succ, ← ivals_snoc]; exact Hv'.out, Hbw.out.trans Ha'.out.below⟩
      case measure => simp [intOf]; omega
    · obtain rfl : k = T := by omega
      go_wp2_with fail
      go_ret
      exact ⟨_, rfl, Hu.out, Hbw.out⟩

end Go.Proofs.Ytffemgjbicebeaa
