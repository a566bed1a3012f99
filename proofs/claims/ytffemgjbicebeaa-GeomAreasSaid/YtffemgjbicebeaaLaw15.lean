/-
  Layer 15: works, and the walk of GeomAreas.
-/
import Derived.Test.YtffemgjbicebeaaRef15
import Derived.Test.YtffemgjbicebeaaHeld
namespace Go.Proofs.Ytffemgjbicebeaa
open Go.RowKit

def ex15 : Lay14 := ⟨16, 16, 0⟩
theorem ex15_is : ex15.tf = 2 ∧ ex15.tn = 2 ∧ ex15.data = 4 ∧ ex15.wb 9 = 3 ∧ ex15.wk 9 = 0 ∧ ex15.isI 9 = true := by decide

theorem map_any (w : World) : Calls Try.prog 20 #[] w fun e w' => e = .returned (.int .i64 1) ∧ w = w' := by
  go_enter Try.func20, Try.ntmps20
  go_wp2_with fail
  go_ret
  exact ⟨rfl, rfl⟩

set_option maxHeartbeats 1600000 in
theorem works15_any (w : World) : Calls Try.prog 13 #[] w fun e w' => e = .returned (.bool true) ∧ Below w.heap.size w w' := by
  have HX := Lib.hid ex15_is
  go_enter Try.func13, Try.ntmps13
  go_wp2_with (refine wpList_alloc_row rfl _ rfl _ Try.layZero ?_)
  apply Stop.go; intro w1 Hg1 Hb1
  go_wp2_with (refine wpList_store_arr rfl _ _ _ rfl _ ex15.val rfl rfl _ _ Hb1.out Try.laySize rfl (val_one _) ?_)
  apply Stop.go; intro w2 Ho2 Hb2
  have E2 := Lib.hid (bonly Hg1.out.1 Ho2.out (Nat.le_refl _))
  clear Hg1 Hb1 Ho2
  go_wp2_with (refine wpList_load_blk rfl _ _ rfl _ rfl _ _ Hb2.out _ Try.underlying24 rfl Try.laySize ?_)
  refine (table_any ex15 _).mono ?_; rintro e w3 ⟨rfl, hb3⟩
  rw [HX.out.1, HX.out.2.1]
  have E3 := Lib.hid (bt E2.out hb3)
  have HB3 := Lib.hid (Hb2.out.ext hb3)
  clear hb3 E2 Hb2
  go_wp2_with (refine wpList_load_blk rfl _ _ rfl _ rfl _ _ HB3.out _ Try.underlying24 rfl Try.laySize ?_)
  refine (gwhere_any ex15 9 _).mono ?_; rintro e w4 ⟨rfl, hb4⟩
  rw [HX.out.2.2.2.1, HX.out.2.2.2.2.1, HX.out.2.2.2.2.2]
  have E4 := Lib.hid (bt E3.out hb4)
  have HB4 := Lib.hid (HB3.out.ext hb4)
  clear hb4 E3 HB3
  go_wp2_with (refine wpList_load_blk rfl _ _ rfl _ rfl _ _ HB4.out _ Try.underlying24 rfl Try.laySize ?_)
  refine (data_any ex15 _).mono ?_; rintro e w5 ⟨rfl, hb5⟩
  rw [HX.out.2.2.1]
  have E5 := Lib.hid (bt E4.out hb5)
  clear hb5 E4 HB4
  go_wp2_with fail
  refine (map_any _).mono ?_; rintro e wx ⟨rfl, rfl⟩
  go_wp2_with fail
  go_ret
  exact ⟨rfl, E5.out⟩

set_option maxHeartbeats 3200000 in
theorem geomAreas_any (l : Lay14) (no : Int) (hno : no < 9223372036854775808) (w : World) :
    Calls Try.prog 3 #[.agg l.val, .int .i64 no] w fun e w' => e = .returned (.bool true) ∧ Below w.heap.size w w' := by
  have HNo := Lib.hid hno
  clear hno
  obtain ⟨F, HF⟩ : ∃ x, Hid (l.tf = x) := ⟨_, Lib.hid rfl⟩
  obtain ⟨N, HN⟩ : ∃ x, Hid (l.tn = x) := ⟨_, Lib.hid rfl⟩
  obtain ⟨M, HM⟩ : ∃ x, Hid (l.many = x) := ⟨_, Lib.hid rfl⟩
  obtain ⟨T, HT⟩ : ∃ T : Nat, Hid (l.data = T) := ⟨l.data.toNat, Lib.hid (by have := l.bounds; omega)⟩
  have HTb := Lib.hid (show T ≤ 18 by have := l.bounds; have := HT.out; omega)
  have e1 : (F != F) = false := by simp
  have e2 : (N != N) = false := by simp
  have e3 : (M != M) = false := by simp
  have e4 : ((T : Int) != (T : Int)) = false := by simp
  go_enter Try.func3, Try.ntmps3
  go_wp2_with (refine wpList_box_row rfl _ _ rfl _ rfl ?_)
  apply Stop.go; intro w1 Hg1 Hb1
  go_wp2_with (refine wpList_load_blk rfl _ _ rfl _ rfl _ _ Hb1.out _ Try.underlying24 rfl Try.laySize ?_)
  refine (count3_any l _).mono ?_; rintro e w2 ⟨rfl, hb2⟩
  rw [HF.out, HN.out]
  have E2 := Lib.hid (bt Hg1.out.1 hb2)
  have HB2 := Lib.hid (Hb1.out.ext hb2)
  clear hb2 Hg1 Hb1
  go_wp2_with (refine wpList_load_blk rfl _ _ rfl _ rfl _ _ HB2.out _ Try.underlying24 rfl Try.laySize ?_)
  refine (count4_any l _).mono ?_; rintro e w3 ⟨rfl, hb3⟩
  rw [HM.out, HT.out]
  have E3 := Lib.hid (bt E2.out hb3)
  have HB3 := Lib.hid (HB2.out.ext hb3)
  clear hb3 E2 HB2
  go_wp2_with (refine wpList_load_blk rfl _ _ rfl _ rfl _ _ HB3.out _ Try.underlying24 rfl Try.laySize ?_)
  refine (table_any l _).mono ?_; rintro e w4 ⟨rfl, hb4⟩
  rw [HF.out, HN.out]
  have E4 := Lib.hid (bt E3.out hb4)
  have HB4 := Lib.hid (HB3.out.ext hb4)
  clear hb4 E3 HB3
  go_wp2_with (refine wpList_load_blk rfl _ _ rfl _ rfl _ _ HB4.out _ Try.underlying24 rfl Try.laySize ?_)
  refine (own_any l _).mono ?_; rintro e w5 ⟨v, rfl, ho, hb5⟩
  rw [HT.out, Int.toNat_natCast] at ho
  obtain ⟨A, c, rfl, hc, hm, hr⟩ := ho.ints
  rw [upN_len] at hc ⊢
  have HR5 := Lib.hid hr
  have E5 := Lib.hid (bt E4.out hb5)
  have HB5 := Lib.hid (HB4.out.ext hb5)
  clear hb5 E4 HB4 ho hr hc hm
  go_wp2_with (refine wpList_load_blk rfl _ _ rfl _ rfl _ _ HB5.out _ Try.underlying24 rfl Try.laySize ?_)
  refine (data_any l _).mono ?_; rintro e w6 ⟨rfl, hb6⟩
  rw [HT.out]
  have E6 := Lib.hid (bt E5.out hb6)
  have HB6 := Lib.hid (HB5.out.ext hb6)
  have HR6 := Lib.hid (HR5.out.below hb6)
  clear hb6 E5 HB5 HR5
  go_wp2_with (refine wpList_load_blk rfl _ _ rfl _ rfl _ _ HB6.out _ Try.underlying24 rfl Try.laySize ?_)
  refine (many_any l _).mono ?_; rintro e w7 ⟨rfl, hb7⟩
  rw [HM.out]
  have E7 := Lib.hid (bt E6.out hb7)
  have HB7 := Lib.hid (HB6.out.ext hb7)
  have HR7 := Lib.hid (HR6.out.below hb7)
  clear hb7 E6 HB6 HR6
  go_wp2_with fail
  go_loopw [12] (fun i wr => ∃ k : Nat, k ≤ T ∧ i = .int .i64 k ∧ wr = w7) (fun i _ => T - (intOf i).toNat)
  case atStart => exact ⟨0, Nat.zero_le _, rfl, rfl⟩
  case round =>
    obtain ⟨k, hk, rfl, rfl⟩ := hrel
    by_cases hlt : k < T
    · have hkb : k < 18 := by have := HTb.out; omega
      obtain ⟨ad, rfl, hc⟩ := HR7.out.int k (by rw [upN_len]; exact hlt)
      rw [upN_get] at hc
      have d0 : decide ((k : Int) < T) = true := by simp; omega
      have e5 : ((k : Int) != (k : Int)) = false := by simp
      go_wp2_with fail
      go_roundw
      case rel => exact ⟨k + 1, by omega, by go_num, by first | rfl | trivial⟩
      case measure => simp [intOf]; omega
    · obtain rfl : k = T := by omega
      have d0 : decide ((k : Int) < k) = false := by simp
      obtain ⟨q, HQ⟩ : ∃ q, Hid (l.isD no = q) := ⟨_, Lib.hid rfl⟩
      obtain ⟨a, HA⟩ : ∃ a, Hid (l.area no = a) := ⟨_, Lib.hid rfl⟩
      have hqa : (a == 4) = q := by
        have h := HQ.out
        rw [Lay14.isD_area, HA.out] at h
        rw [← h]
        exact Bool.eq_iff_iff.2 (by simp)
      have hqq : (q == q) = true := by simp
      go_wp2_with fail
      refine WH.start (S := fun w' : World => Blk w' w.heap.size 24 l.val) [false, false, false, false, false, false, false, false, false, false, false, false] 12 rfl rfl (by kernel_rfl) (HB7.out.ext (bdrew wr 1)) (fun hSn => ?_); obtain ⟨wS, hwS⟩ : ∃ x, (wr).drew = x := ⟨_, rfl⟩; have HE := Lib.hid (show Below (wr).heap.size (wr) wS from hwS ▸ bdrew wr 1); rw [hwS] at hSn ⊢; clear hwS
      refine WH.tv 0 rfl (fun w' hSw => exec_load_blk _ _ rfl _ rfl _ _ (hSw) _ (Try.underlying24) rfl (Try.laySize)) ?_; simp only [setL]
      refine WH.tk 1 ?_; simp only [setL]
      refine WH.tv 3 rfl (fun w' hSw => exec_load_blk _ _ rfl _ rfl _ _ (hSw) _ (Try.underlying24) rfl (Try.laySize)) ?_; simp only [setL]
      refine WH.tk 4 ?_; simp only [setL]
      refine WH.only 2 _ rfl (by kernel_rfl) rfl (fun K hK => ?_)
      go_simp; refine (isdata_any l no _).mono ?_; rintro e wa ⟨rfl, hba⟩; go_simp
      rw [HQ.out]
      have HE := Lib.hid (bt HE.out hba)
      have hSn := hSn.ext hba; refine hK _ _ hSn ?_; clear hK; clear K; simp only [setL]
      refine WH.only 5 _ rfl (by kernel_rfl) rfl (fun K hK => ?_)
      go_simp; refine (area_any l no HNo.out _).mono ?_; rintro e wb ⟨rfl, hbb⟩; go_simp
      rw [HA.out]
      have HE := Lib.hid (bt HE.out hbb)
      have hSn := hSn.ext hbb; refine hK _ _ hSn ?_; clear hK; clear K; simp only [setL]
      refine WH.tk 6 ?_; simp only [setL]
      refine WH.tk 7 ?_; simp only [setL]
      refine WH.tk 8 ?_; simp only [setL]
      refine WH.only 9 _ rfl (by kernel_rfl) rfl (fun K hK => ?_)
      go_simp; refine (works15_any _).mono ?_; rintro e wc ⟨rfl, hbc⟩; go_simp
      have HE := Lib.hid (bt HE.out hbc)
      have hSn := hSn.ext hbc; refine hK _ _ hSn ?_; clear hK; clear K; simp only [setL]
      refine WH.tk 10 ?_; simp only [setL]
      refine WH.tk 11 ?_; simp only [setL]
      refine WH.done (by kernel_rfl) ?_
      go_wp2_with fail
      go_ret
      exact ⟨rfl, bt E7.out HE.out⟩

end Go.Proofs.Ytffemgjbicebeaa
