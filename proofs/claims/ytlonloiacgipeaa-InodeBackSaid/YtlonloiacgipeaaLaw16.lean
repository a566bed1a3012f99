/-
  Layer 16: works, and the walk of InodePuts.
-/
import Derived.Test.YtlonloiacgipeaaRef16b
namespace Go.Proofs.Ytlonloiacgipeaa
open Go.RowKit

def ex16 : List Int := [1, 1, 258, 0, 0, 0, 0, 0, 0, 0, 0]
theorem ex16_may : mayI ex16 = true := by decide
theorem ex16_front : ((putI ex16).drop 0).take 6 = [1, 0, 1, 0, 2, 1] := by decide

set_option maxHeartbeats 1600000 in
theorem works16_any (w : World) : Calls Try.prog 11 #[] w fun e w' => e = .returned (.bool true) ∧ Below w.heap.size w w' := by
  have HPL := Lib.hid (putI_len (l := ex16) rfl)
  have HzL : Hid ((zeros 32).length = 32) := Lib.hid (zeros_len _)
  have HF := Lib.hid ex16_front
  have HB : Hid (outI ex16 = putI ex16) := Lib.hid (by unfold outI; rw [ex16_may]; rfl)
  have HK : Hid (blocksI 257 = 2) := Lib.hid (by decide)
  go_enter Try.func11, Try.ntmps11
  go_wp2_with fail
  refine (putI_any ex16 rfl _).mono ?_; rintro e w1 ⟨rfl, hb1⟩
  rw [HB.out, ex16_may, okArg_true]
  have E1 := Lib.hid hb1
  obtain ⟨X, hX⟩ : ∃ X, putI ex16 = X := ⟨_, rfl⟩
  rw [hX] at HPL HF ⊢
  clear HB hX hb1
  go_wp2_with (refine wpList_alloc_row rfl _ rfl _ Try.b32Zero ?_)
  apply Stop.go; intro w2 Hg2 Hb2
  go_wp2_with (refine wpList_store_arr rfl _ _ _ rfl _ _ rfl rfl _ _ Hb2.out (Try.b32Fits HPL.out) (by simp only [bcells_size, HPL.out, HzL.out]) (oneCell_bcells _) ?_)
  apply Stop.go; intro w3 Ho3 Hb3
  have E3 := Lib.hid (bonly (bt E1.out Hg2.out.1) Ho3.out E1.out.size)
  generalize w1.heap.size = g1 at *
  clear Hg2 Hb2 Ho3 E1
  have hr := RB.of_blk_at Hb3.out 0 6
  rw [HF.out] at hr
  have HR3 := Lib.hid hr
  clear hr Hb3
  go_wp2_with (refine wpList_slice_arr_h rfl _ _ _ rfl 32 _ Try.underlying25 Try.byteSize g1 rfl _ _ rfl 6 rfl (by omega) (by omega) ?_)
  have B8 : Hid (Blk (w3.alloc (.cells #[.int .u8 1, .int .u8 0, .int .u8 1, .int .u8 0, .int .u8 2, .int .u8 1] 5)) w3.heap.size 5 (bcells [1, 0, 1, 0, 2, 1])) := Lib.hid (Blk.new w3 _ _)
  have G8 := Lib.hid (Grew.alloc w3 (.cells #[.int .u8 1, .int .u8 0, .int .u8 1, .int .u8 0, .int .u8 2, .int .u8 1] 5))
  generalize w3.alloc (.cells #[.int .u8 1, .int .u8 0, .int .u8 1, .int .u8 0, .int .u8 2, .int .u8 1] 5) = w8 at *
  refine (same_any _ _ _ [1, 0, 1, 0, 2, 1] rfl _ _ _ [1, 0, 1, 0, 2, 1] rfl (by unfold maxLen; decide) (by unfold maxLen; decide) _ (HR3.out.below G8.out.1) (RB.of_blk0 B8.out)).mono ?_; rintro e w9 ⟨rfl, k9, rfl⟩
  rw [show decide (([1, 0, 1, 0, 2, 1] : List UInt8) = [1, 0, 1, 0, 2, 1]) = true from by decide]
  have E9 := Lib.hid (bt (bt E3.out G8.out.1) (bdrew w8 k9))
  obtain ⟨w9, hw9⟩ : ∃ y, w8.drewN k9 = y := ⟨_, rfl⟩
  rw [hw9] at E9 ⊢
  clear hw9 E3 G8 B8 HR3
  go_wp2_with fail
  refine (blocks_any 257 _).mono ?_; rintro e wx ⟨rfl, rfl⟩
  rw [HK.out]
  go_wp2_with fail
  go_ret
  exact ⟨rfl, E9.out⟩

set_option maxHeartbeats 3200000 in
theorem inodePuts_any (l : List Int) (hl : l.length = 11) (w : World) :
    Calls Try.prog 3 #[.agg (icells l)] w fun e w' => e = .returned (.bool true) ∧ Below w.heap.size w w' := by
  have HL := Lib.hid hl
  have HN := Lib.hid (nums_len hl)
  have HPL := Lib.hid (outI_len hl)
  have HzL : Hid ((zeros 32).length = 32) := Lib.hid (zeros_len _)
  obtain ⟨m, Hm⟩ : ∃ m, Hid (mayI l = m) := ⟨_, Lib.hid rfl⟩
  have HU := Lib.hid (show outI l = if m then putI l else zeros 32 by unfold outI; rw [Hm.out])
  obtain ⟨X, HXd⟩ : ∃ X, Hid (outI l = X) := ⟨_, Lib.hid rfl⟩
  obtain ⟨ev, Hev⟩ : ∃ v, Hid (okArg m = v) := ⟨_, Lib.hid rfl⟩
  rw [HXd.out] at HPL HU
  go_enter Try.func3, Try.ntmps3
  go_wp2_with (refine wpList_box_row rfl _ _ rfl _ rfl ?_)
  apply Stop.go; intro w1 Hg1 Hb1
  go_wp2_with (refine wpList_load_blk rfl _ _ rfl _ rfl _ _ Hb1.out _ Try.underlying24 rfl (Try.inoFits HL.out) ?_)
  refine (putI_any l HL.out _).mono ?_; rintro e w2 ⟨rfl, hb2⟩
  rw [HXd.out, Hm.out, Hev.out]
  have HB2 := Lib.hid (Hb1.out.ext hb2)
  have E2 := Lib.hid (bt Hg1.out.1 hb2)
  have z2 := Lib.hid (show w.heap.size < w2.heap.size by have := Hg1.out.2; have := hb2.size; omega)
  clear hb2 Hb1 Hg1
  go_wp2_with (refine wpList_alloc_row rfl _ rfl _ Try.b32Zero ?_)
  apply Stop.go; intro w3 Hg3 Hb3
  go_wp2_with (refine wpList_store_arr rfl _ _ _ rfl _ _ rfl rfl _ _ Hb3.out (Try.b32Fits HPL.out) (by simp only [bcells_size, HPL.out, HzL.out]) (oneCell_bcells _) ?_)
  apply Stop.go; intro w4 Ho4 Hb4
  have HB4 := Lib.hid ((HB2.out.ext Hg3.out.1).only Ho4.out (by have := z2.out; omega))
  have E4 := Lib.hid (bonly (bt E2.out Hg3.out.1) Ho4.out (by have := z2.out; omega))
  have z4 := Lib.hid (show w.heap.size < w2.heap.size ∧ w2.heap.size < w4.heap.size from ⟨z2.out, Hb4.out.lt⟩)
  generalize w2.heap.size = g3 at *
  clear Hg3 Hb3 Ho4 HB2 E2 z2
  go_wp2_with (refine wpList_load_blk rfl _ _ rfl _ rfl _ _ HB4.out _ Try.underlying24 rfl (Try.inoFits HL.out) ?_)
  refine (checkI_any l HL.out _).mono ?_; rintro e w5 ⟨rfl, hb5⟩
  rw [Hm.out, Hev.out]
  have HB5 := Lib.hid (HB4.out.ext hb5)
  have HX5 := Lib.hid (Hb4.out.ext hb5)
  have E5 := Lib.hid (bt E4.out hb5)
  have z5 := Lib.hid (show w.heap.size < g3 ∧ g3 < w5.heap.size by have := z4.out; have := hb5.size; omega)
  have d0 : (ev != ev) = false := by simp
  clear hb5 HB4 Hb4 E4 z4
  go_wp2_with (refine wpList_load_blk rfl _ _ rfl _ rfl _ _ HB5.out _ Try.underlying24 rfl (Try.inoFits HL.out) ?_)
  refine (numbers_any l HL.out _).mono ?_; rintro e w6 ⟨rfl, hb6⟩
  have HB6 := Lib.hid (HB5.out.ext hb6)
  have HX6 := Lib.hid (HX5.out.ext hb6)
  have E6 := Lib.hid (bt E5.out hb6)
  have z6 := Lib.hid (show w.heap.size < g3 ∧ g3 < w6.heap.size by have := z5.out; have := hb6.size; omega)
  clear hb6 HB5 HX5 E5 z5
  go_wp2_with (refine wpList_alloc_row rfl _ rfl _ Try.sevenZero ?_)
  apply Stop.go; intro w7 Hg7 Hb7
  go_wp2_with (refine wpList_store_arr rfl _ _ _ rfl _ _ rfl rfl _ _ Hb7.out (Try.sevenFits HN.out) (by rw [icells_size, icells_size, HN.out]; rfl) (oneCell_icells _) ?_)
  apply Stop.go; intro w8 Ho8 Hb8
  have HB8 := Lib.hid ((HB6.out.ext Hg7.out.1).only Ho8.out (by have := z6.out; omega))
  have HX8 := Lib.hid ((HX6.out.ext Hg7.out.1).only Ho8.out (by have := z6.out; omega))
  have E8 := Lib.hid (bonly (bt E6.out Hg7.out.1) Ho8.out (by have := z6.out; omega))
  have z8 := Lib.hid (show w.heap.size < g3 from z6.out.1)
  generalize w6.heap.size = g5 at *
  clear Hg7 Hb7 Ho8 HB6 HX6 E6 z6
  go_wp2_with fail
  go_loopw [6] (fun i wr => ∃ k : Nat, k ≤ 6 ∧ i = .int .i64 k ∧ Hid (Blk wr g5 30 (icells (nums l))) ∧ Hid (Blk wr w.heap.size 24 (icells l)) ∧ Hid (Blk wr g3 25 (bcells X)) ∧ Hid (Below w.heap.size w wr)) (fun i _ => 6 - (intOf i).toNat)
  case atStart => exact ⟨0, Nat.zero_le _, rfl, Hb8, HB8, HX8, E8⟩
  case round =>
    obtain ⟨k, hk, rfl, HNk, HBk, HXk, Ek⟩ := hrel
    by_cases hlt : k < 6
    · have d1 : decide ((k : Int) < 6) = true := by simp; omega
      have p0 : 0 ≤ (k : Int) := by omega
      have p1 : (k : Int) < 6 := by omega
      have p2 : (k : Int) < 7 := by omega
      have d2 : (fld (nums l) k != fld (nums l) k) = false := by simp
      go_wp2_with fail
      refine WH.start (S := fun w' : World => w'.cell? ⟨g5, k, none⟩ = some (.int .i64 (fld (nums l) k)) ∧ w'.cell? ⟨w.heap.size, 4 + k, none⟩ = some (.int .i64 (fld (nums l) k))) [false, false, false, false, false, false, false, false] 8 rfl rfl (by kernel_rfl) ⟨(HNk.out.ext (bdrew wr 1)).fld k (by rw [HN.out]; omega), by rw [fld_nums]; exact (HBk.out.ext (bdrew wr 1)).fld (4 + k) (by rw [HL.out]; omega)⟩ (fun hSn => ?_); obtain ⟨wS, hwS⟩ : ∃ x, (wr).drew = x := ⟨_, rfl⟩; have HE := Lib.hid (show Below (wr).heap.size (wr) wS from hwS ▸ bdrew wr 1); rw [hwS] at hSn ⊢; clear hwS
      refine WH.tk 0 ?_; simp only [setL]
      refine WH.tk 1 ?_; simp only [setL]
      refine WH.tv 2 rfl (fun w' hSw => exec_load_cell _ _ rfl ⟨g5, k, none⟩ rfl _ hSw.1 _ Try.underlying3 rfl) ?_; simp only [setL]
      refine WH.tk 3 ?_; simp only [setL]
      refine WH.tk 4 ?_; simp only [setL]
      refine WH.tk 5 ?_; simp only [setL]
      refine WH.tv 6 rfl (fun w' hSw => exec_load_cell _ _ rfl ⟨w.heap.size, 4 + k, none⟩ rfl _ hSw.2 _ Try.underlying3 rfl) ?_; simp only [setL]
      refine WH.tk 7 ?_; simp only [setL]
      refine WH.done (by kernel_rfl) ?_
      have HNn := Lib.hid (HNk.out.ext HE.out)
      have HBn := Lib.hid (HBk.out.ext HE.out)
      have HXn := Lib.hid (HXk.out.ext HE.out)
      have En := Lib.hid (bt Ek.out HE.out)
      clear HNk HBk HXk Ek HE hSn
      go_wp2_with fail
      go_roundw
      case rel => exact ⟨k + 1, by omega, by go_num, HNn, HBn, HXn, En⟩
      case measure => simp [intOf]; omega
    · obtain rfl : k = 6 := by omega
      have d1 : decide ((6 : Int) < 6) = false := by simp
      have c6 := HNk.out.fld 6 (by rw [HN.out]; omega)
      have c10 := HBk.out.fld 10 (by rw [HL.out]; omega)
      rw [show fld (nums l) 6 = fld l 10 from fld_nums l 6] at c6
      have d2 : (fld l 10 != fld l 10) = false := by simp
      go_wp2_with (refine wpList_load_blk rfl _ _ rfl _ rfl _ _ HBk.out _ Try.underlying24 rfl (Try.inoFits HL.out) ?_)
      refine (rmayI_any l HL.out _).mono ?_; rintro e wa ⟨rfl, hba⟩
      rw [Hm.out]
      have HBa := Lib.hid (HBk.out.ext hba)
      have HXa := Lib.hid (HXk.out.ext hba)
      have Ea := Lib.hid (bt Ek.out hba)
      clear hba HNk HBk HXk Ek c6 c10
      cases m
      · obtain rfl : ev = 1 := by rw [← Hev.out]; rfl
        obtain rfl : X = zeros 32 := by rw [HU.out]; rfl
        go_wp2_with (first | refine wpList_build_zero rfl _ rfl _ Try.b32Zero _ _ Try.underlying25 Try.byteSize ?_ | refine wpList_load_arr rfl _ _ rfl _ rfl _ _ HXa.out _ _ Try.underlying25 (Try.b32Fits HzL.out) ?_ | refine wpList_eql_arr rfl _ _ _ _ rfl (by kernel_rfl) _ _ Try.underlying25 Try.underlying5 Try.byteSize _ _ rfl rfl HzL.out HzL.out true (by simp) ?_)
        refine (works16_any _).mono ?_; rintro e wb ⟨rfl, hbb⟩
        have Eb := Lib.hid (bt Ea.out hbb)
        clear hbb
        go_wp2_with fail
        go_ret
        exact ⟨rfl, Eb.out⟩
      · obtain rfl : ev = 0 := by rw [← Hev.out]; rfl
        obtain rfl : X = putI l := by rw [HU.out]; rfl
        go_wp2_with fail
        refine WH.start (S := fun w' : World => Blk w' w.heap.size 24 (icells l)) [false, false, false, false, false, false, false, false, false, false, false, false] 12 rfl rfl (by kernel_rfl) (HBa.out.ext (bdrew wa 1)) (fun hSn => ?_); obtain ⟨wS, hwS⟩ : ∃ x, (wa).drew = x := ⟨_, rfl⟩; have HE := Lib.hid (show Below (wa).heap.size (wa) wS from hwS ▸ bdrew wa 1); rw [hwS] at hSn ⊢; clear hwS
        refine WH.tk 0 ?_; simp only [setL]
        refine WH.tk 1 ?_; simp only [setL]
        refine WH.tk 2 ?_; simp only [setL]
        refine WH.tv 3 rfl (fun w' hSw => exec_slice_all _ _ rfl 32 _ Try.underlying25 Try.byteSize g3 rfl (by decide)) ?_; simp only [setL]
        refine WH.tv 4 rfl (fun w' hSw => exec_load_blk _ _ rfl _ rfl _ _ (hSw) _ (Try.underlying24) rfl (Try.inoFits HL.out)) ?_; simp only [setL]
        refine WH.only 5 _ rfl (by kernel_rfl) rfl (fun K hK => ?_)
        go_simp; refine (rputI_any l HL.out Hm.out _).mono ?_; rintro e wb ⟨A5, n5, c5, rfl, hl5, hc5, hm5, hr5, hb5⟩; go_simp
        obtain rfl : n5 = 32 := by rw [← hl5, HPL.out]
        have HE := Lib.hid (bt HE.out hb5)
        have HR5 := Lib.hid hr5
        have HXb := Lib.hid (HXa.out.ext HE.out)
        have hSn2 := hSn.ext hb5
        clear hl5 hc5 hm5 hr5 hb5
        have hSn := hSn2; refine hK _ _ hSn ?_; clear hK; clear K; simp only [setL]
        refine WH.only 6 _ rfl (by kernel_rfl) rfl (fun K hK => ?_)
        go_simp; refine (same_any _ _ _ (putI l) HPL.out _ _ _ (putI l) HPL.out (by unfold maxLen; omega) (by unfold maxLen; omega) _ (RB.of_blk0 HXb.out) HR5.out).mono ?_; rintro e wc ⟨rfl, k6, rfl⟩; go_simp
        have HE := Lib.hid (bt HE.out (bdrew wb k6))
        have hSn := hSn2.ext (bdrew wb k6); refine hK _ _ hSn ?_; clear hK; clear K; simp only [setL]
        obtain ⟨wc, hwc⟩ : ∃ x, wb.drewN k6 = x := ⟨_, rfl⟩
        rw [hwc] at HE hSn ⊢
        clear hwc
        refine WH.tk 7 ?_; simp only [setL]
        refine WH.tk 8 ?_; simp only [setL]
        refine WH.only 9 _ rfl (by kernel_rfl) rfl (fun K hK => ?_)
        go_simp; refine (works16_any _).mono ?_; rintro e wd ⟨rfl, hbd⟩; go_simp
        have HE := Lib.hid (bt HE.out hbd)
        have hSn := hSn.ext hbd; refine hK _ _ hSn ?_; clear hK; clear K; simp only [setL]
        refine WH.tk 10 ?_; simp only [setL]
        refine WH.tk 11 ?_; simp only [setL]
        refine WH.done (by kernel_rfl) ?_
        go_wp2_with fail
        go_ret
        exact ⟨rfl, bt Ea.out HE.out⟩

end Go.Proofs.Ytlonloiacgipeaa
