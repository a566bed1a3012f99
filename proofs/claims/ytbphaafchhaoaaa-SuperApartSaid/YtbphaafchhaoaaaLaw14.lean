/-
  Layer 14: works, and the walk of SuperPuts.
-/
import Derived.Test.YtbphaafchhaoaaaRef14
namespace Go.Proofs.Ytbphaafchhaoaaa
open Go.RowKit

def ex14 : Lay14 := ⟨16, 8, 0⟩
theorem ex14_may : ex14.may = true := by decide
theorem ex14_cut : ncutL ex14.put 8 4 = [16, 0, 8, 0] := by
  have h : (ex14.put.drop 8).take 4 = (ex14.head.drop 8).take 4 := by
    rw [← ex14.put_head, List.drop_take, List.take_take]
    rfl
  unfold ncutL
  rw [if_pos (by decide)]
  exact h.trans (by decide)
theorem get14_zeros : get14 (zeros 256) = none := by
  have h : (seen14 (zeros 256)).may = false := by decide +kernel
  unfold get14
  rw [if_neg (by rw [h]; simp)]

set_option maxHeartbeats 1600000 in
theorem works14_any (w : World) : Calls Try.prog 11 #[] w fun e w' => e = .returned (.bool true) ∧ Below w.heap.size w w' := by
  have HPL := Lib.hid ex14.put_len
  have HzL : Hid ((zeros 256).length = 256) := Lib.hid (zeros_len _)
  have HB : Hid (ex14.blk = ex14.put) := Lib.hid (by unfold Lay14.blk; rw [ex14_may]; rfl)
  go_enter Try.func11, Try.ntmps11
  go_wp2_with fail
  refine (put14_any ex14 (by decide) _).mono ?_; rintro e w1 ⟨rfl, hb1⟩
  rw [HB.out, ex14_may, show okArg true = 0 from rfl]
  go_wp2_with (refine wpList_alloc_row rfl _ rfl _ Try.blockZero ?_)
  apply Stop.go; intro w2 Hg2 Hb2
  go_wp2_with (refine wpList_store_arr rfl _ _ _ rfl _ _ rfl rfl _ _ Hb2.out (Try.blockFits HPL.out) (by rw [bcells_size, bcells_size, HPL.out, zeros_len]) (oneCell_bcells _) ?_)
  apply Stop.go; intro w3 Ho3 Hb3
  have E3 := Lib.hid (bonly (bt hb1 Hg2.out.1) Ho3.out hb1.size)
  clear hb1 Hg2 Hb2 Ho3
  go_wp2_with (refine wpList_build_zero rfl _ rfl _ Try.blockZero _ _ Try.underlying26 Try.byteSize ?_)
  refine (get14c_any (zeros 256) HzL.out _).mono ?_; rintro e w4 ⟨rfl, hb4⟩
  have E4 := Lib.hid (bt E3.out hb4)
  have HB4 := Lib.hid (Hb3.out.ext hb4)
  rw [show okSup (get14 (zeros 256)).isSome = 13 from by rw [get14_zeros]; rfl]
  clear hb4 E3 Hb3
  go_wp2_with (refine wpList_alloc_row rfl _ rfl _ Try.layZero ?_)
  apply Stop.go; intro w5 Hg5 Hb5
  go_wp2_with (refine wpList_store_arr rfl _ _ _ rfl _ _ rfl rfl _ _ Hb5.out Try.laySize rfl (val_one _) ?_)
  apply Stop.go; intro w6 Ho6 Hb6
  have E6 := Lib.hid (bonly (bt E4.out Hg5.out.1) Ho6.out E4.out.size)
  have HB6 := Lib.hid ((HB4.out.ext Hg5.out.1).only Ho6.out (Nat.ne_of_lt HB4.out.lt))
  generalize w1.heap.size = g1 at *
  generalize w4.heap.size = g4 at *
  clear Hg5 Hb5 Ho6 E4 HB4 Hb6
  go_wp2_with (refine wpList_load_arr rfl _ _ rfl _ rfl _ _ HB6.out _ _ Try.underlying26 (Try.blockFits HPL.out) ?_)
  refine (ncut_any ex14.put HPL.out _ _ _).mono ?_; rintro e w7 ⟨A7, n7, c7, rfl, hl7, hc7, hm7, hr7, hb7⟩
  rw [ex14_cut] at hl7 hr7
  have HR7 := Lib.hid hr7
  obtain rfl : n7 = 4 := by rw [← hl7]; rfl
  have E7 := Lib.hid (bt E6.out hb7)
  clear hl7 hr7 hb7 hc7 hm7 E6 HB6
  go_wp2_with fail
  have B8 : Hid (Blk (w7.alloc (.cells #[.int .u8 16, .int .u8 0, .int .u8 8, .int .u8 0] 5)) w7.heap.size 5 (bcells [16, 0, 8, 0])) := Lib.hid (Blk.new w7 _ _)
  have G8 := Lib.hid (Grew.alloc w7 (.cells #[.int .u8 16, .int .u8 0, .int .u8 8, .int .u8 0] 5))
  generalize w7.alloc (.cells #[.int .u8 16, .int .u8 0, .int .u8 8, .int .u8 0] 5) = w8 at *
  refine (same_any _ _ _ [16, 0, 8, 0] rfl _ _ _ [16, 0, 8, 0] rfl (by unfold maxLen; decide) (by unfold maxLen; decide) _ (HR7.out.below G8.out.1) (RB.of_blk0 B8.out)).mono ?_; rintro e w9 ⟨rfl, k9, rfl⟩
  rw [show decide (([16, 0, 8, 0] : List UInt8) = [16, 0, 8, 0]) = true from by decide]
  go_wp2_with fail
  go_ret
  exact ⟨rfl, bt (bt E7.out G8.out.1) (bdrew w8 k9)⟩

theorem okArg_true : okArg true = 0 := rfl
theorem okArg_false : okArg false = 1 := rfl
set_option maxHeartbeats 3200000 in
theorem superPuts_any (l m : Lay14) (hl : l.merge < 18446744073709551616) (w : World) :
    Calls Try.prog 3 #[.agg l.val, .agg m.val] w fun e w' => e = .returned (.bool true) ∧ Below w.heap.size w w' := by
  have HLl := Lib.hid hl
  have HPL := Lib.hid l.blk_len
  obtain ⟨b, Hm⟩ : ∃ b, Hid (l.may = b) := ⟨_, Lib.hid rfl⟩
  have HBk := Lib.hid (show l.blk = if b then l.put else zeros 256 by unfold Lay14.blk; rw [Hm.out])
  clear hl
  go_enter Try.func3, Try.ntmps3
  go_wp2_with (refine wpList_box_row rfl _ _ rfl _ rfl ?_)
  apply Stop.go; intro w1 Hg1 Hb1
  go_wp2_with (refine wpList_box_row rfl _ _ rfl _ rfl ?_)
  apply Stop.go; intro w2 Hg2 Hb2
  have z1 := Lib.hid Hg1.out.2
  have z2 := Lib.hid Hg2.out.2
  have HX2 := Lib.hid (Hb1.out.below Hg2.out.1 (by rw [z1.out]; omega))
  have E2 := Lib.hid (bt Hg1.out.1 Hg2.out.1)
  clear Hb1 Hg1 Hg2
  go_wp2_with (refine wpList_load_blk rfl _ _ rfl _ rfl _ _ HX2.out _ Try.underlying24 rfl Try.laySize ?_)
  refine (put14_any l HLl.out _).mono ?_; rintro e w3 ⟨rfl, hb3⟩
  obtain ⟨ev, Hev⟩ : ∃ v, Hid (okArg l.may = v) := ⟨_, Lib.hid rfl⟩
  rw [Hev.out]
  have E3 := Lib.hid (bt E2.out hb3)
  have HX3 := Lib.hid (HX2.out.ext hb3)
  have HY3 := Lib.hid (Hb2.out.ext hb3)
  clear hb3 E2 HX2 Hb2
  go_wp2_with (refine wpList_alloc_row rfl _ rfl _ Try.blockZero ?_)
  apply Stop.go; intro w4 Hg4 Hb4
  go_wp2_with (refine wpList_store_arr rfl _ _ _ rfl _ _ rfl rfl _ _ Hb4.out (Try.blockFits HPL.out) (by rw [bcells_size, bcells_size, HPL.out, zeros_len]) (oneCell_bcells _) ?_)
  apply Stop.go; intro w5 Ho5 Hb5
  have E5 := Lib.hid (bonly (bt E3.out Hg4.out.1) Ho5.out E3.out.size)
  have HX5 := Lib.hid ((HX3.out.ext Hg4.out.1).only Ho5.out (Nat.ne_of_lt HX3.out.lt))
  have HY5 := Lib.hid ((HY3.out.ext Hg4.out.1).only Ho5.out (Nat.ne_of_lt HY3.out.lt))
  generalize w3.heap.size = g5 at *
  generalize w1.heap.size = g3 at *
  clear Hg4 Hb4 Ho5 E3 HX3 HY3
  go_upto_region 2 with fail
  go_cut [40] from 12 to 40 (fun v wx => v = .bool false ∧ Below w5.heap.size w5 wx)
  case first =>
    obtain ⟨q1, d1⟩ : ∃ q, (l.blocks == m.blocks) = q := ⟨_, rfl⟩
    obtain ⟨q2, d2⟩ : ∃ q, (l.inodes == m.inodes) = q := ⟨_, rfl⟩
    obtain ⟨q3, d3⟩ : ∃ q, ((l.merge : Int) == (m.merge : Int)) = q := ⟨_, rfl⟩
    have Heq : Hid (l.eqB m = (q1 && (q2 && q3))) := Lib.hid (by rw [← d1, ← d2, ← d3]; unfold Lay14.eqB; rw [show ((l.merge : Int) == (m.merge : Int)) = (l.merge == m.merge) from Bool.eq_iff_iff.2 (by simp; omega)])
    have d0 : (ev != ev) = false := by simp
    refine WH.start (S := fun w' : World => Blk w' w.heap.size 24 l.val ∧ Blk w' g3 24 m.val) [false, false, false, false, false, false, false, false, false, false, false, false, false, false, false, false, false, false, false, false, false, false, false, false, false, false, false, false, false] 29 rfl rfl (by kernel_rfl) ⟨HX5.out.ext (bdrew w5 1), HY5.out.ext (bdrew w5 1)⟩ (fun hSn => ?_); obtain ⟨wS, hwS⟩ : ∃ x, (w5).drew = x := ⟨_, rfl⟩; have HE := Lib.hid (show Below (w5).heap.size (w5) wS from hwS ▸ bdrew w5 1); rw [hwS] at hSn ⊢; clear hwS
    refine WH.tv 0 rfl (fun w' hSw => exec_load_blk _ _ rfl _ rfl _ _ (hSw.1) _ (Try.underlying24) rfl (Try.laySize)) ?_; simp only [setL]
    refine WH.tk 2 ?_; simp only [setL]
    refine WH.only 1 _ rfl (by kernel_rfl) rfl (fun K hK => ?_)
    go_simp; refine (check14_any l _).mono ?_; rintro e wa ⟨rfl, hba⟩; go_simp
    rw [Hev.out]
    have HE := Lib.hid (bt HE.out hba)
    have hSn := And.intro (hSn.1.ext hba) (hSn.2.ext hba); refine hK _ _ hSn ?_; clear hK; clear K; simp only [setL]
    refine WH.tk 3 ?_; simp only [setL]
    refine WH.tk 4 ?_; simp only [setL]
    refine WH.tv 5 rfl (fun w' hSw => exec_load_blk _ _ rfl _ rfl _ _ (hSw.1) _ (Try.underlying24) rfl (Try.laySize)) ?_; simp only [setL]
    refine WH.tv 6 rfl (fun w' hSw => exec_load_blk _ _ rfl _ rfl _ _ (hSw.2) _ (Try.underlying24) rfl (Try.laySize)) ?_; simp only [setL]
    refine WH.tk 8 ?_; simp only [setL]
    refine WH.tv 9 rfl (fun w' hSw => exec_load_cell _ _ rfl ⟨w.heap.size, 0, none⟩ rfl _ hSw.1.lay0 _ Try.underlying3 rfl) ?_; simp only [setL]
    refine WH.tk 10 ?_; simp only [setL]
    refine WH.tv 11 rfl (fun w' hSw => exec_load_cell _ _ rfl ⟨g3, 0, none⟩ rfl _ hSw.2.lay0 _ Try.underlying3 rfl) ?_; simp only [setL]
    cases q1
    focus (
      refine WH.tk 12 ?_; simp only [setL]; refine WH.only 7 _ rfl (by kernel_rfl) rfl (fun K hK => ?_); go_simp; refine (same14_any l m _).mono ?_; rintro e wb ⟨rfl, hbb⟩; go_simp; rw [Heq.out]; have HE := Lib.hid (bt HE.out hbb); have hSn := And.intro (hSn.1.ext hbb) (hSn.2.ext hbb); refine hK _ _ hSn ?_; clear hK; clear K; simp only [setL]; refine WH.tk 13 ?_; simp only [setL]
      refine WH.skip 14 _ rfl (by kernel_rfl) (fun _ _ _ h => h) rfl (by assumption) ?_; simp only [setL]
      refine WH.skip 15 _ rfl (by kernel_rfl) (fun _ _ _ h => h) rfl (by assumption) ?_; simp only [setL]
      refine WH.skip 16 _ rfl (by kernel_rfl) (fun _ _ _ h => h) rfl (by assumption) ?_; simp only [setL]
      refine WH.skip 17 _ rfl (by kernel_rfl) (fun _ _ _ h => h) rfl (by assumption) ?_; simp only [setL]
      refine WH.skip 18 _ rfl (by kernel_rfl) (fun _ _ _ h => h) rfl (by assumption) ?_; simp only [setL]
      refine WH.tk 19 ?_; simp only [setL]
      refine WH.tk 20 ?_; simp only [setL]
      refine WH.skip 21 _ rfl (by kernel_rfl) (fun _ _ _ h => h) rfl (by assumption) ?_; simp only [setL]
      refine WH.skip 22 _ rfl (by kernel_rfl) (fun _ _ _ h => h) rfl (by assumption) ?_; simp only [setL]
      refine WH.skip 23 _ rfl (by kernel_rfl) (fun _ _ _ h => h) rfl (by assumption) ?_; simp only [setL]
      refine WH.skip 24 _ rfl (by kernel_rfl) (fun _ _ _ h => h) rfl (by assumption) ?_; simp only [setL]
      refine WH.skip 25 _ rfl (by kernel_rfl) (fun _ _ _ h => h) rfl (by assumption) ?_; simp only [setL]
      refine WH.tk 26 ?_; simp only [setL]; refine WH.tk 27 ?_; simp only [setL]; refine WH.tk 28 ?_; simp only [setL]; refine WH.done (by kernel_rfl) ?_; go_wp2_with fail; go_meet; exact ⟨rfl, HE.out⟩)
    cases q2
    focus (
      refine WH.tk 12 ?_; simp only [setL]; refine WH.only 7 _ rfl (by kernel_rfl) rfl (fun K hK => ?_); go_simp; refine (same14_any l m _).mono ?_; rintro e wb ⟨rfl, hbb⟩; go_simp; rw [Heq.out]; have HE := Lib.hid (bt HE.out hbb); have hSn := And.intro (hSn.1.ext hbb) (hSn.2.ext hbb); refine hK _ _ hSn ?_; clear hK; clear K; simp only [setL]; refine WH.tk 13 ?_; simp only [setL]
      refine WH.tk 14 ?_; simp only [setL]; refine WH.tv 15 rfl (fun w' hSw => exec_load_cell _ _ rfl ⟨w.heap.size, 1, none⟩ rfl _ hSw.1.lay1 _ Try.underlying3 rfl) ?_; simp only [setL]; refine WH.tk 16 ?_; simp only [setL]; refine WH.tv 17 rfl (fun w' hSw => exec_load_cell _ _ rfl ⟨g3, 1, none⟩ rfl _ hSw.2.lay1 _ Try.underlying3 rfl) ?_; simp only [setL]; refine WH.tk 18 ?_; simp only [setL]; refine WH.tk 19 ?_; simp only [setL]; refine WH.tk 20 ?_; simp only [setL]
      refine WH.skip 21 _ rfl (by kernel_rfl) (fun _ _ _ h => h) rfl (by assumption) ?_; simp only [setL]
      refine WH.skip 22 _ rfl (by kernel_rfl) (fun _ _ _ h => h) rfl (by assumption) ?_; simp only [setL]
      refine WH.skip 23 _ rfl (by kernel_rfl) (fun _ _ _ h => h) rfl (by assumption) ?_; simp only [setL]
      refine WH.skip 24 _ rfl (by kernel_rfl) (fun _ _ _ h => h) rfl (by assumption) ?_; simp only [setL]
      refine WH.skip 25 _ rfl (by kernel_rfl) (fun _ _ _ h => h) rfl (by assumption) ?_; simp only [setL]
      refine WH.tk 26 ?_; simp only [setL]; refine WH.tk 27 ?_; simp only [setL]; refine WH.tk 28 ?_; simp only [setL]; refine WH.done (by kernel_rfl) ?_; go_wp2_with fail; go_meet; exact ⟨rfl, HE.out⟩)
    cases q3
    all_goals
      refine WH.tk 12 ?_; simp only [setL]; refine WH.only 7 _ rfl (by kernel_rfl) rfl (fun K hK => ?_); go_simp; refine (same14_any l m _).mono ?_; rintro e wb ⟨rfl, hbb⟩; go_simp; rw [Heq.out]; have HE := Lib.hid (bt HE.out hbb); have hSn := And.intro (hSn.1.ext hbb) (hSn.2.ext hbb); refine hK _ _ hSn ?_; clear hK; clear K; simp only [setL]; refine WH.tk 13 ?_; simp only [setL]
      refine WH.tk 14 ?_; simp only [setL]; refine WH.tv 15 rfl (fun w' hSw => exec_load_cell _ _ rfl ⟨w.heap.size, 1, none⟩ rfl _ hSw.1.lay1 _ Try.underlying3 rfl) ?_; simp only [setL]; refine WH.tk 16 ?_; simp only [setL]; refine WH.tv 17 rfl (fun w' hSw => exec_load_cell _ _ rfl ⟨g3, 1, none⟩ rfl _ hSw.2.lay1 _ Try.underlying3 rfl) ?_; simp only [setL]; refine WH.tk 18 ?_; simp only [setL]; refine WH.tk 19 ?_; simp only [setL]; refine WH.tk 20 ?_; simp only [setL]
      refine WH.tk 21 ?_; simp only [setL]
      refine WH.tv 22 rfl (fun w' hSw => exec_load_cell _ _ rfl ⟨w.heap.size, 2, none⟩ rfl _ hSw.1.lay2 _ Try.underlying22 rfl) ?_; simp only [setL]
      refine WH.tk 23 ?_; simp only [setL]
      refine WH.tv 24 rfl (fun w' hSw => exec_load_cell _ _ rfl ⟨g3, 2, none⟩ rfl _ hSw.2.lay2 _ Try.underlying22 rfl) ?_; simp only [setL]
      refine WH.tk 25 ?_; simp only [setL]
      refine WH.tk 26 ?_; simp only [setL]; refine WH.tk 27 ?_; simp only [setL]; refine WH.tk 28 ?_; simp only [setL]; refine WH.done (by kernel_rfl) ?_; go_wp2_with fail; go_meet; exact ⟨rfl, HE.out⟩
  case rest =>
  obtain ⟨rfl, hd⟩ := hcut
  have E6 := Lib.hid (bt E5.out hd)
  have HX6 := Lib.hid (HX5.out.ext hd)
  have HB6 := Lib.hid (Hb5.out.ext hd)
  generalize wc = w6 at *
  clear hd E5 HX5 HY5 Hb5
  go_wp2_with (refine wpList_load_blk rfl _ _ rfl _ rfl _ _ HX6.out _ Try.underlying24 rfl Try.laySize ?_)
  refine (rmay_any l _).mono ?_; rintro e w7 ⟨rfl, hb7⟩
  rw [Hm.out]
  have E7 := Lib.hid (bt E6.out hb7)
  have HX7 := Lib.hid (HX6.out.ext hb7)
  have HB7 := Lib.hid (HB6.out.ext hb7)
  clear hb7 E6 HX6 HB6
  cases b
  · obtain rfl : ev = 1 := by rw [← Hev.out, Hm.out]; rfl
    have HB0 : Hid (l.blk = zeros 256) := HBk
    rw [HB0.out] at HB7 HPL ⊢
    go_wp2_with (first | refine wpList_build_zero rfl _ rfl _ Try.blockZero _ _ Try.underlying26 Try.byteSize ?_ | refine wpList_load_arr rfl _ _ rfl _ rfl _ _ HB7.out _ _ Try.underlying26 (Try.blockFits HPL.out) ?_ | refine wpList_eql_arr rfl _ _ _ _ rfl (by kernel_rfl) _ _ Try.underlying26 Try.underlying5 Try.byteSize _ _ rfl rfl HPL.out HPL.out true (by simp) ?_)
    refine (works14_any _).mono ?_; rintro e w8 ⟨rfl, hb8⟩
    have E8 := Lib.hid (bt E7.out hb8)
    clear hb8
    go_wp2_with fail
    go_ret
    exact ⟨rfl, E8.out⟩
  · obtain rfl : ev = 0 := by rw [← Hev.out, Hm.out]; rfl
    have HB1 : Hid (l.blk = l.put) := HBk
    rw [HB1.out] at HB7 HPL ⊢
    go_wp2_with fail
    refine WH.start (S := fun w' : World => Blk w' w.heap.size 24 l.val) [false, false, false, false, false, false, false, false, false, false, false, false] 12 rfl rfl (by kernel_rfl) (HX7.out.ext (bdrew w7 1)) (fun hSn => ?_); obtain ⟨wS, hwS⟩ : ∃ x, (w7).drew = x := ⟨_, rfl⟩; have HE := Lib.hid (show Below (w7).heap.size (w7) wS from hwS ▸ bdrew w7 1); rw [hwS] at hSn ⊢; clear hwS
    refine WH.tk 0 ?_; simp only [setL]
    refine WH.tk 1 ?_; simp only [setL]
    refine WH.tk 2 ?_; simp only [setL]
    refine WH.tv 3 rfl (fun w' hSw => exec_slice_all _ _ rfl 256 _ Try.underlying26 Try.byteSize g5 rfl (by decide)) ?_; simp only [setL]
    refine WH.tv 4 rfl (fun w' hSw => exec_load_blk _ _ rfl _ rfl _ _ (hSw) _ (Try.underlying24) rfl (Try.laySize)) ?_; simp only [setL]
    refine WH.only 5 _ rfl (by kernel_rfl) rfl (fun K hK => ?_)
    go_simp; refine (rput14_any l Hm.out HLl.out _).mono ?_; rintro e wa ⟨A5, n5, c5, rfl, hl5, hc5, hm5, hr5, hb5⟩; go_simp
    obtain rfl : n5 = 256 := by rw [← hl5, l.put_len]
    have HE := Lib.hid (bt HE.out hb5)
    have HR5 := Lib.hid hr5
    have HBa := Lib.hid (HB7.out.ext HE.out)
    have hSn2 := hSn.ext hb5
    clear hl5 hc5 hm5 hr5 hb5
    have hSn := hSn2; refine hK _ _ hSn ?_; clear hK; clear K; simp only [setL]
    refine WH.only 6 _ rfl (by kernel_rfl) rfl (fun K hK => ?_)
    go_simp; refine (same_any _ _ _ l.put HPL.out _ _ _ l.put HPL.out (by unfold maxLen; omega) (by unfold maxLen; omega) _ (RB.of_blk0 HBa.out) HR5.out).mono ?_; rintro e wb ⟨rfl, k6, rfl⟩; go_simp
    have HE := Lib.hid (bt HE.out (bdrew wa k6))
    have hSn := hSn2.ext (bdrew wa k6); refine hK _ _ hSn ?_; clear hK; clear K; simp only [setL]
    obtain ⟨wb, hwb⟩ : ∃ x, wa.drewN k6 = x := ⟨_, rfl⟩
    rw [hwb] at HE hSn ⊢
    clear hwb
    refine WH.tk 7 ?_; simp only [setL]
    refine WH.tk 8 ?_; simp only [setL]
    refine WH.only 9 _ rfl (by kernel_rfl) rfl (fun K hK => ?_)
    go_simp; refine (works14_any _).mono ?_; rintro e wc ⟨rfl, hbc⟩; go_simp
    have HE := Lib.hid (bt HE.out hbc)
    have hSn := hSn.ext hbc; refine hK _ _ hSn ?_; clear hK; clear K; simp only [setL]
    refine WH.tk 10 ?_; simp only [setL]
    refine WH.tk 11 ?_; simp only [setL]
    refine WH.done (by kernel_rfl) ?_
    go_wp2_with fail
    go_ret
    exact ⟨rfl, bt E7.out HE.out⟩

end Go.Proofs.Ytbphaafchhaoaaa
