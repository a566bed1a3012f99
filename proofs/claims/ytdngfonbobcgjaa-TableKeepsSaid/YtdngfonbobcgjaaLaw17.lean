/-
  Layer 17: works, and the walk of TablePuts.
-/
import Derived.Test.YtdngfonbobcgjaaTab2
import Derived.Test.YtdngfonbobcgjaaTab3
import Derived.Test.YtdngfonbobcgjaaRef17
namespace Go.Proofs.Ytdngfonbobcgjaa
open Go.RowKit

def ex17 : List Int := [2, 1, 0, 0, 0, 0, 0, 0, 0, 0, 0]
theorem ex17_byte : (withT (zeros 256) 2 ex17)[64]? = some 2 := by decide +kernel
theorem ex17_err : errT 2 ex17 = 0 := by decide +kernel
theorem ex17_fst : fstT (freeT (withT (zeros 256) 2 ex17)) 8 = (0, true) := by decide +kernel
theorem ex17_used : (usedT (freeT (withT (zeros 256) 2 ex17)) 8).length = 1 := by decide +kernel

set_option maxHeartbeats 1600000 in
theorem works17_any (w : World) : Calls Try.prog 10 #[] w fun e w' => e = .returned (.bool true) ∧ Below w.heap.size w w' := by
  have HzL : Hid ((zeros 256).length = 256) := Lib.hid (zeros_len _)
  have HWL := Lib.hid (withT_len (zeros_len 256) 2 ex17)
  have HB := Lib.hid ex17_byte
  have HE := Lib.hid ex17_err
  have HF := Lib.hid ex17_fst
  have HU := Lib.hid ex17_used
  go_enter Try.func10, Try.ntmps10
  go_wp2_with (refine wpList_build_zero rfl _ rfl _ Try.blockZero _ _ Try.underlying26 Try.byteSize ?_)
  refine (twith_any (zeros 256) HzL.out 2 ex17 rfl _).mono ?_; rintro e w1 ⟨rfl, hb1⟩
  rw [HE.out]
  have E1 := Lib.hid hb1
  have z1 := Lib.hid hb1.size
  obtain ⟨X, hX⟩ : ∃ X, withT (zeros 256) 2 ex17 = X := ⟨_, rfl⟩
  rw [hX] at HWL HB HF HU ⊢
  clear hX hb1 HE
  go_wp2_with (refine wpList_alloc_row rfl _ rfl _ Try.blockZero ?_)
  apply Stop.go; intro w2 Hg2 Hb2
  go_wp2_with (refine wpList_store_arr rfl _ _ _ rfl _ _ rfl rfl _ _ Hb2.out (Try.blockFits HWL.out) (by rw [bcells_size, bcells_size, HWL.out, HzL.out]) (oneCell_bcells _) ?_)
  apply Stop.go; intro w3 Ho3 Hb3
  have E3 := Lib.hid (bonly (bt E1.out Hg2.out.1) Ho3.out z1.out)
  generalize w1.heap.size = g1 at *
  clear Hg2 Hb2 Ho3 E1 z1
  go_wp2_with (refine wpList_load_arr rfl _ _ rfl _ rfl _ _ Hb3.out _ _ Try.underlying26 (Try.blockFits HWL.out) ?_)
  refine (tfree_any X HWL.out _).mono ?_; rintro e w4 ⟨rfl, hb4⟩
  rw [HF.out]
  have HX4 := Lib.hid (Hb3.out.ext hb4)
  have E4 := Lib.hid (bt E3.out hb4)
  have c64 : w4.cell? ⟨g1, 64, none⟩ = some (.int .u8 2) := by
    obtain ⟨x, hx, hc⟩ := HX4.out.byte 64 (by rw [HWL.out]; omega)
    rw [HB.out] at hx
    injection hx with hx
    subst hx
    exact hc
  clear hb4 Hb3 E3 HF HB
  go_wp2_with (refine wpList_load_arr rfl _ _ rfl _ rfl _ _ HX4.out _ _ Try.underlying26 (Try.blockFits HWL.out) ?_)
  refine (tused_any X HWL.out _).mono ?_; rintro e w5 ⟨v, rfl, hv, hb5⟩
  obtain ⟨A5, c5, rfl, hc5, hm5, hr5⟩ := hv.ints
  rw [HU.out]
  have E5 := Lib.hid (bt E4.out hb5)
  clear hv hc5 hm5 hr5 hb5 c64 HX4 E4 HU
  go_wp2_with fail
  go_ret
  exact ⟨rfl, E5.out⟩

set_option maxHeartbeats 3200000 in
theorem tablePuts_any (b : List UInt8) (hb : b.length = 256) (k : Int) (l : List Int) (hl : l.length = 11) (w : World) :
    Calls Try.prog 3 #[.agg (bcells b), .int .i64 k, .agg (icells l)] w fun e w' => e = .returned (.bool true) ∧ Below w.heap.size w w' := by
  have HbL := Lib.hid hb
  have HL := Lib.hid hl
  have HzL : Hid ((zeros 256).length = 256) := Lib.hid (zeros_len _)
  have HWL := Lib.hid (withT_len hb k l)
  have HW := Lib.hid (errT_ways k l)
  have hP : layP b (patT k l) = withT b k l := rfl
  have HT := Lib.hid (fun w => twith_any b hb k l hl w)
  have HR := Lib.hid (fun A w (h : RB w A b) => rwith17_any A 256 b hb (Nat.le_refl _) (by unfold maxLen; omega) k l hl w h)
  have HPt := Lib.hid (fun w => tpatch_any k l hl w)
  obtain ⟨Y, hY⟩ : ∃ Y, withT b k l = Y := ⟨_, rfl⟩
  obtain ⟨er, he⟩ : ∃ e, errT k l = e := ⟨_, rfl⟩
  obtain ⟨p, hp⟩ : ∃ p, patT k l = p := ⟨_, rfl⟩
  rw [hY] at HWL hP HT HR
  rw [he] at HW HT HR HPt
  rw [hp] at HW hP HPt
  have HP := Lib.hid hP
  clear hY he hp hP hb hl
  go_enter Try.func3, Try.ntmps3
  go_wp2_with (refine wpList_box_row rfl _ _ rfl _ rfl ?_)
  apply Stop.go; intro w1 Hg1 Hb1
  go_wp2_with (refine wpList_box_row rfl _ _ rfl _ rfl ?_)
  apply Stop.go; intro w2 Hg2 Hb2
  have HB2 := Lib.hid (Hb1.out.ext Hg2.out.1)
  have E2 := Lib.hid (bt Hg1.out.1 Hg2.out.1)
  have z2 := Lib.hid (show w.heap.size < w1.heap.size ∧ w1.heap.size < w2.heap.size by have := Hg1.out.2; have := Hg2.out.2; omega)
  generalize w1.heap.size = g1 at *
  clear Hb1 Hg1 Hg2
  go_wp2_with (first | refine wpList_load_arr rfl _ _ rfl _ rfl _ _ HB2.out _ _ Try.underlying22 (Try.arr256Fits HbL.out) ?_ | refine wpList_load_blk rfl _ _ rfl _ rfl _ _ Hb2.out _ Try.underlying25 rfl (Try.inoFits HL.out) ?_)
  refine (HT.out _).mono ?_; rintro e w3 ⟨rfl, hb3⟩
  have HB3 := Lib.hid (HB2.out.ext hb3)
  have HI3 := Lib.hid (Hb2.out.ext hb3)
  have E3 := Lib.hid (bt E2.out hb3)
  have z3 := Lib.hid (show w.heap.size < g1 ∧ g1 < w3.heap.size by have := z2.out; have := hb3.size; omega)
  clear hb3 HB2 Hb2 E2 z2 HT
  go_wp2_with (refine wpList_alloc_row rfl _ rfl _ Try.blockZero ?_)
  apply Stop.go; intro w4 Hg4 Hb4
  go_wp2_with (refine wpList_store_arr rfl _ _ _ rfl _ _ rfl rfl _ _ Hb4.out (Try.blockFits HWL.out) (by rw [bcells_size, bcells_size, HWL.out, HzL.out]) (oneCell_bcells _) ?_)
  apply Stop.go; intro w5 Ho5 Hb5
  have HB5 := Lib.hid ((HB3.out.ext Hg4.out.1).only Ho5.out (by have := z3.out; omega))
  have HI5 := Lib.hid ((HI3.out.ext Hg4.out.1).only Ho5.out (by have := z3.out; omega))
  have E5 := Lib.hid (bonly (bt E3.out Hg4.out.1) Ho5.out (by have := z3.out; omega))
  generalize w3.heap.size = g3 at *
  clear Hg4 Hb4 Ho5 HB3 HI3 E3 z3
  go_wp2_with fail
  refine WH.start (S := fun w' : World => Blk w' g1 25 (icells l)) [false, false, false, false, false, false, false, false, false] 9 rfl rfl (by kernel_rfl) (HI5.out.ext (bdrew w5 1)) (fun hSn => ?_); obtain ⟨wS, hwS⟩ : ∃ x, (w5).drew = x := ⟨_, rfl⟩; have HE := Lib.hid (show Below (w5).heap.size (w5) wS from hwS ▸ bdrew w5 1); rw [hwS] at hSn ⊢; clear hwS
  refine WH.tv 0 rfl (fun w' hSw => exec_slice_all _ _ rfl 256 _ Try.underlying22 Try.byteSize w.heap.size rfl (by decide)) ?_; simp only [setL]
  refine WH.tk 1 ?_; simp only [setL]
  refine WH.tv 2 rfl (fun w' hSw => exec_load_blk _ _ rfl _ rfl _ _ (hSw) _ (Try.underlying25) rfl (Try.inoFits HL.out)) ?_; simp only [setL]
  refine WH.only 3 _ rfl (by kernel_rfl) rfl (fun K hK => ?_)
  go_simp; refine (HR.out _ _ (RB.of_blk0 (HB5.out.ext HE.out))).mono ?_; rintro e w6 ⟨A6, n6, c6, rfl, hl6, hc6, hm6, hr6, hb6⟩; go_simp
  have HE := Lib.hid (bt HE.out hb6)
  have HL6 := Lib.hid (show n6 = 256 by rw [← hl6, HWL.out])
  have HR6 := Lib.hid hr6
  clear hl6 hc6 hm6 hr6
  have hSn := hSn.ext hb6; refine hK _ _ hSn ?_; clear hK; clear K; simp only [setL]
  refine WH.tk 4 ?_; simp only [setL]
  refine WH.tk 5 ?_; simp only [setL]
  refine WH.tk 6 ?_; simp only [setL]
  refine WH.tk 7 ?_; simp only [setL]
  refine WH.tk 8 ?_; simp only [setL]
  refine WH.done (by kernel_rfl) ?_
  have HB6 := Lib.hid (HB5.out.ext HE.out)
  have HI6 := Lib.hid (HI5.out.ext HE.out)
  have HY6 := Lib.hid (Hb5.out.ext HE.out)
  have E6 := Lib.hid (bt E5.out HE.out)
  clear hb6 HB5 HI5 Hb5 E5 HE hSn HR
  go_wp2_with (refine wpList_load_blk rfl _ _ rfl _ rfl _ _ HI6.out _ Try.underlying25 rfl (Try.inoFits HL.out) ?_)
  refine (HPt.out _).mono ?_; rintro e w7 ⟨A7, n7, c7, rfl, hp7, hb7⟩
  have HB7 := Lib.hid (HB6.out.ext hb7)
  have HY7 := Lib.hid (HY6.out.ext hb7)
  have HR7 := Lib.hid (HR6.out.below hb7)
  have HP7 := Lib.hid hp7
  have E7 := Lib.hid (bt E6.out hb7)
  have z7 := Lib.hid (show w.heap.size < w7.heap.size ∧ g3 < w7.heap.size from ⟨HB7.out.lt, HY7.out.lt⟩)
  clear hb7 hp7 HB6 HI6 HY6 HR6 E6
  go_wp2_with (refine wpList_alloc_row rfl _ rfl _ Try.patchZero ?_)
  apply Stop.go; intro w8 Hg8 Hb8
  go_wp2_with (refine wpList_store_arr rfl _ _ _ rfl _ #[.int .i64 p.at_, .slice A7 n7 c7] rfl rfl _ _ Hb8.out Try.patchSize rfl (by simp [Value.oneCell']) ?_)
  apply Stop.go; intro w9 Ho9 Hb9
  have D9 := Lib.hid (bonly Hg8.out.1 Ho9.out (Nat.le_refl _))
  have HB9 := Lib.hid (HB7.out.ext D9.out)
  have HY9 := Lib.hid (HY7.out.ext D9.out)
  have HR9 := Lib.hid (HR7.out.below D9.out)
  have HP9 := Lib.hid (HP7.out.below D9.out)
  have E9 := Lib.hid (bt E7.out D9.out)
  generalize w7.heap.size = g7 at *
  clear Hg8 Hb8 Ho9 D9 HB7 HY7 HR7 HP7 E7
  have d0 : (er != er) = false := by simp
  obtain rfl := HL6.out
  go_wp2_with (refine wpList_slice_arr_all rfl _ _ rfl 256 _ Try.underlying26 Try.byteSize g3 rfl (by omega) ?_)
  refine (same_any _ _ _ Y HWL.out _ _ _ Y HWL.out (by unfold maxLen; omega) (by unfold maxLen; omega) _ (RB.of_blk0 HY9.out) HR9.out).mono ?_; rintro e wa ⟨rfl, ka, rfl⟩
  rw [show decide (Y = Y) = true from by simp]
  have hba := bdrew w9 ka
  obtain ⟨wa, hwa⟩ : ∃ x, w9.drewN ka = x := ⟨_, rfl⟩
  rw [hwa] at hba ⊢
  have HBa := Lib.hid (HB9.out.ext hba)
  have HYa := Lib.hid (HY9.out.ext hba)
  have HQa := Lib.hid (Hb9.out.ext hba)
  have HPa := Lib.hid (HP9.out.below hba)
  have Ea := Lib.hid (bt E9.out hba)
  clear hba hwa HB9 HY9 Hb9 HP9 HR9 E9
  rcases HW.out with hz | ⟨hz, rfl⟩
  · subst hz
    go_wp2_with fail
    refine WH.start (S := fun w' : World => Blk w' w.heap.size 22 (bcells b) ∧ Blk w' g3 26 (bcells Y) ∧ Blk w' g7 34 #[.int .i64 p.at_, .slice A7 n7 c7]) [false, false, false, false, false, false, false, false, false] 9 rfl rfl (by kernel_rfl) ⟨HBa.out.ext (bdrew wa 1), HYa.out.ext (bdrew wa 1), HQa.out.ext (bdrew wa 1)⟩ (fun hSn => ?_); obtain ⟨wS, hwS⟩ : ∃ x, (wa).drew = x := ⟨_, rfl⟩; have HE := Lib.hid (show Below (wa).heap.size (wa) wS from hwS ▸ bdrew wa 1); rw [hwS] at hSn ⊢; clear hwS
    refine WH.tv 0 rfl (fun w' hSw => exec_load_blk _ _ rfl _ rfl _ _ (hSw.1) _ (Try.underlying22) rfl (Try.arr256Fits HbL.out)) ?_; simp only [setL]
    refine WH.tv 1 rfl (fun w' hSw => exec_load_blk _ _ rfl _ rfl _ _ (hSw.2.2) _ (Try.underlying34) rfl (Try.patchSize)) ?_; simp only [setL]
    refine WH.tv 3 rfl (fun w' hSw => exec_load_blk _ _ rfl _ rfl _ _ (hSw.2.1) _ (Try.underlying26) rfl (Try.blockFits HWL.out)) ?_; simp only [setL]
    refine WH.only 2 _ rfl (by kernel_rfl) rfl (fun K hK => ?_)
    go_simp; refine (play_any b HbL.out p A7 n7 c7 _ (HPa.out.below HE.out)).mono ?_; rintro e wb ⟨rfl, hbb⟩; go_simp
    rw [HP.out]
    have HE := Lib.hid (bt HE.out hbb)
    have hSn := And.intro (hSn.1.ext hbb) (And.intro (hSn.2.1.ext hbb) (hSn.2.2.ext hbb)); refine hK _ _ hSn ?_; clear hK; clear K; simp only [setL]
    refine WH.tv 4 rfl (fun w' hSw => exec_eql_arr _ _ _ _ rfl (by kernel_rfl) _ _ Try.underlying26 Try.underlying5 Try.byteSize Y Y rfl rfl HWL.out HWL.out true (by simp)) ?_; simp only [setL]
    refine WH.tk 5 ?_; simp only [setL]
    refine WH.only 6 _ rfl (by kernel_rfl) rfl (fun K hK => ?_)
    go_simp; refine (works17_any _).mono ?_; rintro e wc ⟨rfl, hbc⟩; go_simp
    have HE := Lib.hid (bt HE.out hbc)
    have hSn := And.intro (hSn.1.ext hbc) (And.intro (hSn.2.1.ext hbc) (hSn.2.2.ext hbc)); refine hK _ _ hSn ?_; clear hK; clear K; simp only [setL]
    refine WH.tk 7 ?_; simp only [setL]
    refine WH.tk 8 ?_; simp only [setL]
    refine WH.done (by kernel_rfl) ?_
    go_wp2_with fail
    go_ret
    exact ⟨rfl, bt Ea.out HE.out⟩
  · have hn : n7 = 0 := HPa.out.len.symm
    subst hn
    have c0 : wa.cell? ⟨g7, 0, none⟩ = some (.int .i64 0) := HQa.out.cell 0
    have c1 : wa.cell? ⟨g7, 1, none⟩ = some (.slice A7 0 c7) := HQa.out.cell 1
    rcases hz with rfl | rfl
    all_goals
      go_wp2_with fail
      refine (works17_any _).mono ?_; rintro e wc ⟨rfl, hbc⟩
      go_wp2_with fail
      go_ret
      exact ⟨rfl, bt Ea.out hbc⟩

end Go.Proofs.Ytdngfonbobcgjaa
