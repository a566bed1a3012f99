/-
  Layer 16: the walk of InodeGets.
-/
import Derived.Test.YtlonloiacgipeaaLaw16
namespace Go.Proofs.Ytlonloiacgipeaa
open Go.RowKit

set_option maxHeartbeats 3200000 in
theorem inodeGets_any (b : List UInt8) (hb : b.length = 32) (n : Int) (w : World) :
    Calls Try.prog 4 #[.agg (bcells b), .int .i64 n] w fun e w' => e = .returned (.bool true) ∧ Below w.heap.size w w' := by
  have HbL := Lib.hid hb
  obtain ⟨c, HCd⟩ : ∃ c, Hid (cleanV b = c) := ⟨_, Lib.hid rfl⟩
  have HCL := Lib.hid (show c.length = 11 by rw [← HCd.out]; exact cleanV_len b)
  obtain ⟨q, HQ⟩ : ∃ q, Hid ((cleanI b).isSome = q) := ⟨_, Lib.hid rfl⟩
  obtain ⟨x, HXd⟩ : ∃ x, Hid (getI b = x) := ⟨_, Lib.hid rfl⟩
  have HXL := Lib.hid (show x.length = 11 by rw [← HXd.out]; rfl)
  obtain ⟨N, HN⟩ : ∃ N, Hid (blocksI n = N) := ⟨_, Lib.hid rfl⟩
  have HEx := Lib.hid (show ∀ w, (binOp .eql 24 (.agg (icells x)) (.agg (icells x))).run Try.prog w = .ok (.bool true) w from fun w => by rw [run_eql_ino x x HXL.out HXL.out w]; simp)
  have HEc := Lib.hid (show ∀ w, (binOp .eql 24 (.agg (icells c)) (.agg (icells c))).run Try.prog w = .ok (.bool true) w from fun w => by rw [run_eql_ino c c HCL.out HCL.out w]; simp)
  go_enter Try.func4, Try.ntmps4
  go_wp2_with (refine wpList_box_row rfl _ _ rfl _ rfl ?_)
  apply Stop.go; intro w1 Hg1 Hb1
  go_wp2_with (refine wpList_load_arr rfl _ _ rfl _ rfl _ _ Hb1.out _ _ Try.underlying25 (Try.b32Fits HbL.out) ?_)
  refine (cleanI_any b HbL.out _).mono ?_; rintro e w2 ⟨rfl, hb2⟩
  rw [HCd.out, HQ.out]
  have HB2 := Lib.hid (Hb1.out.ext hb2)
  have E2 := Lib.hid (bt Hg1.out.1 hb2)
  have z2 := Lib.hid (show w.heap.size < w2.heap.size by have := Hg1.out.2; have := hb2.size; omega)
  clear hb2 Hb1 Hg1
  go_wp2_with (refine wpList_alloc_row rfl _ rfl _ Try.inoZero ?_)
  apply Stop.go; intro w3 Hg3 Hb3
  go_wp2_with (refine wpList_store_arr rfl _ _ _ rfl _ _ rfl rfl _ _ Hb3.out (Try.inoFits HCL.out) (by rw [icells_size, icells_size, HCL.out]; rfl) (oneCell_icells _) ?_)
  apply Stop.go; intro w4 Ho4 Hb4
  have HB4 := Lib.hid ((HB2.out.ext Hg3.out.1).only Ho4.out (by have := z2.out; omega))
  have E4 := Lib.hid (bonly (bt E2.out Hg3.out.1) Ho4.out (by have := z2.out; omega))
  have z4 := Lib.hid (show w.heap.size < w2.heap.size ∧ w2.heap.size < w4.heap.size from ⟨z2.out, Hb4.out.lt⟩)
  generalize w2.heap.size = g5 at *
  clear Hg3 Hb3 Ho4 HB2 E2 z2
  go_wp2_with (refine wpList_slice_arr_all rfl _ _ rfl _ _ Try.underlying25 Try.byteSize _ rfl (by omega) ?_)
  refine (rcleanI_any _ _ b HbL.out _ (RB.of_blk0 HB4.out)).mono ?_; rintro e w5 ⟨rfl, hb5⟩
  rw [HCd.out, HQ.out]
  have HB5 := Lib.hid (HB4.out.ext hb5)
  have HX5 := Lib.hid (Hb4.out.ext hb5)
  have E5 := Lib.hid (bt E4.out hb5)
  have z5 := Lib.hid (show w.heap.size < g5 ∧ g5 < w5.heap.size by have := z4.out; have := hb5.size; omega)
  clear hb5 HB4 Hb4 E4 z4
  go_wp2_with (refine wpList_alloc_row rfl _ rfl _ Try.inoZero ?_)
  apply Stop.go; intro w6 Hg6 Hb6
  go_wp2_with (refine wpList_store_arr rfl _ _ _ rfl _ _ rfl rfl _ _ Hb6.out (Try.inoFits HCL.out) (by rw [icells_size, icells_size, HCL.out]; rfl) (oneCell_icells _) ?_)
  apply Stop.go; intro w7 Ho7 Hb7
  have HB7 := Lib.hid ((HB5.out.ext Hg6.out.1).only Ho7.out (by have := z5.out; omega))
  have HX7 := Lib.hid ((HX5.out.ext Hg6.out.1).only Ho7.out (by have := z5.out; omega))
  have E7 := Lib.hid (bonly (bt E5.out Hg6.out.1) Ho7.out (by have := z5.out; omega))
  generalize w5.heap.size = g7 at *
  clear Hg6 Hb6 Ho7 HB5 HX5 E5 z5
  have dq : (q == q) = true := by simp
  have dN : (N == N) = true := by simp
  go_wp2_with fail
  refine WH.start (S := fun w' : World => Blk w' w.heap.size 25 (bcells b) ∧ (Blk w' g5 24 (icells c) ∧ Blk w' g7 24 (icells c))) [false, false, false, false, false, false, false, false, false, false, false, false, false, false, false, false, false, false, false, false, false, false, false, false, false, false] 26 rfl rfl (by kernel_rfl) ⟨HB7.out.ext (bdrew w7 1), HX7.out.ext (bdrew w7 1), Hb7.out.ext (bdrew w7 1)⟩ (fun hSn => ?_); obtain ⟨wS, hwS⟩ : ∃ x, (w7).drew = x := ⟨_, rfl⟩; have HE := Lib.hid (show Below (w7).heap.size (w7) wS from hwS ▸ bdrew w7 1); rw [hwS] at hSn ⊢; clear hwS
  refine WH.tv 0 rfl (fun w' hSw => run_load_arr _ _ rfl _ rfl _ _ (hSw.1) _ _ (Try.underlying25) (Try.b32Fits HbL.out)) ?_; simp only [setL]
  refine WH.tv 2 rfl (fun w' hSw => exec_slice_all _ _ rfl 32 _ Try.underlying25 Try.byteSize w.heap.size rfl (by decide)) ?_; simp only [setL]
  refine WH.only 1 _ rfl (by kernel_rfl) rfl (fun K hK => ?_)
  go_simp; refine (getI_any b HbL.out _).mono ?_; rintro e wa ⟨rfl, hba⟩; go_simp
  rw [HXd.out]
  have HE := Lib.hid (bt HE.out hba)
  have hSn := And.intro (hSn.1.ext hba) (And.intro (hSn.2.1.ext hba) (hSn.2.2.ext hba)); refine hK _ _ hSn ?_; clear hK; clear K; simp only [setL]
  refine WH.only 3 _ rfl (by kernel_rfl) rfl (fun K hK => ?_)
  go_simp; refine (rgetI_any _ _ b HbL.out _ (RB.of_blk0 hSn.1)).mono ?_; rintro e wb ⟨rfl, hbb⟩; go_simp
  rw [HXd.out]
  have HE := Lib.hid (bt HE.out hbb)
  have hSn := And.intro (hSn.1.ext hbb) (And.intro (hSn.2.1.ext hbb) (hSn.2.2.ext hbb)); refine hK _ _ hSn ?_; clear hK; clear K; simp only [setL]
  refine WH.tv 4 rfl (fun w' hSw => exec_eql_agg _ _ _ _ _ rfl (by kernel_rfl) (icells x) (icells x) rfl rfl _ (HEx.out _)) ?_; simp only [setL]
  refine WH.tk 5 ?_; simp only [setL]
  refine WH.tv 6 rfl (fun w' hSw => exec_load_blk _ _ rfl _ rfl _ _ (hSw.2.1) _ (Try.underlying24) rfl (Try.inoFits HCL.out)) ?_; simp only [setL]
  refine WH.tv 7 rfl (fun w' hSw => exec_load_blk _ _ rfl _ rfl _ _ (hSw.2.2) _ (Try.underlying24) rfl (Try.inoFits HCL.out)) ?_; simp only [setL]
  refine WH.tv 8 rfl (fun w' hSw => exec_eql_agg _ _ _ _ _ rfl (by kernel_rfl) (icells c) (icells c) rfl rfl _ (HEc.out _)) ?_; simp only [setL]
  refine WH.tk 9 ?_; simp only [setL]
  refine WH.tk 10 ?_; simp only [setL]
  refine WH.tk 11 ?_; simp only [setL]
  refine WH.tk 12 ?_; simp only [setL]
  refine WH.tk 13 ?_; simp only [setL]
  refine WH.tk 14 ?_; simp only [setL]
  refine WH.tk 15 ?_; simp only [setL]
  refine WH.tk 16 ?_; simp only [setL]
  refine WH.tk 18 ?_; simp only [setL]
  refine WH.only 17 _ rfl (by kernel_rfl) rfl (fun K hK => ?_)
  go_simp; refine (blocks_any n _).mono ?_; rintro e wc ⟨rfl, rfl⟩; go_simp
  rw [HN.out]
  have hSn := hSn; refine hK _ _ hSn ?_; clear hK; clear K; simp only [setL]
  refine WH.only 19 _ rfl (by kernel_rfl) rfl (fun K hK => ?_)
  go_simp; refine (rblocks_any n _).mono ?_; rintro e wc ⟨rfl, rfl⟩; go_simp
  rw [HN.out]
  have hSn := hSn; refine hK _ _ hSn ?_; clear hK; clear K; simp only [setL]
  refine WH.tk 20 ?_; simp only [setL]
  refine WH.tk 21 ?_; simp only [setL]
  refine WH.tk 22 ?_; simp only [setL]
  refine WH.only 23 _ rfl (by kernel_rfl) rfl (fun K hK => ?_)
  go_simp; refine (works16_any _).mono ?_; rintro e wd ⟨rfl, hbd⟩; go_simp
  have HE := Lib.hid (bt HE.out hbd)
  have hSn := And.intro (hSn.1.ext hbd) (And.intro (hSn.2.1.ext hbd) (hSn.2.2.ext hbd)); refine hK _ _ hSn ?_; clear hK; clear K; simp only [setL]
  refine WH.tk 24 ?_; simp only [setL]
  refine WH.tk 25 ?_; simp only [setL]
  refine WH.done (by kernel_rfl) ?_
  go_wp2_with fail
  go_ret
  exact ⟨rfl, bt E7.out HE.out⟩

end Go.Proofs.Ytlonloiacgipeaa
