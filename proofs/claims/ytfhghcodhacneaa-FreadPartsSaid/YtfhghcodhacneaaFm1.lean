/-
  Contracts of package fmap: ifData, pointers, keepData, At.
-/
import Derived.Test.YtfhghcodhacneaaFmpC
import Derived.Test.YtfhghcodhacneaaFmpD
import Derived.Test.YtfhghcodhacneaaVwC
import Derived.Test.YtfhghcodhacneaaPts1
import Derived.Test.YtfhghcodhacneaaAppM
import Derived.Test.YtfhghcodhacneaaIdxO
namespace Go.Proofs.Ytfhghcodhacneaa
open Go.RowKit
set_option maxRecDepth 10000

set_option maxHeartbeats 800000 in
theorem fdata_any (l : Lay14) (f : Value) (no : Int) (w : World) :
    Calls Try.prog 51 #[.agg (vval l f), .int .i64 no] w fun e w' => e = .returned (.int .i64 (datF l no)) ∧ Below w.heap.size w w' := by
  have HY := Lib.hid (fun h => datF_yes (l := l) (no := no) h)
  have HN := Lib.hid (fun h => datF_no (l := l) (no := no) h)
  go_enter Try.func51, Try.ntmps51
  go_wp2_with (refine wpList_box_row rfl _ _ rfl _ rfl ?_)
  apply Stop.go; intro w1 Hg1 Hb1
  go_wp2_with (refine wpList_load_cells rfl _ _ rfl ⟨w.heap.size, 0, none⟩ rfl _ Try.underlying31 (Lay14.val l).toList Try.laySize (vval_cells Hb1.out) ?_)
  refine (isdata_any l no _).mono ?_; rintro e w2 ⟨rfl, hb2⟩
  have E2 := Lib.hid (bt Hg1.out.1 hb2)
  clear hb2 Hg1 Hb1
  cases hd : l.isD no
  · have H0 := Lib.hid (HN.out hd)
    clear hd HY HN
    go_wp2_with fail
    go_ret
    rw [H0.out]
    exact ⟨rfl, E2.out⟩
  · have H0 := Lib.hid (HY.out hd)
    clear hd HY HN
    go_wp2_with fail
    go_ret
    rw [H0.out]
    exact ⟨rfl, E2.out⟩

set_option maxHeartbeats 1600000 in
theorem fptr_any (l : Lay14) (f : Value) (T : Int → List UInt8) (hT : ∀ no, (T no).length = 256) (X : List Int) (hX : X.length = 11) (w : World) (hf : FV w l f T) :
    Calls Try.prog 53 #[.agg (vval l f), .agg (icells X)] w fun e w' => e = .returned (.agg (bcells (ptrF l T X))) ∧ Below w.heap.size w w' := by
  have HXL := Lib.hid hX
  have HF := Lib.hid hf
  have HzL : Hid ((zeros 256).length = 256) := Lib.hid (zeros_len _)
  obtain ⟨I, HI⟩ : ∃ I, Hid (fld X 10 = I) := ⟨_, Lib.hid rfl⟩
  have HBk := Lib.hid (fun w h => vblock_any l f T hT I w h)
  have HBL := Lib.hid (vBk_len (l := l) hT I)
  have HY := Lib.hid (fun h : l.isD I = true => show ptrF l T X = vBk l T I by rw [ptrF_yes (by rw [HI.out]; exact h), HI.out])
  have HN := Lib.hid (fun h : l.isD I = false => show ptrF l T X = zeros 256 from ptrF_no (by rw [HI.out]; exact h))
  clear hT hX hf
  go_enter Try.func53, Try.ntmps53
  go_wp2_with (refine wpList_box_row rfl _ _ rfl _ rfl ?_)
  apply Stop.go; intro w1 Hg1 Hb1
  go_wp2_with (refine wpList_box_row rfl _ _ rfl _ rfl ?_)
  apply Stop.go; intro w2 Hg2 Hb2
  have HV2 := Lib.hid (Hb1.out.ext Hg2.out.1)
  have E2 := Lib.hid (bt Hg1.out.1 Hg2.out.1)
  have z2 := Lib.hid (show w.heap.size < w1.heap.size ∧ w1.heap.size < w2.heap.size by have := Hg1.out.2; have := Hg2.out.2; omega)
  generalize w1.heap.size = g1 at *
  clear Hg1 Hb1 Hg2
  go_wp2_with (refine wpList_alloc_row rfl _ rfl _ Try.blockZero ?_)
  apply Stop.go; intro w3 Hg3 Hb3
  have HV3 := Lib.hid (HV2.out.ext Hg3.out.1)
  have HX3 := Lib.hid (Hb2.out.ext Hg3.out.1)
  have E3 := Lib.hid (bt E2.out Hg3.out.1)
  have z3 := Lib.hid (show w.heap.size < w2.heap.size ∧ g1 < w2.heap.size by have := z2.out; omega)
  generalize w2.heap.size = gz at *
  clear Hg3 Hb2 HV2 E2 z2
  have c10 : w3.cell? ⟨g1, 10, none⟩ = some (.int .i64 I) := by rw [← HI.out]; exact HX3.out.fld 10 (by rw [HXL.out]; omega)
  go_wp2_with (refine wpList_load_cells rfl _ _ rfl ⟨w.heap.size, 0, none⟩ rfl _ Try.underlying31 (Lay14.val l).toList Try.laySize (vval_cells HV3.out) ?_)
  refine (isdata_any l I _).mono ?_; rintro e w4 ⟨rfl, hb4⟩
  have HV4 := Lib.hid (HV3.out.ext hb4)
  have HX4 := Lib.hid (HX3.out.ext hb4)
  have HB4 := Lib.hid (Hb3.out.ext hb4)
  have E4 := Lib.hid (bt E3.out hb4)
  have HF4 := Lib.hid (HF.out.below E4.out)
  clear hb4 HV3 HX3 Hb3 E3 c10 HF
  cases hd : l.isD I
  · have H0 := Lib.hid (HN.out hd)
    clear hd HY HN
    go_wp2_with (first | refine wpList_build_zero rfl _ rfl _ Try.blockZero _ _ Try.underlying52 Try.byteSize ?_ | refine wpList_store_arr rfl _ _ _ rfl _ _ rfl rfl _ _ HB4.out (Try.blockFits HzL.out) rfl (oneCell_bcells _) ?_)
    apply Stop.go; intro we Hoe Hbe
    go_wp2_with ((with_reducible show bodyPost _ _ _ _ _ _); refine bodyPost_cell rfl _ rfl _ _ Hbe.out _ _ Try.underlying52 (Try.blockFits HzL.out) rfl ?_)
    apply Stop.go
    rw [H0.out]
    exact ⟨rfl, bonly E4.out Hoe.out (by have := z3.out; omega)⟩
  · have H0 := Lib.hid (HY.out hd)
    have c10 : w4.cell? ⟨g1, 10, none⟩ = some (.int .i64 I) := by rw [← HI.out]; exact HX4.out.fld 10 (by rw [HXL.out]; omega)
    clear hd HY HN
    go_wp2_with (refine wpList_load_blk rfl _ _ rfl _ rfl _ _ HV4.out _ Try.underlying34 rfl Try.viewSize ?_)
    refine (HBk.out _ HF4.out).mono ?_; rintro e w5 ⟨rfl, hb5⟩
    have HB5 := Lib.hid (HB4.out.ext hb5)
    have E5 := Lib.hid (bt E4.out hb5)
    clear hb5 HV4 HX4 HB4 E4 c10 HF4
    generalize vBk l T I = b at *
    go_wp2_with (refine wpList_store_arr rfl _ _ _ rfl _ _ rfl rfl _ _ HB5.out (Try.blockFits HBL.out) (by rw [bcells_size, bcells_size, HBL.out, HzL.out]) (oneCell_bcells _) ?_)
    apply Stop.go; intro we Hoe Hbe
    go_wp2_with ((with_reducible show bodyPost _ _ _ _ _ _); refine bodyPost_cell rfl _ rfl _ _ Hbe.out _ _ Try.underlying52 (Try.blockFits HBL.out) rfl ?_)
    apply Stop.go
    rw [H0.out]
    exact ⟨rfl, bonly E5.out Hoe.out (by have := z3.out; omega)⟩


set_option maxHeartbeats 3200000 in
theorem fat_any (l : Lay14) (f : Value) (T : Int → List UInt8) (hT : ∀ no, (T no).length = 256) (X : List Int) (hX : X.length = 11) (k : Int) (hk : -9223372036854775808 ≤ k ∧ k < 9223372036854775808) (w : World) (hf : FV w l f T) :
    Calls Try.prog 40 #[.agg (vval l f), .agg (icells X), .int .i64 k] w fun e w' => e = .returned (.int .i64 (atI l T X k)) ∧ Below w.heap.size w w' := by
  have HXL := Lib.hid hX
  have HF := Lib.hid hf
  obtain ⟨K, HK⟩ : ∃ K, Hid (fld X 0 = K) := ⟨_, Lib.hid rfl⟩
  obtain ⟨R, HR⟩ : ∃ R, Hid (atI l T X k = R) := ⟨_, Lib.hid rfl⟩
  have H1 := Lib.hid (fun h : K ≠ 1 => show R = 0 by rw [← HR.out]; exact atI_kind (by rw [HK.out]; exact h) k)
  have H2 := Lib.hid (fun h : k < 0 => show R = 0 by rw [← HR.out]; exact atI_off (by omega))
  have H3 := Lib.hid (fun (hK : K = 1) (q : Nat) (e : k = (q : Int)) (hq : q < 6) => show R = datF l (fld X (4 + q)) by
    rw [← HR.out, e]
    exact atI_low (by rw [HK.out]; exact hK) hq)
  have H4 := Lib.hid (fun (hK : K = 1) (h6 : 6 ≤ k) => show R = datF l (getQ (ptrF l T X) (k - 6)) by
    rw [← HR.out]
    exact atI_ptr (by rw [HK.out]; exact hK) h6)
  have HPt := Lib.hid (fun w h => fptr_any l f T hT X hX w h)
  have HPL := Lib.hid (ptrF_len (l := l) (X := X) hT)
  have HDt := Lib.hid (fun no (w : World) => fdata_any l f no w)
  rw [HR.out]
  clear hX hT hf HR
  go_enter Try.func40, Try.ntmps40
  go_wp2_with (refine wpList_box_row rfl _ _ rfl _ rfl ?_)
  apply Stop.go; intro w1 Hg1 Hb1
  go_wp2_with (refine wpList_box_row rfl _ _ rfl _ rfl ?_)
  apply Stop.go; intro w2 Hg2 Hb2
  have HV2 := Lib.hid (Hb1.out.ext Hg2.out.1)
  have E2 := Lib.hid (bt Hg1.out.1 Hg2.out.1)
  have HF2 := Lib.hid (HF.out.below E2.out)
  generalize w1.heap.size = g1 at *
  clear Hg1 Hb1 Hg2 HF
  have c0 : w2.cell? ⟨g1, 0, none⟩ = some (.int .i64 K) := by rw [← HK.out]; exact Hb2.out.fld 0 (by rw [HXL.out]; omega)
  by_cases hK : K = 1
  rotate_left
  · have q1 : (K != 1) = true := by simpa using hK
    obtain rfl := H1.out hK
    clear hK H1 H2 H3 H4 hk
    go_wp2_with fail
    go_ret
    exact ⟨rfl, E2.out⟩
  · have q1 : (K != 1) = false := by simpa using hK
    have H3 := Lib.hid (H3.out hK)
    have H4 := Lib.hid (H4.out hK)
    clear hK H1
    by_cases h0 : k < 0
    · have q2 : decide (k < 0) = true := decide_eq_true h0
      obtain rfl := H2.out h0
      clear h0 H2 H3 H4 hk
      go_wp2_with fail
      go_ret
      exact ⟨rfl, E2.out⟩
    · have q2 : decide (k < 0) = false := decide_eq_false h0
      obtain ⟨q, hq⟩ := Int.eq_ofNat_of_zero_le (show 0 ≤ k by omega)
      by_cases h6 : k < 6
      · have q4 : decide (k < 6) = true := decide_eq_true h6
        have p0 : 0 ≤ k := by omega
        have HRq := Lib.hid (H3.out q hq (by omega))
        subst hq
        have Hcx := Lib.hid (fun w' (h : Blk w' g1 42 (icells X)) => show w'.cell? ⟨g1, 4 + q, none⟩ = some (.int .i64 (fld X (4 + q))) from h.fld (4 + q) (by rw [HXL.out]; omega))
        generalize fld X (4 + q) = x at *
        clear h0 H2 H3 H4 hk
        go_wp2_with fail
        refine WH.start (S := fun w' : World => Blk w' w.heap.size 34 (vval l f) ∧ FV w' l f T ∧ Blk w' g1 42 (icells X)) [false, false, false, false, false, false, false] 7 rfl rfl (by kernel_rfl) ⟨HV2.out.ext (bdrew w2 1), HF2.out.below (bdrew w2 1), Hb2.out.ext (bdrew w2 1)⟩ (fun hSn => ?_); obtain ⟨wS, hwS⟩ : ∃ x, (w2).drew = x := ⟨_, rfl⟩; have HE := Lib.hid (show Below (w2).heap.size (w2) wS from hwS ▸ bdrew w2 1); rw [hwS] at hSn ⊢; clear hwS
        refine WH.tv 0 rfl (fun w' hSw => exec_load_blk _ _ rfl _ rfl _ _ (hSw.1) _ (Try.underlying34) rfl (Try.viewSize)) ?_; simp only [setL]
        refine WH.tk 1 ?_; simp only [setL]
        refine WH.tk 2 ?_; simp only [setL]
        refine WH.tk 3 ?_; simp only [setL]
        refine WH.tv 4 rfl (fun w' hSw => exec_load_cell _ _ rfl ⟨g1, 4 + q, none⟩ rfl (.int .i64 x) (Hcx.out _ hSw.2.2) _ Try.underlying3 rfl) ?_; simp only [setL]
        refine WH.only 5 _ rfl (by kernel_rfl) rfl (fun K hK => ?_)
        go_simp; refine (HDt.out x _).mono ?_; rintro e wa ⟨rfl, hba⟩; go_simp
        have HE := Lib.hid (bt HE.out hba)
        have hSn := And.intro (hSn.1.ext hba) (And.intro (hSn.2.1.below hba) (hSn.2.2.ext hba)); refine hK _ _ hSn ?_; clear hK; clear K; simp only [setL]
        refine WH.tk 6 ?_; simp only [setL]
        refine WH.done (by kernel_rfl) ?_
        go_wp2_with fail
        go_ret
        rw [HRq.out]
        exact ⟨rfl, bt E2.out HE.out⟩
      · have q4 : decide (k < 6) = false := decide_eq_false h6
        have HRq := Lib.hid (H4.out (by omega))
        have hqw : IntKind.i64.wrap (k - 6) = k - 6 := IntWalk.i64_in _ (by omega)
        have HG := Lib.hid (fun w => qget_any (ptrF l T X) HPL.out (k - 6) w)
        generalize ptrF l T X = b at *
        generalize getQ b (k - 6) = x at *
        clear h0 h6 H2 H3 H4 hq hk
        go_wp2_with fail
        refine WH.start (S := fun w' : World => Blk w' w.heap.size 34 (vval l f) ∧ FV w' l f T ∧ Blk w' g1 42 (icells X)) [false, false, false, false, false, false, false, false, false] 9 rfl rfl (by kernel_rfl) ⟨HV2.out.ext (bdrew w2 1), HF2.out.below (bdrew w2 1), Hb2.out.ext (bdrew w2 1)⟩ (fun hSn => ?_); obtain ⟨wS, hwS⟩ : ∃ x, (w2).drew = x := ⟨_, rfl⟩; have HE := Lib.hid (show Below (w2).heap.size (w2) wS from hwS ▸ bdrew w2 1); rw [hwS] at hSn ⊢; clear hwS
        refine WH.tv 0 rfl (fun w' hSw => exec_load_blk _ _ rfl _ rfl _ _ (hSw.1) _ (Try.underlying34) rfl (Try.viewSize)) ?_; simp only [setL]
        refine WH.tv 1 rfl (fun w' hSw => exec_load_blk _ _ rfl _ rfl _ _ (hSw.1) _ (Try.underlying34) rfl (Try.viewSize)) ?_; simp only [setL]
        refine WH.tv 2 rfl (fun w' hSw => exec_load_blk _ _ rfl _ rfl _ _ (hSw.2.2) _ (Try.underlying42) rfl ((Try.inoFits HXL.out))) ?_; simp only [setL]
        refine WH.tk 4 ?_; simp only [setL]
        refine WH.tk 5 ?_; simp only [setL]
        refine WH.only 3 _ rfl (by kernel_rfl) rfl (fun K hK => ?_)
        go_simp; refine (HPt.out _ hSn.2.1).mono ?_; rintro e wa ⟨rfl, hba⟩; go_simp
        have HE := Lib.hid (bt HE.out hba)
        have hSn := And.intro (hSn.1.ext hba) (And.intro (hSn.2.1.below hba) (hSn.2.2.ext hba)); refine hK _ _ hSn ?_; clear hK; clear K; simp only [setL]
        refine WH.only 6 _ rfl (by kernel_rfl) rfl (fun K hK => ?_)
        go_simp; refine (HG.out _).mono ?_; rintro e wb ⟨rfl, hbb⟩; go_simp
        have HE := Lib.hid (bt HE.out hbb)
        have hSn := And.intro (hSn.1.ext hbb) (And.intro (hSn.2.1.below hbb) (hSn.2.2.ext hbb)); refine hK _ _ hSn ?_; clear hK; clear K; simp only [setL]
        refine WH.only 7 _ rfl (by kernel_rfl) rfl (fun K hK => ?_)
        go_simp; refine (HDt.out x _).mono ?_; rintro e wc ⟨rfl, hbc⟩; go_simp
        have HE := Lib.hid (bt HE.out hbc)
        have hSn := And.intro (hSn.1.ext hbc) (And.intro (hSn.2.1.below hbc) (hSn.2.2.ext hbc)); refine hK _ _ hSn ?_; clear hK; clear K; simp only [setL]
        refine WH.tk 8 ?_; simp only [setL]
        refine WH.done (by kernel_rfl) ?_
        go_wp2_with fail
        go_ret
        rw [HRq.out]
        exact ⟨rfl, bt E2.out HE.out⟩

end Go.Proofs.Ytfhghcodhacneaa
