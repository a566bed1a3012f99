/-
  Contracts of package fread: All.
-/
import Derived.Test.YtfhghcodhacneaaFrd2
import Derived.Test.YtfhghcodhacneaaGrC
namespace Go.Proofs.Ytfhghcodhacneaa
open Go.RowKit
set_option maxRecDepth 10000

theorem readR_all (l : Lay14) (T : Int → List UInt8) (X : List Int) {S : Nat} (h : sizeR X = S) : readR l T X 0 (S : Int) = segR l T X 0 S := by
  unfold readR
  rw [if_neg (by omega), h]
  congr 1
  omega
set_option maxHeartbeats 1600000 in
theorem fallR_any (l : Lay14) (f : Value) (T : Int → List UInt8) (hT : ∀ no, (T no).length = 256) (X : List Int) (hX : X.length = 11) (w : World) (hf : FV w l f T) :
    Calls Try.prog 12 #[.agg (vval l f), .agg (icells X)] w (RetB w (segR l T X 0 (sizeR X))) := by
  have HXL := Lib.hid hX
  have HF := Lib.hid hf
  obtain ⟨S, HS⟩ : ∃ S, Hid (sizeR X = S) := ⟨_, Lib.hid rfl⟩
  have hS : S ≤ 34304 := by rw [← HS.out]; exact sizeR_le X
  have HSz := Lib.hid (fun w => fsize_any X hX w)
  rw [HS.out] at HSz ⊢
  have HRd := Lib.hid (fun w h => fread_any l f T hT X hX 0 (S : Int) (by omega) (by omega) w h)
  rw [readR_all l T X HS.out] at HRd
  clear hX hT hf HS hS
  go_enter Try.func12, Try.ntmps12
  go_wp2_with (refine wpList_box_row rfl _ _ rfl _ rfl ?_)
  apply Stop.go; intro w1 Hg1 Hb1
  go_wp2_with (refine wpList_box_row rfl _ _ rfl _ rfl ?_)
  apply Stop.go; intro w2 Hg2 Hb2
  have HV2 := Lib.hid (Hb1.out.ext Hg2.out.1)
  have E2 := Lib.hid (bt Hg1.out.1 Hg2.out.1)
  have HF2 := Lib.hid (HF.out.below E2.out)
  generalize w1.heap.size = g1 at *
  clear Hg1 Hb1 Hg2 HF
  go_wp2_with fail
  refine WH.start (S := fun w' : World => Blk w' w.heap.size 34 (vval l f) ∧ FV w' l f T ∧ Blk w' g1 42 (icells X)) [false, false, false, false, false, false] 6 rfl rfl (by kernel_rfl) ⟨HV2.out.ext (bdrew w2 1), HF2.out.below (bdrew w2 1), Hb2.out.ext (bdrew w2 1)⟩ (fun hSn => ?_); obtain ⟨wS, hwS⟩ : ∃ x, (w2).drew = x := ⟨_, rfl⟩; have HE := Lib.hid (show Below (w2).heap.size (w2) wS from hwS ▸ bdrew w2 1); rw [hwS] at hSn ⊢; clear hwS
  refine WH.tv 0 rfl (fun w' hSw => exec_load_blk _ _ rfl _ rfl _ _ (hSw.1) _ (Try.underlying34) rfl (Try.viewSize)) ?_; simp only [setL]
  refine WH.tv 1 rfl (fun w' hSw => exec_load_blk _ _ rfl _ rfl _ _ (hSw.2.2) _ (Try.underlying42) rfl ((Try.inoFits HXL.out))) ?_; simp only [setL]
  refine WH.tv 2 rfl (fun w' hSw => exec_load_blk _ _ rfl _ rfl _ _ (hSw.2.2) _ (Try.underlying42) rfl ((Try.inoFits HXL.out))) ?_; simp only [setL]
  refine WH.only 3 _ rfl (by kernel_rfl) rfl (fun K hK => ?_)
  go_simp; refine (HSz.out _).mono ?_; rintro e wa ⟨rfl, hba⟩; go_simp
  have HE := Lib.hid (bt HE.out hba)
  have hSn := And.intro (hSn.1.ext hba) (And.intro (hSn.2.1.below hba) (hSn.2.2.ext hba)); refine hK _ _ hSn ?_; clear hK; clear K; simp only [setL]
  refine WH.only 4 _ rfl (by kernel_rfl) rfl (fun K hK => ?_)
  go_simp; refine (HRd.out _ hSn.2.1).mono ?_; rintro e wb ⟨A, n, c, rfl, h1, h2, h3, h4, hbb⟩; go_simp
  have HE := Lib.hid (bt HE.out hbb)
  have hSn := And.intro (hSn.1.ext hbb) (And.intro (hSn.2.1.below hbb) (hSn.2.2.ext hbb)); refine hK _ _ hSn ?_; clear hK; clear K; simp only [setL]
  refine WH.tk 5 ?_; simp only [setL]
  refine WH.done (by kernel_rfl) ?_
  go_wp2_with fail
  go_ret
  exact ⟨_, _, _, rfl, h1, h2, h3, h4, bt E2.out HE.out⟩

end Go.Proofs.Ytfhghcodhacneaa
