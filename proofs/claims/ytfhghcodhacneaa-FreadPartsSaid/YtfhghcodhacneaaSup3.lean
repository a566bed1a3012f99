/-
  The contract of super's Get.
-/
import Derived.Test.YtfhghcodhacneaaSup2
import Derived.Deep.CutRange
namespace Go.Proofs.Ytfhghcodhacneaa
open Go.RowKit
set_option maxRecDepth 10000

/-- The layout that Get tells. -/
def got14 (b : List UInt8) : Lay14 := (get14 b).getD zero14
/-- OK, or ErrSuper. -/
def okSup (b : Bool) : Int := if b then 0 else 13

set_option maxHeartbeats 1600000 in
theorem get14c_any (L : List UInt8) (hL : L.length = 256) (w : World) :
    Calls Try.prog 17 #[.agg (bcells L)] w fun e w' => e = .returned (.tuple #[.agg (got14 L).val, .int .i64 (okSup (get14 L).isSome)]) ∧ Below w.heap.size w w' := by
  have HL := Lib.hid hL
  obtain ⟨g8, g10, g12⟩ := getN_seen L hL
  have HM := Lib.hid (seen_merge L)
  obtain ⟨S, HS⟩ : ∃ S, Hid (seen14 L = S) := ⟨_, Lib.hid rfl⟩
  have hv : #[Value.int .i64 ((leVal ((L.drop 8).take 2) : Nat) : Int), .int .i64 ((leVal ((L.drop 10).take 2) : Nat) : Int), .int .u64 ((leVal ((L.drop 12).take 8) : Nat) : Int)] = S.val := by rw [← HS.out]; rfl
  rw [← g8, ← g10, ← g12] at hv
  obtain ⟨n8, HG8⟩ : ∃ n, Hid (getN L 8 2 4 = n) := ⟨_, Lib.hid rfl⟩
  obtain ⟨n10, HG10⟩ : ∃ n, Hid (getN L 10 2 4 = n) := ⟨_, Lib.hid rfl⟩
  obtain ⟨n12, HG12⟩ : ∃ n, Hid (getN L 12 8 8 = n) := ⟨_, Lib.hid rfl⟩
  rw [HG8.out, HG10.out, HG12.out] at hv
  have HSv := Lib.hid hv
  rw [HS.out] at HM
  clear g8 g10 g12 hL hv
  go_enter Try.func17, Try.ntmps17
  go_wp2_with (refine wpList_box_row rfl _ _ rfl _ rfl ?_)
  apply Stop.go; intro w1 Hg1 Hb1
  go_wp2_with (refine wpList_alloc_row rfl _ rfl _ Try.layZero ?_)
  apply Stop.go; intro w2 Hg2 Hb2
  have z1 := Lib.hid Hg1.out.2
  have z2 := Lib.hid Hg2.out.2
  have Hl2 := Lib.hid (Hb1.out.below Hg2.out.1 (by rw [z1.out]; omega))
  have Hbel2 := Lib.hid (bt Hg1.out.1 Hg2.out.1)
  go_wp2_with (refine wpList_slice_arr_all rfl _ _ rfl _ _ Try.underlying52 Try.byteSize _ rfl (by omega) ?_)
  refine (nget_any _ _ _ L HL.out (by omega) (by unfold maxLen; omega) _ _ _ (RB.of_blk0 Hl2.out)).mono ?_; rintro e wx ⟨rfl, rfl⟩
  rw [HG12.out]
  go_upto_region 2 with fail
  go_cut [6] from 14 to 19 (fun v wx => ∃ G, v = .pointer (some ⟨G, 0, none⟩) ∧ Blk wx G 31 S.val ∧ w2.heap.size ≤ G ∧ Below w2.heap.size w2 wx)
  case first =>
    refine WH.start (S := fun w' : World => Blk w' w.heap.size 52 (bcells L)) [false, false, false, false, false, false, false, false] 8 rfl rfl (by kernel_rfl) (Hl2.out.ext (bdrew w2 1)) (fun hSn => ?_); obtain ⟨wS, hwS⟩ : ∃ x, (w2).drew = x := ⟨_, rfl⟩; have HE := Lib.hid (show Below (w2).heap.size (w2) wS from hwS ▸ bdrew w2 1); rw [hwS] at hSn ⊢; clear hwS
    refine WH.tv 0 rfl (fun w' hSw => run_load_arr _ _ rfl _ rfl _ _ (hSw) _ _ (Try.underlying52) (Try.blockFits HL.out)) ?_; simp only [setL]
    refine WH.tv 2 rfl (fun w' hSw => run_load_arr _ _ rfl _ rfl _ _ (hSw) _ _ (Try.underlying52) (Try.blockFits HL.out)) ?_; simp only [setL]
    refine WH.tk 4 ?_; simp only [setL]
    refine WH.two 1 6 _ _ rfl rfl (by kernel_rfl) rfl rfl (fun K hK => ?_) (fun K hK => ?_)
    focus (
      go_simp; refine (nat_any L HL.out _ _ _).mono ?_; rintro e wa ⟨rfl, hba⟩; go_simp
      rw [HG8.out]
      have HE := Lib.hid (bt HE.out hba)
      have hSn := hSn.ext hba; refine hK _ _ hSn ?_; clear hK; clear K; simp only [setL]
      refine WH.two 3 6 _ _ rfl rfl (by kernel_rfl) rfl rfl (fun K hK => ?_) (fun K hK => ?_)
      focus (
        go_simp; refine (nat_any L HL.out _ _ _).mono ?_; rintro e wb ⟨rfl, hbb⟩; go_simp
        rw [HG10.out]
        have HE := Lib.hid (bt HE.out hbb)
        have hSn := hSn.ext hbb; refine hK _ _ hSn ?_; clear hK; clear K; simp only [setL]
        refine WH.tk 5 ?_; simp only [setL]
        refine WH.only 6 _ rfl (by kernel_rfl) rfl (fun K hK => ?_)
        have HZ := Lib.hid HE.out.size; refine ow_alloc _ rfl _ Try.layZero ?_; apply Stop.go; intro wc HgN HA; have HE := Lib.hid (bt HE.out HgN.out.1); have hSn := hSn.ext HgN.out.1; refine hK _ _ hSn ?_; clear hK; clear K; simp only [setL]; clear HgN
        refine WH.only 7 _ rfl (by kernel_rfl) rfl (fun K hK => ?_)
        refine ow_store _ _ _ rfl _ S.val rfl (congrArg Value.agg HSv.out) _ _ HA.out Try.laySize rfl (val_one _) ?_; apply Stop.go; intro w9 Ho9 HxG; have HE := Lib.hid (bonly HE.out Ho9.out HZ.out); have hSn := hSn.only Ho9.out (by have := HZ.out; have := z1.out; have := z2.out; omega); refine hK _ _ hSn ?_; clear hK; clear K; simp only [setL]; refine WH.done (by kernel_rfl) ?_; go_wp2_with fail; go_meet; exact ⟨_, rfl, HxG.out, HZ.out, HE.out⟩)
      focus (
        have HZ := Lib.hid HE.out.size; refine ow_alloc _ rfl _ Try.layZero ?_; apply Stop.go; intro wb HgN HA; have HE := Lib.hid (bt HE.out HgN.out.1); have hSn := hSn.ext HgN.out.1; refine hK _ _ hSn ?_; clear hK; clear K; simp only [setL]; clear HgN
        refine WH.only 3 _ rfl (by kernel_rfl) rfl (fun K hK => ?_); go_simp; refine (nat_any L HL.out _ _ _).mono ?_; rintro e wc ⟨rfl, hbb⟩; go_simp
        rw [HG10.out]
        have HE := Lib.hid (bt HE.out hbb)
        have HA := Lib.hid (HA.out.ext hbb)
        have hSn := hSn.ext hbb; refine hK _ _ hSn ?_; clear hK; clear K; simp only [setL]
        refine WH.tk 5 ?_; simp only [setL]
        refine WH.only 7 _ rfl (by kernel_rfl) rfl (fun K hK => ?_)
        refine ow_store _ _ _ rfl _ S.val rfl (congrArg Value.agg HSv.out) _ _ HA.out Try.laySize rfl (val_one _) ?_; apply Stop.go; intro w9 Ho9 HxG; have HE := Lib.hid (bonly HE.out Ho9.out HZ.out); have hSn := hSn.only Ho9.out (by have := HZ.out; have := z1.out; have := z2.out; omega); refine hK _ _ hSn ?_; clear hK; clear K; simp only [setL]; refine WH.done (by kernel_rfl) ?_; go_wp2_with fail; go_meet; exact ⟨_, rfl, HxG.out, HZ.out, HE.out⟩))
    focus (
      have HZ := Lib.hid HE.out.size; refine ow_alloc _ rfl _ Try.layZero ?_; apply Stop.go; intro wa HgN HA; have HE := Lib.hid (bt HE.out HgN.out.1); have hSn := hSn.ext HgN.out.1; refine hK _ _ hSn ?_; clear hK; clear K; simp only [setL]; clear HgN
      refine WH.only 1 _ rfl (by kernel_rfl) rfl (fun K hK => ?_); go_simp; refine (nat_any L HL.out _ _ _).mono ?_; rintro e wb ⟨rfl, hba⟩; go_simp
      rw [HG8.out]
      have HE := Lib.hid (bt HE.out hba)
      have HA := Lib.hid (HA.out.ext hba)
      have hSn := hSn.ext hba; refine hK _ _ hSn ?_; clear hK; clear K; simp only [setL]
      refine WH.only 3 _ rfl (by kernel_rfl) rfl (fun K hK => ?_); go_simp; refine (nat_any L HL.out _ _ _).mono ?_; rintro e wc ⟨rfl, hbb⟩; go_simp
      rw [HG10.out]
      have HE := Lib.hid (bt HE.out hbb)
      have HA := Lib.hid (HA.out.ext hbb)
      have hSn := hSn.ext hbb; refine hK _ _ hSn ?_; clear hK; clear K; simp only [setL]
      refine WH.tk 5 ?_; simp only [setL]
      refine WH.only 7 _ rfl (by kernel_rfl) rfl (fun K hK => ?_)
      refine ow_store _ _ _ rfl _ S.val rfl (congrArg Value.agg HSv.out) _ _ HA.out Try.laySize rfl (val_one _) ?_; apply Stop.go; intro w9 Ho9 HxG; have HE := Lib.hid (bonly HE.out Ho9.out HZ.out); have hSn := hSn.only Ho9.out (by have := HZ.out; have := z1.out; have := z2.out; omega); refine hK _ _ hSn ?_; clear hK; clear K; simp only [setL]; refine WH.done (by kernel_rfl) ?_; go_wp2_with fail; go_meet; exact ⟨_, rfl, HxG.out, HZ.out, HE.out⟩)
  case rest =>
  obtain ⟨G, rfl, hx, hge, hd⟩ := hcut
  have HE := Lib.hid hd
  have HX := Lib.hid hx
  have HGe := Lib.hid hge
  generalize wc = w3 at *
  have HB3 := Lib.hid (Hl2.out.ext HE.out)
  have HZ3 := Lib.hid (Hb2.out.ext HE.out)
  have Hbel3 := Lib.hid (bt Hbel2.out HE.out)
  have HZs := Lib.hid HE.out.size
  clear hx hge hd HE Hl2 Hbel2 HSv HG8 HG10 HG12 Hb1 Hg1 Hb2 Hg2
  go_wp2_with (refine wpList_load_blk rfl _ _ rfl _ rfl _ _ HX.out _ Try.underlying31 rfl Try.laySize ?_)
  refine (put14_any S HM.out _).mono ?_; rintro e w4 ⟨rfl, hb4⟩
  have HE4 := Lib.hid hb4
  have HX4 := Lib.hid (HX.out.ext hb4)
  have HB4 := Lib.hid (HB3.out.ext hb4)
  have HZ4 := Lib.hid (HZ3.out.ext hb4)
  have Hbel4 := Lib.hid (bt Hbel3.out hb4)
  clear hb4 HX HB3 HZ3 Hbel3
  have HPL := Lib.hid S.blk_len
  go_wp2_with (refine wpList_alloc_row rfl _ rfl _ Try.blockZero ?_)
  apply Stop.go; intro w5 Hg5 Hb5
  go_wp2_with (refine wpList_store_arr rfl _ _ _ rfl _ _ rfl rfl _ _ Hb5.out (Try.blockFits HPL.out) (by rw [bcells_size, bcells_size, HPL.out, zeros_len]) (oneCell_bcells _) ?_)
  apply Stop.go; intro w6 Ho6 Hb6
  have HB6 := Lib.hid ((HB4.out.ext Hg5.out.1).only Ho6.out (Nat.ne_of_lt HB4.out.lt))
  have HX6 := Lib.hid ((HX4.out.ext Hg5.out.1).only Ho6.out (Nat.ne_of_lt HX4.out.lt))
  have HZ6 := Lib.hid ((HZ4.out.ext Hg5.out.1).only Ho6.out (Nat.ne_of_lt HZ4.out.lt))
  have Hbel6 := Lib.hid (bonly (bt Hbel4.out Hg5.out.1) Ho6.out Hbel4.out.size)
  generalize w4.heap.size = g7 at *
  clear Ho6 Hg5 Hb5 HX4 HB4 HZ4 Hbel4 HE4
  have HZlt := Lib.hid (show w.heap.size ≤ w1.heap.size by rw [z1.out]; omega)
  obtain ⟨b, Hm⟩ : ∃ b, Hid (S.may = b) := ⟨_, Lib.hid rfl⟩
  rw [Hm.out]
  have HGet := Lib.hid (show get14 L = if S.may = true ∧ S.put = L then some S else none by unfold get14; rw [HS.out])
  cases b
  · have HG0 : Hid (get14 L = none) := Lib.hid (by rw [HGet.out, Hm.out, if_neg (by simp)])
    rw [show okArg false = 1 from rfl]
    have Hr : Hid ((!(L == L)) = false) := Lib.hid (by simp)
    go_wp2_with (first | refine wpList_load_blk rfl _ _ rfl _ rfl _ _ HX6.out _ Try.underlying31 rfl Try.laySize ?_ | refine wpList_load_arr rfl _ _ rfl _ rfl _ _ Hb6.out _ _ Try.underlying52 (Try.blockFits HPL.out) ?_ | refine wpList_load_arr rfl _ _ rfl _ rfl _ _ HB6.out _ _ Try.underlying52 (Try.blockFits HL.out) ?_ | refine wpList_neq_arr rfl _ _ _ _ rfl (by kernel_rfl) _ _ Try.underlying52 Try.underlying5 Try.byteSize _ _ rfl rfl HPL.out HL.out _ Hr.out ?_ | refine wpList_store_arr rfl _ _ _ rfl _ (zero14).val rfl rfl _ _ HZ6.out Try.laySize rfl (val_one _) ?_); apply Stop.go; intro w7 Ho7 Hb7; go_wp2_with ((with_reducible show bodyPost _ _ _ _ _ _); refine bodyPost_struct_tmp rfl _ rfl _ _ Hb7.out _ Try.underlying31 rfl Try.laySize rfl _ rfl ?_); apply Stop.go
    rw [got14, HG0.out]
    exact ⟨⟨rfl, rfl⟩, bonly Hbel6.out Ho7.out HZlt.out⟩
  · rw [show okArg true = 0 from rfl]
    have HP : Hid (S.blk = S.put) := Lib.hid (by unfold Lay14.blk; rw [Hm.out]; rfl)
    rw [HP.out] at Hb6 HPL ⊢
    obtain ⟨r, Hr⟩ : ∃ r, Hid ((!(S.put == L)) = r) := ⟨_, Lib.hid rfl⟩
    cases r
    · have HG1 : Hid (get14 L = some S) := Lib.hid (by rw [HGet.out, Hm.out, if_pos ⟨rfl, by simpa using Hr.out⟩])
      go_wp2_with (first | refine wpList_load_blk rfl _ _ rfl _ rfl _ _ HX6.out _ Try.underlying31 rfl Try.laySize ?_ | refine wpList_load_arr rfl _ _ rfl _ rfl _ _ Hb6.out _ _ Try.underlying52 (Try.blockFits HPL.out) ?_ | refine wpList_load_arr rfl _ _ rfl _ rfl _ _ HB6.out _ _ Try.underlying52 (Try.blockFits HL.out) ?_ | refine wpList_neq_arr rfl _ _ _ _ rfl (by kernel_rfl) _ _ Try.underlying52 Try.underlying5 Try.byteSize _ _ rfl rfl HPL.out HL.out _ Hr.out ?_ | refine wpList_store_arr rfl _ _ _ rfl _ (S).val rfl rfl _ _ HZ6.out Try.laySize rfl (val_one _) ?_); apply Stop.go; intro w7 Ho7 Hb7; go_wp2_with ((with_reducible show bodyPost _ _ _ _ _ _); refine bodyPost_struct_tmp rfl _ rfl _ _ Hb7.out _ Try.underlying31 rfl Try.laySize rfl _ rfl ?_); apply Stop.go
      rw [got14, HG1.out]
      exact ⟨⟨rfl, rfl⟩, bonly Hbel6.out Ho7.out HZlt.out⟩
    · have HG0 : Hid (get14 L = none) := Lib.hid (by rw [HGet.out, Hm.out, if_neg (by simpa using Hr.out)])
      go_wp2_with (first | refine wpList_load_blk rfl _ _ rfl _ rfl _ _ HX6.out _ Try.underlying31 rfl Try.laySize ?_ | refine wpList_load_arr rfl _ _ rfl _ rfl _ _ Hb6.out _ _ Try.underlying52 (Try.blockFits HPL.out) ?_ | refine wpList_load_arr rfl _ _ rfl _ rfl _ _ HB6.out _ _ Try.underlying52 (Try.blockFits HL.out) ?_ | refine wpList_neq_arr rfl _ _ _ _ rfl (by kernel_rfl) _ _ Try.underlying52 Try.underlying5 Try.byteSize _ _ rfl rfl HPL.out HL.out _ Hr.out ?_ | refine wpList_store_arr rfl _ _ _ rfl _ (zero14).val rfl rfl _ _ HZ6.out Try.laySize rfl (val_one _) ?_); apply Stop.go; intro w7 Ho7 Hb7; go_wp2_with ((with_reducible show bodyPost _ _ _ _ _ _); refine bodyPost_struct_tmp rfl _ rfl _ _ Hb7.out _ Try.underlying31 rfl Try.laySize rfl _ rfl ?_); apply Stop.go
      rw [got14, HG0.out]
      exact ⟨⟨rfl, rfl⟩, bonly Hbel6.out Ho7.out HZlt.out⟩

end Go.Proofs.Ytfhghcodhacneaa
