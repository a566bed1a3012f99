/-
  The contracts of inode's Get and Clean.
-/
import Derived.Test.YtfhghcodhacneaaIno2
import Derived.Deep.CutRange
namespace Go.Proofs.Ytfhghcodhacneaa
open Go.RowKit
set_option maxRecDepth 10000

set_option maxHeartbeats 3200000 in
theorem getI_any (b : List UInt8) (hb : b.length = 32) (w : World) :
    Calls Try.prog 48 #[.agg (bcells b)] w fun e w' => e = .returned (.agg (icells (getI b))) ∧ Below w.heap.size w w' := by
  have HbL := Lib.hid hb
  have Hz2 : Hid ((zeros 256).length = 256) := Lib.hid (zeros_len _)
  obtain ⟨L, HLd⟩ : ∃ L, Hid (b ++ zeros 224 = L) := ⟨_, Lib.hid rfl⟩
  have HLl := Lib.hid (show L.length = 256 by rw [← HLd.out, List.length_append, hb, zeros_len])
  have HLo := Lib.hid (show layL (zeros 256) 0 b = L by rw [← HLd.out, ofL_32 b hb])
  have HN := Lib.hid (show ∀ o W : Nat, 1 ≤ W → W ≤ 4 → o + W ≤ 32 → getN L (o : Nat) (W : Nat) 4 = leV b o W from fun o W h1 h4 h => by rw [← HLd.out]; exact getN_pad b _ hb o W h1 h4 h)
  have g0 : getN L 0 1 4 = leV b 0 1 := HN.out 0 1 (by omega) (by omega) (by omega)
  have g1 : getN L 2 2 4 = leV b 2 2 := HN.out 2 2 (by omega) (by omega) (by omega)
  have g2 : getN L 4 4 4 = leV b 4 4 := HN.out 4 4 (by omega) (by omega) (by omega)
  have g3 : getN L 8 2 4 = leV b 8 2 := HN.out 8 2 (by omega) (by omega) (by omega)
  have g4 : getN L 22 2 4 = leV b 22 2 := HN.out 22 2 (by omega) (by omega) (by omega)
  have G0 := Lib.hid g0
  have G1 := Lib.hid g1
  have G2 := Lib.hid g2
  have G3 := Lib.hid g3
  have G4 := Lib.hid g4
  clear g0 g1 g2 g3 g4
  obtain ⟨z, HZd⟩ : ∃ z : Int, Hid (((leV b 22 2 : Nat) : Int) = z) := ⟨_, Lib.hid rfl⟩
  have HV := Lib.hid (show #[Value.int .i64 ((leV b 0 1 : Nat) : Int), .int .i64 ((leV b 2 2 : Nat) : Int), .int .i64 ((leV b 4 4 : Nat) : Int), .int .i64 ((leV b 8 2 : Nat) : Int), .int .i64 0, .int .i64 0, .int .i64 0, .int .i64 0, .int .i64 0, .int .i64 0, .int .i64 ((leV b 22 2 : Nat) : Int)] = icells (gotK b 0 z) by rw [← HZd.out]; rfl)
  have HF := Lib.hid (show gotK b 6 z = getI b by rw [← HZd.out]; rfl)
  go_enter Try.func48, Try.ntmps48
  go_wp2_with (refine wpList_box_row rfl _ _ rfl _ rfl ?_)
  apply Stop.go; intro w1 Hg1 Hb1
  go_wp2_with (refine wpList_alloc_row rfl _ rfl _ Try.inoZero ?_)
  apply Stop.go; intro w2 Hg2 Hb2
  have z1 := Lib.hid Hg1.out.2
  have z2 := Lib.hid Hg2.out.2
  have Hl2 := Lib.hid (Hb1.out.below Hg2.out.1 (by rw [z1.out]; omega))
  have E2 := Lib.hid (bt Hg1.out.1 Hg2.out.1)
  go_wp2_with (refine wpList_slice_arr_all rfl _ _ rfl _ _ Try.underlying80 Try.byteSize _ rfl (by omega) ?_)
  refine (nof_any _ _ _ b HbL.out _ (RB.of_blk0 Hl2.out)).mono ?_; rintro e w3 ⟨rfl, hb3⟩
  rw [HLo.out]
  have HR3 := Lib.hid (Hb2.out.ext hb3)
  have E3 := Lib.hid (bt E2.out hb3)
  have HOw := Lib.hid (show w.heap.size < w1.heap.size ∧ w1.heap.size < w3.heap.size by have := z1.out; have := z2.out; have := hb3.size; omega)
  clear hb3 Hl2 E2 Hb1 Hb2 Hg1 Hg2 z1 z2
  go_wp2_with (refine wpList_alloc_row rfl _ rfl _ Try.blockZero ?_)
  apply Stop.go; intro w4 Hg4 Hb4
  go_wp2_with (refine wpList_store_arr rfl _ _ _ rfl _ _ rfl rfl _ _ Hb4.out (Try.blockFits HLl.out) (by rw [bcells_size, bcells_size, HLl.out, Hz2.out]) (oneCell_bcells _) ?_)
  apply Stop.go; intro w5 Ho5 Hb5
  have HR5 := Lib.hid ((HR3.out.ext Hg4.out.1).only Ho5.out (by have := HOw.out; omega))
  have E5 := Lib.hid (bonly (bt E3.out Hg4.out.1) Ho5.out (by have := HOw.out; omega))
  generalize w1.heap.size = r2 at *
  have HO := Lib.hid (show w3.heap.size < w5.heap.size from Hb5.out.lt)
  generalize w3.heap.size = g3 at *
  clear Hg4 Hb4 Ho5 HR3 E3
  go_upto_region 2 with fail
  go_cut [4] from 8 to 20 (fun v wx => ∃ G, v = .pointer (some ⟨G, 0, none⟩) ∧ Blk wx G 42 (icells (gotK b 0 z)) ∧ w5.heap.size ≤ G ∧ Below w5.heap.size w5 wx)
  case first =>
    refine WH.start (S := fun w' : World => Blk w' g3 52 (bcells L)) [false, false, false, false, false, false, false, false, false, false, false, false, false, false] 14 rfl rfl (by kernel_rfl) (Hb5.out.ext (bdrew w5 1)) (fun hSn => ?_); obtain ⟨wS, hwS⟩ : ∃ x, (w5).drew = x := ⟨_, rfl⟩; have HE := Lib.hid (show Below (w5).heap.size (w5) wS from hwS ▸ bdrew w5 1); rw [hwS] at hSn ⊢; clear hwS
    refine WH.tv 0 rfl (fun w' hSw => run_load_arr _ _ rfl _ rfl _ _ (hSw) _ _ (Try.underlying52) (Try.blockFits HLl.out)) ?_; simp only [setL]
    refine WH.tv 2 rfl (fun w' hSw => run_load_arr _ _ rfl _ rfl _ _ (hSw) _ _ (Try.underlying52) (Try.blockFits HLl.out)) ?_; simp only [setL]
    refine WH.tv 4 rfl (fun w' hSw => run_load_arr _ _ rfl _ rfl _ _ (hSw) _ _ (Try.underlying52) (Try.blockFits HLl.out)) ?_; simp only [setL]
    refine WH.tv 6 rfl (fun w' hSw => run_load_arr _ _ rfl _ rfl _ _ (hSw) _ _ (Try.underlying52) (Try.blockFits HLl.out)) ?_; simp only [setL]
    refine WH.tv 8 rfl (fun w' hSw => run_load_arr _ _ rfl _ rfl _ _ (hSw) _ _ (Try.underlying52) (Try.blockFits HLl.out)) ?_; simp only [setL]
    refine WH.two 1 12 _ _ rfl rfl (by kernel_rfl) rfl rfl (fun K hK => ?_) (fun K hK => ?_)
    focus (
      go_simp; refine (nat_any L HLl.out _ _ _).mono ?_; rintro e v1 ⟨rfl, hba⟩; go_simp
      rw [G0.out]
      have HE := Lib.hid (bt HE.out hba)
      have hSn := hSn.ext hba; refine hK _ _ hSn ?_; clear hK; clear K; simp only [setL]
      clear hba
      refine WH.two 3 12 _ _ rfl rfl (by kernel_rfl) rfl rfl (fun K hK => ?_) (fun K hK => ?_)
      focus (
        go_simp; refine (nat_any L HLl.out _ _ _).mono ?_; rintro e v2 ⟨rfl, hba⟩; go_simp
        rw [G1.out]
        have HE := Lib.hid (bt HE.out hba)
        have hSn := hSn.ext hba; refine hK _ _ hSn ?_; clear hK; clear K; simp only [setL]
        clear hba
        refine WH.two 5 12 _ _ rfl rfl (by kernel_rfl) rfl rfl (fun K hK => ?_) (fun K hK => ?_)
        focus (
          go_simp; refine (nat_any L HLl.out _ _ _).mono ?_; rintro e v3 ⟨rfl, hba⟩; go_simp
          rw [G2.out]
          have HE := Lib.hid (bt HE.out hba)
          have hSn := hSn.ext hba; refine hK _ _ hSn ?_; clear hK; clear K; simp only [setL]
          clear hba
          refine WH.two 7 12 _ _ rfl rfl (by kernel_rfl) rfl rfl (fun K hK => ?_) (fun K hK => ?_)
          focus (
            go_simp; refine (nat_any L HLl.out _ _ _).mono ?_; rintro e v4 ⟨rfl, hba⟩; go_simp
            rw [G3.out]
            have HE := Lib.hid (bt HE.out hba)
            have hSn := hSn.ext hba; refine hK _ _ hSn ?_; clear hK; clear K; simp only [setL]
            clear hba
            refine WH.two 9 12 _ _ rfl rfl (by kernel_rfl) rfl rfl (fun K hK => ?_) (fun K hK => ?_)
            focus (
              go_simp; refine (numberAt_any 6 (by omega) _).mono ?_; rintro e v5 ⟨rfl, rfl⟩; go_simp
              have hSn := hSn; refine hK _ _ hSn ?_; clear hK; clear K; simp only [setL]
              refine WH.two 10 12 _ _ rfl rfl (by kernel_rfl) rfl rfl (fun K hK => ?_) (fun K hK => ?_)
              focus (
                go_simp; refine (nat_any L HLl.out _ _ _).mono ?_; rintro e v6 ⟨rfl, hba⟩; go_simp
                rw [G4.out]
                have HE := Lib.hid (bt HE.out hba)
                have hSn := hSn.ext hba; refine hK _ _ hSn ?_; clear hK; clear K; simp only [setL]
                clear hba
                refine WH.tk 11 ?_; simp only [setL]
                refine WH.only 12 _ rfl (by kernel_rfl) rfl (fun K hK => ?_)
                have HZ := Lib.hid HE.out.size; refine ow_alloc _ rfl _ Try.inoZero ?_; apply Stop.go; intro v7 HgN HA; have HE := Lib.hid (bt HE.out HgN.out.1); have hSn := hSn.ext HgN.out.1; refine hK _ _ hSn ?_; clear hK; clear K; simp only [setL]; clear HgN
                refine WH.only 13 _ rfl (by kernel_rfl) rfl (fun K hK => ?_)
                refine ow_store _ _ _ rfl _ (icells (gotK b 0 z)) rfl (congrArg Value.agg HV.out) _ _ HA.out Try.inoSize rfl (oneCell_icells _) ?_; apply Stop.go; intro w9 Ho9 HxG; have HE := Lib.hid (bonly HE.out Ho9.out HZ.out); have hSn := hSn.only Ho9.out (by have := HZ.out; have := HO.out; omega); refine hK _ _ hSn ?_; clear hK; clear K; simp only [setL]; refine WH.done (by kernel_rfl) ?_; go_wp2_with fail; go_meet; exact ⟨_, rfl, HxG.out, HZ.out, HE.out⟩)
              focus (
                have HZ := Lib.hid HE.out.size; refine ow_alloc _ rfl _ Try.inoZero ?_; apply Stop.go; intro v8 HgN HA; have HE := Lib.hid (bt HE.out HgN.out.1); have hSn := hSn.ext HgN.out.1; refine hK _ _ hSn ?_; clear hK; clear K; simp only [setL]; clear HgN
                refine WH.only 10 _ rfl (by kernel_rfl) rfl (fun K hK => ?_); go_simp; refine (nat_any L HLl.out _ _ _).mono ?_; rintro e v9 ⟨rfl, hba⟩; go_simp
                rw [G4.out]
                have HE := Lib.hid (bt HE.out hba)
                have HA := Lib.hid (HA.out.ext hba)
                have hSn := hSn.ext hba; refine hK _ _ hSn ?_; clear hK; clear K; simp only [setL]
                clear hba
                refine WH.tk 11 ?_; simp only [setL]
                refine WH.only 13 _ rfl (by kernel_rfl) rfl (fun K hK => ?_)
                refine ow_store _ _ _ rfl _ (icells (gotK b 0 z)) rfl (congrArg Value.agg HV.out) _ _ HA.out Try.inoSize rfl (oneCell_icells _) ?_; apply Stop.go; intro w9 Ho9 HxG; have HE := Lib.hid (bonly HE.out Ho9.out HZ.out); have hSn := hSn.only Ho9.out (by have := HZ.out; have := HO.out; omega); refine hK _ _ hSn ?_; clear hK; clear K; simp only [setL]; refine WH.done (by kernel_rfl) ?_; go_wp2_with fail; go_meet; exact ⟨_, rfl, HxG.out, HZ.out, HE.out⟩))
            focus (
              have HZ := Lib.hid HE.out.size; refine ow_alloc _ rfl _ Try.inoZero ?_; apply Stop.go; intro v10 HgN HA; have HE := Lib.hid (bt HE.out HgN.out.1); have hSn := hSn.ext HgN.out.1; refine hK _ _ hSn ?_; clear hK; clear K; simp only [setL]; clear HgN
              refine WH.only 9 _ rfl (by kernel_rfl) rfl (fun K hK => ?_); go_simp; refine (numberAt_any 6 (by omega) _).mono ?_; rintro e v11 ⟨rfl, rfl⟩; go_simp
              have hSn := hSn; refine hK _ _ hSn ?_; clear hK; clear K; simp only [setL]
              refine WH.only 10 _ rfl (by kernel_rfl) rfl (fun K hK => ?_); go_simp; refine (nat_any L HLl.out _ _ _).mono ?_; rintro e v12 ⟨rfl, hba⟩; go_simp
              rw [G4.out]
              have HE := Lib.hid (bt HE.out hba)
              have HA := Lib.hid (HA.out.ext hba)
              have hSn := hSn.ext hba; refine hK _ _ hSn ?_; clear hK; clear K; simp only [setL]
              clear hba
              refine WH.tk 11 ?_; simp only [setL]
              refine WH.only 13 _ rfl (by kernel_rfl) rfl (fun K hK => ?_)
              refine ow_store _ _ _ rfl _ (icells (gotK b 0 z)) rfl (congrArg Value.agg HV.out) _ _ HA.out Try.inoSize rfl (oneCell_icells _) ?_; apply Stop.go; intro w9 Ho9 HxG; have HE := Lib.hid (bonly HE.out Ho9.out HZ.out); have hSn := hSn.only Ho9.out (by have := HZ.out; have := HO.out; omega); refine hK _ _ hSn ?_; clear hK; clear K; simp only [setL]; refine WH.done (by kernel_rfl) ?_; go_wp2_with fail; go_meet; exact ⟨_, rfl, HxG.out, HZ.out, HE.out⟩))
          focus (
            have HZ := Lib.hid HE.out.size; refine ow_alloc _ rfl _ Try.inoZero ?_; apply Stop.go; intro v13 HgN HA; have HE := Lib.hid (bt HE.out HgN.out.1); have hSn := hSn.ext HgN.out.1; refine hK _ _ hSn ?_; clear hK; clear K; simp only [setL]; clear HgN
            refine WH.only 7 _ rfl (by kernel_rfl) rfl (fun K hK => ?_); go_simp; refine (nat_any L HLl.out _ _ _).mono ?_; rintro e v14 ⟨rfl, hba⟩; go_simp
            rw [G3.out]
            have HE := Lib.hid (bt HE.out hba)
            have HA := Lib.hid (HA.out.ext hba)
            have hSn := hSn.ext hba; refine hK _ _ hSn ?_; clear hK; clear K; simp only [setL]
            clear hba
            refine WH.only 9 _ rfl (by kernel_rfl) rfl (fun K hK => ?_); go_simp; refine (numberAt_any 6 (by omega) _).mono ?_; rintro e v15 ⟨rfl, rfl⟩; go_simp
            have hSn := hSn; refine hK _ _ hSn ?_; clear hK; clear K; simp only [setL]
            refine WH.only 10 _ rfl (by kernel_rfl) rfl (fun K hK => ?_); go_simp; refine (nat_any L HLl.out _ _ _).mono ?_; rintro e v16 ⟨rfl, hba⟩; go_simp
            rw [G4.out]
            have HE := Lib.hid (bt HE.out hba)
            have HA := Lib.hid (HA.out.ext hba)
            have hSn := hSn.ext hba; refine hK _ _ hSn ?_; clear hK; clear K; simp only [setL]
            clear hba
            refine WH.tk 11 ?_; simp only [setL]
            refine WH.only 13 _ rfl (by kernel_rfl) rfl (fun K hK => ?_)
            refine ow_store _ _ _ rfl _ (icells (gotK b 0 z)) rfl (congrArg Value.agg HV.out) _ _ HA.out Try.inoSize rfl (oneCell_icells _) ?_; apply Stop.go; intro w9 Ho9 HxG; have HE := Lib.hid (bonly HE.out Ho9.out HZ.out); have hSn := hSn.only Ho9.out (by have := HZ.out; have := HO.out; omega); refine hK _ _ hSn ?_; clear hK; clear K; simp only [setL]; refine WH.done (by kernel_rfl) ?_; go_wp2_with fail; go_meet; exact ⟨_, rfl, HxG.out, HZ.out, HE.out⟩))
        focus (
          have HZ := Lib.hid HE.out.size; refine ow_alloc _ rfl _ Try.inoZero ?_; apply Stop.go; intro v17 HgN HA; have HE := Lib.hid (bt HE.out HgN.out.1); have hSn := hSn.ext HgN.out.1; refine hK _ _ hSn ?_; clear hK; clear K; simp only [setL]; clear HgN
          refine WH.only 5 _ rfl (by kernel_rfl) rfl (fun K hK => ?_); go_simp; refine (nat_any L HLl.out _ _ _).mono ?_; rintro e v18 ⟨rfl, hba⟩; go_simp
          rw [G2.out]
          have HE := Lib.hid (bt HE.out hba)
          have HA := Lib.hid (HA.out.ext hba)
          have hSn := hSn.ext hba; refine hK _ _ hSn ?_; clear hK; clear K; simp only [setL]
          clear hba
          refine WH.only 7 _ rfl (by kernel_rfl) rfl (fun K hK => ?_); go_simp; refine (nat_any L HLl.out _ _ _).mono ?_; rintro e v19 ⟨rfl, hba⟩; go_simp
          rw [G3.out]
          have HE := Lib.hid (bt HE.out hba)
          have HA := Lib.hid (HA.out.ext hba)
          have hSn := hSn.ext hba; refine hK _ _ hSn ?_; clear hK; clear K; simp only [setL]
          clear hba
          refine WH.only 9 _ rfl (by kernel_rfl) rfl (fun K hK => ?_); go_simp; refine (numberAt_any 6 (by omega) _).mono ?_; rintro e v20 ⟨rfl, rfl⟩; go_simp
          have hSn := hSn; refine hK _ _ hSn ?_; clear hK; clear K; simp only [setL]
          refine WH.only 10 _ rfl (by kernel_rfl) rfl (fun K hK => ?_); go_simp; refine (nat_any L HLl.out _ _ _).mono ?_; rintro e v21 ⟨rfl, hba⟩; go_simp
          rw [G4.out]
          have HE := Lib.hid (bt HE.out hba)
          have HA := Lib.hid (HA.out.ext hba)
          have hSn := hSn.ext hba; refine hK _ _ hSn ?_; clear hK; clear K; simp only [setL]
          clear hba
          refine WH.tk 11 ?_; simp only [setL]
          refine WH.only 13 _ rfl (by kernel_rfl) rfl (fun K hK => ?_)
          refine ow_store _ _ _ rfl _ (icells (gotK b 0 z)) rfl (congrArg Value.agg HV.out) _ _ HA.out Try.inoSize rfl (oneCell_icells _) ?_; apply Stop.go; intro w9 Ho9 HxG; have HE := Lib.hid (bonly HE.out Ho9.out HZ.out); have hSn := hSn.only Ho9.out (by have := HZ.out; have := HO.out; omega); refine hK _ _ hSn ?_; clear hK; clear K; simp only [setL]; refine WH.done (by kernel_rfl) ?_; go_wp2_with fail; go_meet; exact ⟨_, rfl, HxG.out, HZ.out, HE.out⟩))
      focus (
        have HZ := Lib.hid HE.out.size; refine ow_alloc _ rfl _ Try.inoZero ?_; apply Stop.go; intro v22 HgN HA; have HE := Lib.hid (bt HE.out HgN.out.1); have hSn := hSn.ext HgN.out.1; refine hK _ _ hSn ?_; clear hK; clear K; simp only [setL]; clear HgN
        refine WH.only 3 _ rfl (by kernel_rfl) rfl (fun K hK => ?_); go_simp; refine (nat_any L HLl.out _ _ _).mono ?_; rintro e v23 ⟨rfl, hba⟩; go_simp
        rw [G1.out]
        have HE := Lib.hid (bt HE.out hba)
        have HA := Lib.hid (HA.out.ext hba)
        have hSn := hSn.ext hba; refine hK _ _ hSn ?_; clear hK; clear K; simp only [setL]
        clear hba
        refine WH.only 5 _ rfl (by kernel_rfl) rfl (fun K hK => ?_); go_simp; refine (nat_any L HLl.out _ _ _).mono ?_; rintro e v24 ⟨rfl, hba⟩; go_simp
        rw [G2.out]
        have HE := Lib.hid (bt HE.out hba)
        have HA := Lib.hid (HA.out.ext hba)
        have hSn := hSn.ext hba; refine hK _ _ hSn ?_; clear hK; clear K; simp only [setL]
        clear hba
        refine WH.only 7 _ rfl (by kernel_rfl) rfl (fun K hK => ?_); go_simp; refine (nat_any L HLl.out _ _ _).mono ?_; rintro e v25 ⟨rfl, hba⟩; go_simp
        rw [G3.out]
        have HE := Lib.hid (bt HE.out hba)
        have HA := Lib.hid (HA.out.ext hba)
        have hSn := hSn.ext hba; refine hK _ _ hSn ?_; clear hK; clear K; simp only [setL]
        clear hba
        refine WH.only 9 _ rfl (by kernel_rfl) rfl (fun K hK => ?_); go_simp; refine (numberAt_any 6 (by omega) _).mono ?_; rintro e v26 ⟨rfl, rfl⟩; go_simp
        have hSn := hSn; refine hK _ _ hSn ?_; clear hK; clear K; simp only [setL]
        refine WH.only 10 _ rfl (by kernel_rfl) rfl (fun K hK => ?_); go_simp; refine (nat_any L HLl.out _ _ _).mono ?_; rintro e v27 ⟨rfl, hba⟩; go_simp
        rw [G4.out]
        have HE := Lib.hid (bt HE.out hba)
        have HA := Lib.hid (HA.out.ext hba)
        have hSn := hSn.ext hba; refine hK _ _ hSn ?_; clear hK; clear K; simp only [setL]
        clear hba
        refine WH.tk 11 ?_; simp only [setL]
        refine WH.only 13 _ rfl (by kernel_rfl) rfl (fun K hK => ?_)
        refine ow_store _ _ _ rfl _ (icells (gotK b 0 z)) rfl (congrArg Value.agg HV.out) _ _ HA.out Try.inoSize rfl (oneCell_icells _) ?_; apply Stop.go; intro w9 Ho9 HxG; have HE := Lib.hid (bonly HE.out Ho9.out HZ.out); have hSn := hSn.only Ho9.out (by have := HZ.out; have := HO.out; omega); refine hK _ _ hSn ?_; clear hK; clear K; simp only [setL]; refine WH.done (by kernel_rfl) ?_; go_wp2_with fail; go_meet; exact ⟨_, rfl, HxG.out, HZ.out, HE.out⟩))
    focus (
      have HZ := Lib.hid HE.out.size; refine ow_alloc _ rfl _ Try.inoZero ?_; apply Stop.go; intro v28 HgN HA; have HE := Lib.hid (bt HE.out HgN.out.1); have hSn := hSn.ext HgN.out.1; refine hK _ _ hSn ?_; clear hK; clear K; simp only [setL]; clear HgN
      refine WH.only 1 _ rfl (by kernel_rfl) rfl (fun K hK => ?_); go_simp; refine (nat_any L HLl.out _ _ _).mono ?_; rintro e v29 ⟨rfl, hba⟩; go_simp
      rw [G0.out]
      have HE := Lib.hid (bt HE.out hba)
      have HA := Lib.hid (HA.out.ext hba)
      have hSn := hSn.ext hba; refine hK _ _ hSn ?_; clear hK; clear K; simp only [setL]
      clear hba
      refine WH.only 3 _ rfl (by kernel_rfl) rfl (fun K hK => ?_); go_simp; refine (nat_any L HLl.out _ _ _).mono ?_; rintro e v30 ⟨rfl, hba⟩; go_simp
      rw [G1.out]
      have HE := Lib.hid (bt HE.out hba)
      have HA := Lib.hid (HA.out.ext hba)
      have hSn := hSn.ext hba; refine hK _ _ hSn ?_; clear hK; clear K; simp only [setL]
      clear hba
      refine WH.only 5 _ rfl (by kernel_rfl) rfl (fun K hK => ?_); go_simp; refine (nat_any L HLl.out _ _ _).mono ?_; rintro e v31 ⟨rfl, hba⟩; go_simp
      rw [G2.out]
      have HE := Lib.hid (bt HE.out hba)
      have HA := Lib.hid (HA.out.ext hba)
      have hSn := hSn.ext hba; refine hK _ _ hSn ?_; clear hK; clear K; simp only [setL]
      clear hba
      refine WH.only 7 _ rfl (by kernel_rfl) rfl (fun K hK => ?_); go_simp; refine (nat_any L HLl.out _ _ _).mono ?_; rintro e v32 ⟨rfl, hba⟩; go_simp
      rw [G3.out]
      have HE := Lib.hid (bt HE.out hba)
      have HA := Lib.hid (HA.out.ext hba)
      have hSn := hSn.ext hba; refine hK _ _ hSn ?_; clear hK; clear K; simp only [setL]
      clear hba
      refine WH.only 9 _ rfl (by kernel_rfl) rfl (fun K hK => ?_); go_simp; refine (numberAt_any 6 (by omega) _).mono ?_; rintro e v33 ⟨rfl, rfl⟩; go_simp
      have hSn := hSn; refine hK _ _ hSn ?_; clear hK; clear K; simp only [setL]
      refine WH.only 10 _ rfl (by kernel_rfl) rfl (fun K hK => ?_); go_simp; refine (nat_any L HLl.out _ _ _).mono ?_; rintro e v34 ⟨rfl, hba⟩; go_simp
      rw [G4.out]
      have HE := Lib.hid (bt HE.out hba)
      have HA := Lib.hid (HA.out.ext hba)
      have hSn := hSn.ext hba; refine hK _ _ hSn ?_; clear hK; clear K; simp only [setL]
      clear hba
      refine WH.tk 11 ?_; simp only [setL]
      refine WH.only 13 _ rfl (by kernel_rfl) rfl (fun K hK => ?_)
      refine ow_store _ _ _ rfl _ (icells (gotK b 0 z)) rfl (congrArg Value.agg HV.out) _ _ HA.out Try.inoSize rfl (oneCell_icells _) ?_; apply Stop.go; intro w9 Ho9 HxG; have HE := Lib.hid (bonly HE.out Ho9.out HZ.out); have hSn := hSn.only Ho9.out (by have := HZ.out; have := HO.out; omega); refine hK _ _ hSn ?_; clear hK; clear K; simp only [setL]; refine WH.done (by kernel_rfl) ?_; go_wp2_with fail; go_meet; exact ⟨_, rfl, HxG.out, HZ.out, HE.out⟩)
  case rest =>
  obtain ⟨G, rfl, hx, hge, hd⟩ := hcut
  have HE := Lib.hid hd
  have HX := Lib.hid hx
  have HGe := Lib.hid hge
  generalize wc = w6 at *
  have HB6 := Lib.hid (Hb5.out.ext HE.out)
  have HR6 := Lib.hid (HR5.out.ext HE.out)
  have E6 := Lib.hid (bt E5.out HE.out)
  have HNG := Lib.hid (show r2 < G ∧ g3 < G ∧ w.heap.size < r2 ∧ r2 < g3 by have := HGe.out; have := HO.out; have := HOw.out; omega)
  clear hx hge hd HE G0 G1 G2 G3 G4 HV HR5 Hb5 E5 HGe HO HOw
  go_wp2_with fail
  go_loopw [5, 20] (fun _ i wr => ∃ k : Nat, k ≤ 6 ∧ i = .int .i64 k ∧ Hid (Blk wr G 42 (icells (gotK b k z))) ∧ Hid (Blk wr g3 52 (bcells L)) ∧ Hid (Blk wr r2 42 (icells freeI)) ∧ Hid (Below w.heap.size w wr)) (fun _ i _ => 6 - (intOf i).toNat)
  case atStart => exact ⟨0, Nat.zero_le _, rfl, HX, HB6, HR6, E6⟩
  case round =>
    obtain ⟨k, hk, rfl, HXk, HBk, HRk, Ek⟩ := hrel
    by_cases hlt : k < 6
    · have hg := HN.out (10 + 2 * k) 2 (by omega) (by omega) (by omega)
      rw [show ((10 + 2 * k : Nat) : Int) = 10 + 2 * (k : Int) from by omega] at hg
      have hg' : getN L (10 + 2 * (k : Int)) 2 4 = leV b (10 + 2 * k) 2 := hg
      have HG := Lib.hid hg'
      have HS := Lib.hid (gotK_set b z k hlt)
      have d0 : decide ((k : Int) < 6) = true := by simp; omega
      have p0 : 0 ≤ (k : Int) := by omega
      have p1 : (k : Int) < 6 := by omega
      clear hg hg' HN
      go_wp2_with fail
      refine WH.start (S := fun w' : World => Blk w' g3 52 (bcells L)) [false, false, false, false, false, false, false, false] 8 rfl rfl (by kernel_rfl) (HBk.out.ext (bdrew wr 1)) (fun hSn => ?_); obtain ⟨wS, hwS⟩ : ∃ x, (wr).drew = x := ⟨_, rfl⟩; have HE := Lib.hid (show Below (wr).heap.size (wr) wS from hwS ▸ bdrew wr 1); rw [hwS] at hSn ⊢; clear hwS
      refine WH.tk 0 ?_; simp only [setL]
      refine WH.tv 1 rfl (fun w' hSw => run_load_arr _ _ rfl _ rfl _ _ (hSw) _ _ (Try.underlying52) (Try.blockFits HLl.out)) ?_; simp only [setL]
      refine WH.tk 2 ?_; simp only [setL]
      refine WH.tk 5 ?_; simp only [setL]
      refine WH.only 3 _ rfl (by kernel_rfl) rfl (fun K hK => ?_)
      go_simp; refine (numberAt_any k (by omega) _).mono ?_; rintro e wa ⟨rfl, rfl⟩; go_simp
      have hSn := hSn; refine hK _ _ hSn ?_; clear hK; clear K; simp only [setL]
      refine WH.only 4 _ rfl (by kernel_rfl) rfl (fun K hK => ?_)
      go_simp; refine (nat_any L HLl.out _ _ _).mono ?_; rintro e wa ⟨rfl, hba⟩; go_simp
      rw [HG.out]
      have HE := Lib.hid (bt HE.out hba)
      have hSn := hSn.ext hba; refine hK _ _ hSn ?_; clear hK; clear K; simp only [setL]
      refine WH.tk 6 ?_; simp only [setL]
      refine WH.only 7 _ rfl (by kernel_rfl) rfl (fun K hK => ?_)
      refine ow_store_cell _ _ _ rfl Try.numSize G (4 + k) rfl (.int .i64 ((leV b (10 + 2 * k) 2 : Nat) : Int)) rfl rfl rfl _ _ (HXk.out.ext HE.out) (by rw [icells_size, gotK_len]; omega) ?_
      apply Stop.go; intro wb Hob Hbb
      have hbb := Hbb.out
      rw [icells_set, HS.out] at hbb
      have HXn := Lib.hid hbb
      have HRn := Lib.hid ((HRk.out.ext HE.out).only Hob.out (by have := HNG.out; omega))
      have HBn := Lib.hid (hSn.only Hob.out (by have := HNG.out; omega))
      have En := Lib.hid (bonly (bt Ek.out HE.out) Hob.out (by have := HNG.out; omega))
      have hSn := HBn.out; refine hK _ _ hSn ?_; clear hK; clear K; simp only [setL]
      refine WH.done (by kernel_rfl) ?_
      clear hbb Hbb Hob HE hSn HXk HBk HRk Ek hba
      go_wp2_with fail
      go_roundw
      case rel => exact ⟨k + 1, by omega, by go_num, HXn, HBn, HRn, En⟩
      case measure => simp [intOf]; omega
    · obtain rfl : k = 6 := by omega
      have d0 : decide ((6 : Int) < 6) = false := by simp
      rw [HF.out] at HXk
      go_wp2_with (first | refine wpList_load_blk rfl _ _ rfl _ rfl _ _ HXk.out _ Try.underlying42 rfl (Try.inoFits (getI_len b)) ?_ | refine wpList_store_arr rfl _ _ _ rfl _ _ rfl rfl _ _ HRk.out (Try.inoFits (getI_len b)) (by rw [icells_size, icells_size, getI_len]; rfl) (oneCell_icells _) ?_)
      apply Stop.go; intro wc Hoc Hbc
      go_wp2_with ((with_reducible show bodyPost _ _ _ _ _ _); refine bodyPost_struct rfl _ rfl _ _ Hbc.out _ Try.underlying42 rfl (Try.inoFits (getI_len b)) rfl ?_)
      apply Stop.go
      exact bonly Ek.out Hoc.out (by have := HNG.out; omega)

/-- What Clean tells. -/
def cleanV (b : List UInt8) : List Int := (cleanI b).getD freeI
theorem cleanV_len (b : List UInt8) : (cleanV b).length = 11 := by
  unfold cleanV cleanI
  split
  · exact getI_len b
  · rfl
theorem cleanI_cases (b : List UInt8) : (mayI (getI b) = false → cleanI b = none) ∧ (mayI (getI b) = true → (putI (getI b) == b) = false → cleanI b = none) ∧ (mayI (getI b) = true → (putI (getI b) == b) = true → cleanI b = some (getI b)) := by
  unfold cleanI
  refine ⟨fun h => if_neg (by simp [h]), fun _ h2 => if_neg (by simpa using fun _ => by simpa using h2), fun h1 h2 => if_pos ⟨h1, by simpa using h2⟩⟩

set_option maxHeartbeats 3200000 in
theorem cleanI_any (b : List UInt8) (hb : b.length = 32) (w : World) :
    Calls Try.prog 37 #[.agg (bcells b)] w fun e w' => e = .returned (.tuple #[.agg (icells (cleanV b)), .bool (cleanI b).isSome]) ∧ Below w.heap.size w w' := by
  have HbL := Lib.hid hb
  have HzL : Hid ((zeros 32).length = 32) := Lib.hid (zeros_len _)
  obtain ⟨x, HX⟩ : ∃ x, Hid (getI b = x) := ⟨_, Lib.hid rfl⟩
  have HxL := Lib.hid (show x.length = 11 by rw [← HX.out]; rfl)
  have HPL := Lib.hid (outI_len HxL.out)
  have HC := cleanI_cases b
  rw [HX.out] at HC
  have HC := Lib.hid HC
  go_enter Try.func37, Try.ntmps37
  go_wp2_with (refine wpList_box_row rfl _ _ rfl _ rfl ?_)
  apply Stop.go; intro w1 Hg1 Hb1
  go_wp2_with (refine wpList_alloc_row rfl _ rfl _ Try.inoZero ?_)
  apply Stop.go; intro w2 Hg2 Hb2
  have z1 := Lib.hid Hg1.out.2
  have z2 := Lib.hid Hg2.out.2
  have Hl2 := Lib.hid (Hb1.out.below Hg2.out.1 (by rw [z1.out]; omega))
  have E2 := Lib.hid (bt Hg1.out.1 Hg2.out.1)
  go_wp2_with (refine wpList_load_arr rfl _ _ rfl _ rfl _ _ Hl2.out _ _ Try.underlying80 (Try.b32Fits HbL.out) ?_)
  refine (getI_any b HbL.out _).mono ?_; rintro e w3 ⟨rfl, hb3⟩
  rw [HX.out]
  have HB3 := Lib.hid (Hl2.out.ext hb3)
  have HR3 := Lib.hid (Hb2.out.ext hb3)
  have E3 := Lib.hid (bt E2.out hb3)
  have HO3 := Lib.hid (show w.heap.size < w1.heap.size ∧ w1.heap.size < w3.heap.size by have := z1.out; have := z2.out; have := hb3.size; omega)
  generalize w1.heap.size = r2 at *
  clear hb3 Hl2 E2 Hb1 Hb2 Hg1 Hg2 z1 z2
  go_wp2_with (refine wpList_alloc_row rfl _ rfl _ Try.inoZero ?_)
  apply Stop.go; intro w4 Hg4 Hb4
  go_wp2_with (refine wpList_store_arr rfl _ _ _ rfl _ _ rfl rfl _ _ Hb4.out (Try.inoFits HxL.out) (by rw [icells_size, icells_size, HxL.out]; rfl) (oneCell_icells _) ?_)
  apply Stop.go; intro w5 Ho5 Hb5
  have HB5 := Lib.hid ((HB3.out.ext Hg4.out.1).only Ho5.out (by have := HO3.out; omega))
  have HR5 := Lib.hid ((HR3.out.ext Hg4.out.1).only Ho5.out (by have := HO3.out; omega))
  have E5 := Lib.hid (bonly (bt E3.out Hg4.out.1) Ho5.out (by have := HO3.out; omega))
  have HO5 := Lib.hid (show w.heap.size < r2 ∧ r2 < w3.heap.size ∧ w3.heap.size < w5.heap.size from ⟨HO3.out.1, HO3.out.2, Hb5.out.lt⟩)
  generalize w3.heap.size = g4 at *
  clear Hg4 Hb4 Ho5 HB3 HR3 E3 HO3
  go_wp2_with (refine wpList_load_blk rfl _ _ rfl _ rfl _ _ Hb5.out _ Try.underlying42 rfl (Try.inoFits HxL.out) ?_)
  refine (putI_any x HxL.out _).mono ?_; rintro e w6 ⟨rfl, hb6⟩
  have HX6 := Lib.hid (Hb5.out.ext hb6)
  have HB6 := Lib.hid (HB5.out.ext hb6)
  have HR6 := Lib.hid (HR5.out.ext hb6)
  have E6 := Lib.hid (bt E5.out hb6)
  have HO6 := Lib.hid (show w.heap.size < r2 ∧ r2 < g4 ∧ g4 < w6.heap.size by have := HO5.out; have := hb6.size; omega)
  obtain ⟨m, Hm⟩ : ∃ m, Hid (mayI x = m) := ⟨_, Lib.hid rfl⟩
  have HU := Lib.hid (show outI x = if m then putI x else zeros 32 by unfold outI; rw [Hm.out])
  rw [Hm.out]
  obtain ⟨X, HXd⟩ : ∃ X, Hid (outI x = X) := ⟨_, Lib.hid rfl⟩
  rw [HXd.out] at HPL HU ⊢
  clear hb6 Hb5 HB5 HR5 E5 HO5
  go_wp2_with (refine wpList_alloc_row rfl _ rfl _ Try.b32Zero ?_)
  apply Stop.go; intro w7 Hg7 Hb7
  go_wp2_with (refine wpList_store_arr rfl _ _ _ rfl _ _ rfl rfl _ _ Hb7.out (Try.b32Fits HPL.out) (by simp only [bcells_size, HPL.out, HzL.out]) (oneCell_bcells _) ?_)
  apply Stop.go; intro w8 Ho8 Hb8
  have HX8 := Lib.hid ((HX6.out.ext Hg7.out.1).only Ho8.out (by have := HO6.out; omega))
  have HB8 := Lib.hid ((HB6.out.ext Hg7.out.1).only Ho8.out (by have := HO6.out; omega))
  have HR8 := Lib.hid ((HR6.out.ext Hg7.out.1).only Ho8.out (by have := HO6.out; omega))
  have E8 := Lib.hid (bonly (bt E6.out Hg7.out.1) Ho8.out (by have := HO6.out; omega))
  have HO8 := Lib.hid (show w.heap.size ≤ r2 by have := HO6.out; omega)
  generalize w6.heap.size = g7 at *
  clear Hg7 Hb7 Ho8 HX6 HB6 HR6 E6 HO6
  cases m
  · have H0 := Lib.hid (HC.out.1 Hm.out)
    rw [okArg_false]
    go_wp2_with (first | refine wpList_store_arr rfl _ _ _ rfl _ (icells freeI) rfl rfl _ _ HR8.out Try.inoSize rfl (oneCell_icells _) ?_)
    apply Stop.go; intro wc Hoc Hbc
    go_wp2_with ((with_reducible show bodyPost _ _ _ _ _ _); refine bodyPost_struct_tmp rfl _ rfl _ _ Hbc.out _ Try.underlying42 rfl Try.inoSize rfl _ rfl ?_)
    apply Stop.go
    rw [cleanV, H0.out]
    exact ⟨⟨rfl, rfl⟩, bonly E8.out Hoc.out HO8.out⟩
  · rw [okArg_true]
    obtain ⟨r, Hr⟩ : ∃ r, Hid ((X == b) = r) := ⟨_, Lib.hid rfl⟩
    have HXp : Hid (X = putI x) := HU
    have Hn := Lib.hid (show (!(X == b)) = !r by rw [Hr.out])
    cases r
    · have H0 := Lib.hid (HC.out.2.1 Hm.out (by rw [← HXp.out]; exact Hr.out))
      go_wp2_with (first | refine wpList_load_arr rfl _ _ rfl _ rfl _ _ Hb8.out _ _ Try.underlying80 (Try.b32Fits HPL.out) ?_ | refine wpList_load_arr rfl _ _ rfl _ rfl _ _ HB8.out _ _ Try.underlying80 (Try.b32Fits HbL.out) ?_ | refine wpList_neq_arr rfl _ _ _ _ rfl (by kernel_rfl) _ _ Try.underlying80 Try.underlying5 Try.byteSize _ _ rfl rfl HPL.out HbL.out _ Hn.out ?_ | refine wpList_store_arr rfl _ _ _ rfl _ (icells freeI) rfl rfl _ _ HR8.out Try.inoSize rfl (oneCell_icells _) ?_)
      apply Stop.go; intro wc Hoc Hbc
      go_wp2_with ((with_reducible show bodyPost _ _ _ _ _ _); refine bodyPost_struct_tmp rfl _ rfl _ _ Hbc.out _ Try.underlying42 rfl Try.inoSize rfl _ rfl ?_)
      apply Stop.go
      rw [cleanV, H0.out]
      exact ⟨⟨rfl, rfl⟩, bonly E8.out Hoc.out HO8.out⟩
    · have H0 := Lib.hid (HC.out.2.2 Hm.out (by rw [← HXp.out]; exact Hr.out))
      go_wp2_with (first | refine wpList_load_arr rfl _ _ rfl _ rfl _ _ Hb8.out _ _ Try.underlying80 (Try.b32Fits HPL.out) ?_ | refine wpList_load_arr rfl _ _ rfl _ rfl _ _ HB8.out _ _ Try.underlying80 (Try.b32Fits HbL.out) ?_ | refine wpList_neq_arr rfl _ _ _ _ rfl (by kernel_rfl) _ _ Try.underlying80 Try.underlying5 Try.byteSize _ _ rfl rfl HPL.out HbL.out _ Hn.out ?_ | refine wpList_load_blk rfl _ _ rfl _ rfl _ _ HX8.out _ Try.underlying42 rfl (Try.inoFits HxL.out) ?_ | refine wpList_store_arr rfl _ _ _ rfl _ _ rfl rfl _ _ HR8.out (Try.inoFits HxL.out) (by rw [icells_size, icells_size, HxL.out]; rfl) (oneCell_icells _) ?_)
      apply Stop.go; intro wc Hoc Hbc
      go_wp2_with ((with_reducible show bodyPost _ _ _ _ _ _); refine bodyPost_struct_tmp rfl _ rfl _ _ Hbc.out _ Try.underlying42 rfl (Try.inoFits HxL.out) rfl _ rfl ?_)
      apply Stop.go
      rw [cleanV, H0.out]
      exact ⟨⟨rfl, rfl⟩, bonly E8.out Hoc.out HO8.out⟩

end Go.Proofs.Ytfhghcodhacneaa
