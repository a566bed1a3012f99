/-
  Contracts of index's Put and Get.
-/
import Derived.Test.YtcdbligdcikphaaGrF
import Derived.Test.YtcdbligdcikphaaTxtA
import Derived.Test.YtcdbligdcikphaaArr
namespace Go.Proofs.Ytcdbligdcikphaa
open Go.RowKit
set_option maxRecDepth 10000

/-- idx! -/
def idxH : List UInt8 := [105, 100, 120, 33]
theorem wrap_in {n : Int} (h : 0 ≤ n ∧ n ≤ 65535) : IntKind.u64.wrap n = (n.toNat : Nat) ∧ n.toNat < 18446744073709551616 := by
  refine ⟨?_, by omega⟩
  rw [IntWalk.u64_in _ (by omega)]
  omega

set_option maxHeartbeats 3200000 in
theorem xput_any (d : Int) (t : List Int) (ht : t.length = 32) (w : World) :
    Calls Try.prog 58 #[.agg (icells (d :: t))] w fun e w' => e = .returned (.tuple #[.agg (bcells (outX d t)), .int .i64 (okArg (mayX d t))]) ∧ Below w.heap.size w w' := by
  have HL := Lib.hid ht
  have HzL : Hid ((zeros 256).length = 256) := Lib.hid (zeros_len _)
  obtain ⟨b, Hm⟩ : ∃ b, Hid (mayX d t = b) := ⟨_, Lib.hid rfl⟩
  obtain ⟨RL, HRL⟩ : ∃ RL, Hid (outX d t = RL) := ⟨_, Lib.hid rfl⟩
  have HU := Lib.hid (show RL = if b then putX d t else zeros 256 by rw [← HRL.out]; unfold outX; rw [Hm.out])
  rw [HRL.out, Hm.out]
  go_enter Try.func58, Try.ntmps58
  go_wp2_with (refine wpList_box_row rfl _ _ rfl _ rfl ?_)
  apply Stop.go; intro w1 Hg1 Hb1
  go_wp2_with (refine wpList_alloc_row rfl _ rfl _ Try.blockZero ?_)
  apply Stop.go; intro w2 Hg2 Hb2
  have z1 := Hg1.out.2
  have z2 := Hb2.out.lt
  have HB2 := Lib.hid (Hb1.out.ext Hg2.out.1)
  have E2 := Lib.hid (bt Hg1.out.1 Hg2.out.1)
  have Hz := Lib.hid (show w.heap.size < w1.heap.size ∧ w1.heap.size < w2.heap.size by omega)
  clear z1 z2
  generalize w1.heap.size = g2 at *
  go_wp2_with (refine wpList_load_blk rfl _ _ rfl _ rfl _ _ HB2.out _ Try.underlying81 rfl (Try.ixFits HL.out) ?_)
  refine (xmay_any d t HL.out _).mono ?_; rintro e w3 ⟨rfl, hb3⟩
  rw [Hm.out]
  have HB3 := Lib.hid (HB2.out.ext hb3)
  have HR3 := Lib.hid (Hb2.out.ext hb3)
  have E3 := Lib.hid (bt E2.out hb3)
  have HO := Lib.hid (show w.heap.size < g2 ∧ g2 < w3.heap.size by have := Hz.out; have := hb3.size; omega)
  clear hb3 HB2 Hb2 E2 Hg1 Hb1 Hg2 Hz
  cases b
  · have HU0 : Hid (RL = zeros 256) := HU
    go_wp2_with (first | refine wpList_build_zero rfl _ rfl _ Try.blockZero _ _ Try.underlying45 Try.byteSize ?_ | refine wpList_store_arr rfl _ _ _ rfl _ _ rfl rfl _ _ HR3.out (Try.blockFits HzL.out) rfl (oneCell_bcells _) ?_)
    apply Stop.go; intro w4 Ho4 Hb4
    go_wp2_with ((with_reducible show bodyPost _ _ _ _ _ _); refine bodyPost_cell_tmp rfl _ rfl _ _ Hb4.out _ _ Try.underlying45 (Try.blockFits HzL.out) rfl _ rfl ?_)
    apply Stop.go
    rw [HU0.out]
    exact ⟨⟨rfl, rfl⟩, bonly E3.out Ho4.out (by have := HO.out; omega)⟩
  · have HU1 : Hid (RL = putX d t) := HU
    have hma := (mayX_at HL.out).1 Hm.out
    have hin := of_decide_eq_true (show decide (0 ≤ d ∧ d ≤ 5) = true from hma.2)
    have HW := Lib.hid (wrap_in (n := d) (by omega))
    have HWN := Lib.hid (fun k (hk : k < 32) => wrap_in (n := fld t k) (of_decide_eq_true (hma.1 k hk)))
    obtain ⟨X0, hX0⟩ : ∃ X0, layL (zeros 256) 0 idxH = X0 := ⟨_, rfl⟩
    have HX0 := Lib.hid hX0
    have HL0 := Lib.hid (show X0.length = 256 by rw [← hX0]; exact layL_len _ _ _ (zeros_len _))
    obtain ⟨X1, hX1⟩ : ∃ X1, walkX d t 0 = X1 := ⟨_, rfl⟩
    have HX1 := Lib.hid (show nwithL X0 4 1 d.toNat = X1 by rw [← hX0, ← hX1]; exact walkX_start d t)
    have HWX := Lib.hid hX1
    have HL1 := Lib.hid (show X1.length = 256 by rw [← hX1]; exact walkX_len HL.out d 0 (by omega))
    have HST := Lib.hid (fun k (hk : k < 32) => walkX_step HL.out d k hk)
    have HLW := Lib.hid (fun k (hk : k ≤ 32) => walkX_len HL.out d k hk)
    have HWE := Lib.hid (walkX_end HL.out d)
    clear hX0 hX1 hma hin HRL HU
    go_upto_region 3 with fail
    go_cut [4] from 11 to 16 (fun v wx => ∃ G, v = .pointer (some ⟨G, 0, none⟩) ∧ Blk wx G 45 (bcells X1) ∧ w3.heap.size ≤ G ∧ Below w3.heap.size w3 wx)
    case first =>
      refine WH.start (S := fun w' : World => Blk w' w.heap.size 81 (icells (d :: t))) [false, false, false, false, false, false, false, false] 8 rfl rfl (by kernel_rfl) (HB3.out.ext (bdrew w3 1)) (fun hSn => ?_); obtain ⟨wS, hwS⟩ : ∃ x, (w3).drew = x := ⟨_, rfl⟩; have HE := Lib.hid (show Below (w3).heap.size (w3) wS from hwS ▸ bdrew w3 1); rw [hwS] at hSn ⊢; clear hwS
      refine WH.tk 3 ?_; simp only [setL]
      refine WH.tv 4 rfl (fun w' hSw => exec_load_cell _ _ rfl ⟨w.heap.size, 0, none⟩ rfl _ (dep_cell hSw) _ Try.underlying3 rfl) ?_; simp only [setL]
      refine WH.two 0 6 _ _ rfl rfl (by kernel_rfl) rfl rfl (fun K hK => ?_) (fun K hK => ?_)
      focus (
        have HY := Lib.hid HE.out.size; refine ow_build4 _ _ _ _ _ _ rfl Try.underlying65 _ _ Try.byteInfo 105 100 120 33 rfl rfl rfl rfl ?_; apply Stop.go; intro a1 HgB HS; have HE := Lib.hid (bt HE.out HgB.out.1); have hSn := hSn.ext HgB.out.1; refine hK _ _ hSn ?_; clear hK; clear K; simp only [setL]
        refine WH.two 1 6 _ _ rfl rfl (by kernel_rfl) rfl rfl (fun K hK => ?_) (fun K hK => ?_)
        focus (
          refine ow_conv_text _ _ _ rfl Try.underlying65 Try.underlying5 idxH _ _ _ rfl HS.out ?_; apply Stop.go; intro a2 HoC HR; have HE := Lib.hid (bonly HE.out HoC.out HY.out); have hSn := hSn.only HoC.out (by have := HY.out; have := HO.out; omega); refine hK _ _ hSn ?_; clear hK; clear K; simp only [setL]
          refine WH.two 2 6 _ _ rfl rfl (by kernel_rfl) rfl rfl (fun K hK => ?_) (fun K hK => ?_)
          focus (
            go_simp; refine (nof_any _ _ _ idxH rfl _ HR.out).mono ?_; rintro e a3 ⟨rfl, hba⟩; go_simp; rw [HX0.out]; have HE := Lib.hid (bt HE.out hba); have hSn := hSn.ext hba; refine hK _ _ hSn ?_; clear hK; clear K; simp only [setL]
            clear hba
            refine WH.two 5 6 _ _ rfl rfl (by kernel_rfl) rfl rfl (fun K hK => ?_) (fun K hK => ?_)
            focus (
              go_simp; refine (nwith_any X0 HL0.out _ _ _ _ HW.out.1 HW.out.2 _).mono ?_; rintro e a4 ⟨rfl, hba⟩; go_simp; rw [HX1.out]; have HE := Lib.hid (bt HE.out hba); have hSn := hSn.ext hba; refine hK _ _ hSn ?_; clear hK; clear K; simp only [setL]
              clear hba
              refine WH.only 6 _ rfl (by kernel_rfl) rfl (fun K hK => ?_)
              have HZ := Lib.hid HE.out.size; refine ow_alloc _ rfl _ Try.blockZero ?_; apply Stop.go; intro a5 HgN HA; have HE := Lib.hid (bt HE.out HgN.out.1); have hSn := hSn.ext HgN.out.1; refine hK _ _ hSn ?_; clear hK; clear K; simp only [setL]
              clear HgN
              refine WH.only 7 _ rfl (by kernel_rfl) rfl (fun K hK => ?_); refine ow_store _ _ _ rfl _ _ rfl rfl _ _ HA.out (Try.blockFits HL1.out) (by rw [bcells_size, bcells_size, zeros_len, HL1.out]) (oneCell_bcells _) ?_; apply Stop.go; intro w9 Ho9 HxG; have HE := Lib.hid (bonly HE.out Ho9.out HZ.out); have hSn := hSn.only Ho9.out (by have := HZ.out; have := HO.out; omega); refine hK _ _ hSn ?_; clear hK; clear K; simp only [setL]; refine WH.done (by kernel_rfl) ?_; go_wp2_with fail; go_meet; exact ⟨_, rfl, HxG.out, HZ.out, HE.out⟩)
            focus (
              have HZ := Lib.hid HE.out.size; refine ow_alloc _ rfl _ Try.blockZero ?_; apply Stop.go; intro a6 HgN HA; have HE := Lib.hid (bt HE.out HgN.out.1); have hSn := hSn.ext HgN.out.1; refine hK _ _ hSn ?_; clear hK; clear K; simp only [setL]
              clear HgN
              refine WH.only 5 _ rfl (by kernel_rfl) rfl (fun K hK => ?_)
              go_simp; refine (nwith_any X0 HL0.out _ _ _ _ HW.out.1 HW.out.2 _).mono ?_; rintro e a7 ⟨rfl, hba⟩; go_simp; rw [HX1.out]; have HE := Lib.hid (bt HE.out hba); have hSn := hSn.ext hba; refine hK _ _ hSn ?_; clear hK; clear K; simp only [setL]
              have HA := Lib.hid (HA.out.ext hba)
              clear hba
              refine WH.only 7 _ rfl (by kernel_rfl) rfl (fun K hK => ?_); refine ow_store _ _ _ rfl _ _ rfl rfl _ _ HA.out (Try.blockFits HL1.out) (by rw [bcells_size, bcells_size, zeros_len, HL1.out]) (oneCell_bcells _) ?_; apply Stop.go; intro w9 Ho9 HxG; have HE := Lib.hid (bonly HE.out Ho9.out HZ.out); have hSn := hSn.only Ho9.out (by have := HZ.out; have := HO.out; omega); refine hK _ _ hSn ?_; clear hK; clear K; simp only [setL]; refine WH.done (by kernel_rfl) ?_; go_wp2_with fail; go_meet; exact ⟨_, rfl, HxG.out, HZ.out, HE.out⟩))
          focus (
            have HZ := Lib.hid HE.out.size; refine ow_alloc _ rfl _ Try.blockZero ?_; apply Stop.go; intro a8 HgN HA; have HE := Lib.hid (bt HE.out HgN.out.1); have hSn := hSn.ext HgN.out.1; refine hK _ _ hSn ?_; clear hK; clear K; simp only [setL]
            have HR := Lib.hid (HR.out.below HgN.out.1)
            clear HgN
            refine WH.only 2 _ rfl (by kernel_rfl) rfl (fun K hK => ?_)
            go_simp; refine (nof_any _ _ _ idxH rfl _ HR.out).mono ?_; rintro e a9 ⟨rfl, hba⟩; go_simp; rw [HX0.out]; have HE := Lib.hid (bt HE.out hba); have hSn := hSn.ext hba; refine hK _ _ hSn ?_; clear hK; clear K; simp only [setL]
            have HA := Lib.hid (HA.out.ext hba)
            clear hba
            refine WH.only 5 _ rfl (by kernel_rfl) rfl (fun K hK => ?_)
            go_simp; refine (nwith_any X0 HL0.out _ _ _ _ HW.out.1 HW.out.2 _).mono ?_; rintro e b1 ⟨rfl, hba⟩; go_simp; rw [HX1.out]; have HE := Lib.hid (bt HE.out hba); have hSn := hSn.ext hba; refine hK _ _ hSn ?_; clear hK; clear K; simp only [setL]
            have HA := Lib.hid (HA.out.ext hba)
            clear hba
            refine WH.only 7 _ rfl (by kernel_rfl) rfl (fun K hK => ?_); refine ow_store _ _ _ rfl _ _ rfl rfl _ _ HA.out (Try.blockFits HL1.out) (by rw [bcells_size, bcells_size, zeros_len, HL1.out]) (oneCell_bcells _) ?_; apply Stop.go; intro w9 Ho9 HxG; have HE := Lib.hid (bonly HE.out Ho9.out HZ.out); have hSn := hSn.only Ho9.out (by have := HZ.out; have := HO.out; omega); refine hK _ _ hSn ?_; clear hK; clear K; simp only [setL]; refine WH.done (by kernel_rfl) ?_; go_wp2_with fail; go_meet; exact ⟨_, rfl, HxG.out, HZ.out, HE.out⟩))
        focus (
          have HZ := Lib.hid HE.out.size; refine ow_alloc _ rfl _ Try.blockZero ?_; apply Stop.go; intro b2 HgN HA; have HE := Lib.hid (bt HE.out HgN.out.1); have hSn := hSn.ext HgN.out.1; refine hK _ _ hSn ?_; clear hK; clear K; simp only [setL]
          have HNE := Lib.hid HS.out.lt
          have HS := Lib.hid (HS.out.ext HgN.out.1)
          clear HgN
          refine WH.only 1 _ rfl (by kernel_rfl) rfl (fun K hK => ?_)
          refine ow_conv_text _ _ _ rfl Try.underlying65 Try.underlying5 idxH _ _ _ rfl HS.out ?_; apply Stop.go; intro b3 HoC HR; have HE := Lib.hid (bonly HE.out HoC.out HY.out); have hSn := hSn.only HoC.out (by have := HY.out; have := HO.out; omega); refine hK _ _ hSn ?_; clear hK; clear K; simp only [setL]
          have HA := Lib.hid (HA.out.only HoC.out (by have := HNE.out; omega))
          refine WH.only 2 _ rfl (by kernel_rfl) rfl (fun K hK => ?_)
          go_simp; refine (nof_any _ _ _ idxH rfl _ HR.out).mono ?_; rintro e b4 ⟨rfl, hba⟩; go_simp; rw [HX0.out]; have HE := Lib.hid (bt HE.out hba); have hSn := hSn.ext hba; refine hK _ _ hSn ?_; clear hK; clear K; simp only [setL]
          have HA := Lib.hid (HA.out.ext hba)
          clear hba
          refine WH.only 5 _ rfl (by kernel_rfl) rfl (fun K hK => ?_)
          go_simp; refine (nwith_any X0 HL0.out _ _ _ _ HW.out.1 HW.out.2 _).mono ?_; rintro e b5 ⟨rfl, hba⟩; go_simp; rw [HX1.out]; have HE := Lib.hid (bt HE.out hba); have hSn := hSn.ext hba; refine hK _ _ hSn ?_; clear hK; clear K; simp only [setL]
          have HA := Lib.hid (HA.out.ext hba)
          clear hba
          refine WH.only 7 _ rfl (by kernel_rfl) rfl (fun K hK => ?_); refine ow_store _ _ _ rfl _ _ rfl rfl _ _ HA.out (Try.blockFits HL1.out) (by rw [bcells_size, bcells_size, zeros_len, HL1.out]) (oneCell_bcells _) ?_; apply Stop.go; intro w9 Ho9 HxG; have HE := Lib.hid (bonly HE.out Ho9.out HZ.out); have hSn := hSn.only Ho9.out (by have := HZ.out; have := HO.out; omega); refine hK _ _ hSn ?_; clear hK; clear K; simp only [setL]; refine WH.done (by kernel_rfl) ?_; go_wp2_with fail; go_meet; exact ⟨_, rfl, HxG.out, HZ.out, HE.out⟩))
      focus (
        have HZ := Lib.hid HE.out.size; refine ow_alloc _ rfl _ Try.blockZero ?_; apply Stop.go; intro b6 HgN HA; have HE := Lib.hid (bt HE.out HgN.out.1); have hSn := hSn.ext HgN.out.1; refine hK _ _ hSn ?_; clear hK; clear K; simp only [setL]
        clear HgN
        refine WH.only 0 _ rfl (by kernel_rfl) rfl (fun K hK => ?_)
        have HNE := Lib.hid HA.out.lt
        have HY := Lib.hid HE.out.size; refine ow_build4 _ _ _ _ _ _ rfl Try.underlying65 _ _ Try.byteInfo 105 100 120 33 rfl rfl rfl rfl ?_; apply Stop.go; intro b7 HgB HS; have HE := Lib.hid (bt HE.out HgB.out.1); have hSn := hSn.ext HgB.out.1; refine hK _ _ hSn ?_; clear hK; clear K; simp only [setL]
        have HA := Lib.hid (HA.out.ext HgB.out.1)
        refine WH.only 1 _ rfl (by kernel_rfl) rfl (fun K hK => ?_)
        refine ow_conv_text _ _ _ rfl Try.underlying65 Try.underlying5 idxH _ _ _ rfl HS.out ?_; apply Stop.go; intro b8 HoC HR; have HE := Lib.hid (bonly HE.out HoC.out HY.out); have hSn := hSn.only HoC.out (by have := HY.out; have := HO.out; omega); refine hK _ _ hSn ?_; clear hK; clear K; simp only [setL]
        have HA := Lib.hid (HA.out.only HoC.out (by have := HNE.out; omega))
        refine WH.only 2 _ rfl (by kernel_rfl) rfl (fun K hK => ?_)
        go_simp; refine (nof_any _ _ _ idxH rfl _ HR.out).mono ?_; rintro e b9 ⟨rfl, hba⟩; go_simp; rw [HX0.out]; have HE := Lib.hid (bt HE.out hba); have hSn := hSn.ext hba; refine hK _ _ hSn ?_; clear hK; clear K; simp only [setL]
        have HA := Lib.hid (HA.out.ext hba)
        clear hba
        refine WH.only 5 _ rfl (by kernel_rfl) rfl (fun K hK => ?_)
        go_simp; refine (nwith_any X0 HL0.out _ _ _ _ HW.out.1 HW.out.2 _).mono ?_; rintro e c1 ⟨rfl, hba⟩; go_simp; rw [HX1.out]; have HE := Lib.hid (bt HE.out hba); have hSn := hSn.ext hba; refine hK _ _ hSn ?_; clear hK; clear K; simp only [setL]
        have HA := Lib.hid (HA.out.ext hba)
        clear hba
        refine WH.only 7 _ rfl (by kernel_rfl) rfl (fun K hK => ?_); refine ow_store _ _ _ rfl _ _ rfl rfl _ _ HA.out (Try.blockFits HL1.out) (by rw [bcells_size, bcells_size, zeros_len, HL1.out]) (oneCell_bcells _) ?_; apply Stop.go; intro w9 Ho9 HxG; have HE := Lib.hid (bonly HE.out Ho9.out HZ.out); have hSn := hSn.only Ho9.out (by have := HZ.out; have := HO.out; omega); refine hK _ _ hSn ?_; clear hK; clear K; simp only [setL]; refine WH.done (by kernel_rfl) ?_; go_wp2_with fail; go_meet; exact ⟨_, rfl, HxG.out, HZ.out, HE.out⟩)
    case rest =>
    obtain ⟨G, rfl, hxg, hg3, hbx⟩ := hcut
    have HX := Lib.hid hxg
    have HBc := Lib.hid (HB3.out.ext hbx)
    have HRc := Lib.hid (HR3.out.ext hbx)
    have Ec := Lib.hid (bt E3.out hbx)
    have HG := Lib.hid (show w.heap.size < g2 ∧ g2 < G by have := HO.out; omega)
    rw [← HWX.out] at HX
    clear hxg hg3 hbx HB3 HR3 E3 HO HX0 HL0 HX1 HL1 HWX HW
    go_wp2_with (refine wpList_load_ino rfl _ _ rfl _ 1 rfl _ _ _ HBc.out (by rw [List.drop_succ_cons, List.drop_zero, List.take_length]) _ Try.underlying79 rfl (Try.toFits HL.out) ?_)
    go_loopw [5, 6, 19] (fun _ _ i wr => ∃ k : Nat, k ≤ 32 ∧ i = .int .i64 k ∧ Hid (Blk wr G 45 (bcells (walkX d t k))) ∧ Hid (Blk wr g2 45 (bcells (zeros 256))) ∧ Hid (Below w.heap.size w wr)) (fun _ _ i _ => 32 - (intOf i).toNat)
    case atStart => exact ⟨0, Nat.zero_le _, rfl, HX, HRc, Ec⟩
    case round =>
      obtain ⟨k, hk, rfl, HXk, HRk, Ek⟩ := hrel
      by_cases hlt : k < 32
      · have HLk := Lib.hid (HLW.out k (by omega))
        have HLn := Lib.hid (HLW.out (k + 1) (by omega))
        have hsk := HST.out k hlt
        rw [show ((32 + 2 * k : Nat) : Int) = 32 + 2 * (k : Int) from by omega] at hsk
        have HSk := Lib.hid hsk
        clear hsk
        have HWk := Lib.hid (HWN.out k hlt)
        have d0 : decide ((k : Int) < 32) = true := by simp; omega
        clear HWE HLW HST HWN
        go_wp2_with (refine wpList_index_ints rfl _ _ _ rfl _ _ Try.underlying79 Try.underlying3 Try.int1Size t rfl _ _ rfl k rfl hlt (by rw [HL.out]; exact hlt) ?_)
        refine WT.start 5 (S := fun w' : World => Blk w' G 45 (bcells (walkX d t k))) [false, false, false, false, false, false] 6 rfl rfl (by kernel_rfl) (HXk.out.ext (bdrew wr 1)) (fun hSn => ?_); obtain ⟨wS, hwS⟩ : ∃ x, (wr).drew = x := ⟨_, rfl⟩; have HE := Lib.hid (show Below (wr).heap.size (wr) wS from hwS ▸ bdrew wr 1); rw [hwS] at hSn ⊢; clear hwS
        refine WT.tv 0 rfl (fun w' hSw => run_load_arr _ _ rfl _ rfl _ _ hSw _ _ Try.underlying45 (Try.blockFits HLk.out)) ?_; simp only [setL]
        refine WT.tk 1 ?_; simp only [setL]
        refine WT.tk 3 ?_; simp only [setL]
        refine WT.only 2 _ rfl (by kernel_rfl) rfl (fun K hK => ?_)
        go_simp; refine (xnumberAt_any k (by omega) _).mono ?_; rintro e wa ⟨rfl, rfl⟩; go_simp
        have hSn := hSn; refine hK _ _ hSn ?_; clear hK; clear K; simp only [setL]
        refine WT.only 4 _ rfl (by kernel_rfl) rfl (fun K hK => ?_)
        go_simp; refine (nwith_any (walkX d t k) HLk.out _ _ _ _ HWk.out.1 HWk.out.2 _).mono ?_; rintro e wa ⟨rfl, hba⟩; go_simp
        rw [HSk.out]
        have HE := Lib.hid (bt HE.out hba)
        have hSn := hSn.ext hba; refine hK _ _ hSn ?_; clear hK; clear K; simp only [setL]
        clear hba
        refine WT.last _ rfl (by kernel_rfl) rfl (fun K hK => ?_)
        refine ow_store _ _ _ rfl _ _ rfl rfl _ _ hSn (Try.blockFits HLn.out) (by rw [bcells_size, bcells_size, HLn.out, HLk.out]) (oneCell_bcells _) ?_
        apply Stop.go; intro wb Hob Hbb
        have HRb := Lib.hid ((HRk.out.ext HE.out).only Hob.out (by have := HG.out; omega))
        have Eb := Lib.hid (bonly (bt Ek.out HE.out) Hob.out (by have := HG.out; omega))
        refine hK _ _ ?_; clear hK; clear K; simp only [setL]; refine WT.done (by kernel_rfl) ?_
        clear HE hSn Hob HXk HRk Ek
        go_wp2_with fail
        go_roundw
        case rel => exact ⟨k + 1, by omega, by go_num, Hbb, HRb, Eb⟩
        case measure => simp [intOf]; omega
      · obtain rfl : k = 32 := by omega
        have d0 : decide ((32 : Int) < 32) = false := by simp
        have HPL := Lib.hid (putX_len HL.out d)
        rw [HWE.out] at HXk
        clear HLW HST HWN HWE
        go_wp2_with (first | refine wpList_load_arr rfl _ _ rfl _ rfl _ _ HXk.out _ _ Try.underlying45 (Try.blockFits HPL.out) ?_ | refine wpList_store_arr rfl _ _ _ rfl _ _ rfl rfl _ _ HRk.out (Try.blockFits HPL.out) (by rw [bcells_size, bcells_size, HPL.out, HzL.out]) (oneCell_bcells _) ?_)
        apply Stop.go; intro wc Hoc Hbc
        go_wp2_with ((with_reducible show bodyPost _ _ _ _ _ _); refine bodyPost_cell_tmp rfl _ rfl _ _ Hbc.out _ _ Try.underlying45 (Try.blockFits HPL.out) rfl _ rfl ?_)
        apply Stop.go
        rw [HU1.out]
        exact ⟨⟨rfl, rfl⟩, bonly Ek.out Hoc.out (by have := HG.out; omega)⟩

end Go.Proofs.Ytcdbligdcikphaa
