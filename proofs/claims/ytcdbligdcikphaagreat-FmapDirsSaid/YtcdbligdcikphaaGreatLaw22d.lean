/-
  Layer 22: the walk of FmapDirs.
-/
import Derived.Test.YtcdbligdcikphaaGreatLaw22w
import Derived.Test.YtcdbligdcikphaaGreatVw2
import Derived.Test.YtcdbligdcikphaaGreatVw0
import Derived.Test.YtcdbligdcikphaaGreatRef22
import Derived.Test.YtcdbligdcikphaaGreatInts
namespace Go.Proofs.YtcdbligdcikphaaGreat
open Go.RowKit
set_option maxRecDepth 10000

theorem run_eql_rx_same (d : Int) (t : List Int) (ht : t.length = 32) (w : World) : (binOp .eql 46 (.agg (icells (d :: t))) (.agg (icells (d :: t)))).run Tryz.prog w = .ok (.bool true) w := by
  rw [run_eql_rx d d t t ht ht]
  simp
set_option maxHeartbeats 6400000 in
theorem fmapDirs_any (C : FC) (FD : FCd) (A : Option Addr) (n cap : Nat) (L : List (List UInt8)) (hn : L.length = n) (hL : Bks L) (hm : n ≤ maxLen) (i : Int) (w : World) (hr : RK w A L) :
    Calls Tryz.prog 3 #[.slice A n cap, .int .i64 i] w fun e w' => e = .returned (.bool true) ∧ Below w.heap.size w w' := by
  unfold maxLen at hm
  have Hn := Lib.hid hn
  have Hr := Lib.hid hr
  have HL := Lib.hid hL
  have HzL := Lib.hid zeroT_len
  have HfL : Hid (freeI.length = 11) := Lib.hid rfl
  clear hn hr hL
  by_cases hbig : 60 < n
  · have d0 : decide ((60 : Int) < (n : Int)) = true := by simp; omega
    clear hbig
    go_enter Tryz.func3, Tryz.ntmps3
    go_wp2_with fail
    refine (works22_any C _).mono ?_; rintro e w1 ⟨rfl, hb1⟩
    go_wp2_with fail
    go_ret
    exact ⟨rfl, hb1⟩
  · have d0 : decide ((60 : Int) < (n : Int)) = false := by simp; omega
    have hn6 : n ≤ 60 := by omega
    have HM := Lib.hid (show n ≤ maxLen by unfold maxLen; omega)
    have HTL := Lib.hid (fun no => bkV_len HL.out no)
    have HT := Lib.hid (fun (w : World) h => to21_any A n cap L Hn.out HL.out (by omega) w h)
    have HC1 := Lib.hid (fun A c w h => vof_any A n c L Hn.out HL.out (by omega) w h)
    have HLy := Lib.hid (fun w h => rlayout_any A n cap L Hn.out HL.out HM.out w h)
    clear hbig
    go_enter Tryz.func3, Tryz.ntmps3
    go_wp2_with fail
    refine (HT.out _ Hr.out).mono ?_; rintro e w1 ⟨v1, rfl, hv1, hb1⟩
    obtain ⟨A1, c1, rfl, hc1, hm1, hr1⟩ := hv1.read
    rw [Hn.out]
    have HR1 := Lib.hid hr1
    have E1 := Lib.hid hb1
    clear hv1 hc1 hm1 hr1 hb1 HT
    go_wp2_with fail
    refine (HC1.out A1 c1 _ HR1.out).mono ?_; rintro e w2 ⟨f, rfl, hb2, hf2⟩
    have HF2 := Lib.hid hf2
    have E2 := Lib.hid (bt E1.out hb2)
    clear hb2 hf2 HR1 E1 HC1
    go_wp2_with (refine wpList_alloc_row rfl _ rfl _ Tryz.viewZero ?_)
    apply Stop.go; intro w3 Hg3 Hb3
    go_wp2_with (refine wpList_store_arr rfl _ _ _ rfl _ (vval (layV L) f) rfl rfl _ _ Hb3.out Tryz.viewSize rfl (FV.one HF2.out) ?_)
    apply Stop.go; intro w4 Ho4 Hb4
    have D4 := Lib.hid (bonly Hg3.out.1 Ho4.out (Nat.le_refl _))
    have HF4 := Lib.hid (HF2.out.below D4.out)
    have E4 := Lib.hid (bt E2.out D4.out)
    generalize w2.heap.size = g2 at *
    clear Hg3 Hb3 Ho4 D4 HF2 E2
    go_wp2_with fail
    refine (HLy.out _ (Hr.out.below E4.out)).mono ?_; rintro e w5 ⟨rfl, hb5⟩
    have HF5 := Lib.hid (HF4.out.below hb5)
    have HV5 := Lib.hid (Hb4.out.ext hb5)
    have E5 := Lib.hid (bt E4.out hb5)
    clear hb5 HF4 Hb4 E4 HLy
    go_wp2_with (refine wpList_alloc_row rfl _ rfl _ Tryz.layZero ?_)
    apply Stop.go; intro w6 Hg6 Hb6
    go_wp2_with (refine wpList_store_arr rfl _ _ _ rfl _ (layV L).val rfl rfl _ _ Hb6.out Tryz.laySize rfl (val_one _) ?_)
    apply Stop.go; intro w7 Ho7 Hb7
    have D7 := Lib.hid (bonly Hg6.out.1 Ho7.out (Nat.le_refl _))
    have HF7 := Lib.hid (HF5.out.below D7.out)
    have HV7 := Lib.hid (HV5.out.ext D7.out)
    have E7 := Lib.hid (bt E5.out D7.out)
    generalize w5.heap.size = g5 at *
    clear Hg6 Hb6 Ho7 D7 HF5 HV5 E5
    cases hlw : layW L with
    | none =>
      have e13 : okSup (none : Option Lay14).isSome = 13 := rfl
      have e00 : (none : Option Lay14).isSome = false := rfl
      rw [e13, e00]
      clear e13 e00 hlw HF7 HV7 Hb7
      go_wp2_with fail
      refine (works22_any C _).mono ?_; rintro e w8 ⟨rfl, hb8⟩
      go_wp2_with fail
      go_ret
      exact ⟨rfl, bt E7.out hb8⟩
    | some l =>
      have Hlw := Lib.hid hlw
      have Hlv := Lib.hid (layV_some hlw)
      rw [Hlv.out] at HF7 HV7 Hb7
      have e13 : okSup (some l).isSome = 0 := rfl
      have e00 : (some l).isSome = true := rfl
      rw [e13, e00]
      obtain ⟨X, HX⟩ : ∃ X, Hid (vIno l (bkV L) i = X) := ⟨_, Lib.hid rfl⟩
      have HXL := Lib.hid (show X.length = 11 by rw [← HX.out]; exact vIno_len _ _ _)
      have HXi := Lib.hid (show In64 X by rw [← HX.out]; exact vIno_in _ _ _)
      have HX2 := Lib.hid (show ∀ z ∈ X, z < 9223372036854775808 from fun z h => (HXi.out z h).2)
      have HCN := Lib.hid (fun w h => vinode_any l f (bkV L) HTL.out i w h)
      rw [HX.out] at HCN
      obtain ⟨RD, HRD⟩ : ∃ RD, Hid (ixD l (bkV L) X = RD) := ⟨_, Lib.hid rfl⟩
      obtain ⟨RT, HRT⟩ : ∃ RT, Hid (ixT l (bkV L) X = RT) := ⟨_, Lib.hid rfl⟩
      obtain ⟨rb, HRB⟩ : ∃ rb, Hid (isF l (bkV L) X = rb) := ⟨_, Lib.hid rfl⟩
      have HRL := Lib.hid (show RT.length = 32 by rw [← HRT.out]; exact ixT_len)
      have HCI := Lib.hid (fun w h => FD.index l f (bkV L) HTL.out X HXL.out HXi.out w h)
      have HRI := Lib.hid (fun w h => rix22_any A n cap L Hn.out HL.out HM.out l Hlw.out X HXL.out HX2.out w h)
      rw [HRD.out, HRT.out, HRB.out] at HCI HRI
      have HCB := Lib.hid (fun w h => FD.buckets l f (bkV L) HTL.out X HXL.out HXi.out w h)
      have HRK := Lib.hid (fun w h => rbuk22_any A n cap L Hn.out HL.out HM.out l Hlw.out X HXL.out HX2.out w h)
      have HCO := Lib.hid (fun w h => C.owns l f (bkV L) HTL.out X HXL.out HXi.out w h)
      have HRO := Lib.hid (fun w h => rown22_any A n cap L Hn.out HL.out HM.out l Hlw.out X HXL.out HX2.out w h)
      have HBl := Lib.hid (@bukF_len l (bkV L) X)
      have HOl := Lib.hid (@ownF_len l (bkV L) X)
      obtain ⟨bk, HBK⟩ : ∃ bk, Hid (bukF l (bkV L) X = bk) := ⟨_, Lib.hid rfl⟩
      obtain ⟨ow, HOW⟩ : ∃ ow, Hid (ownF l (bkV L) X = ow) := ⟨_, Lib.hid rfl⟩
      rw [HBK.out] at HCB HRK HBl
      rw [HOW.out] at HCO HRO HOl
      clear Hlv e13 hlw HRD HRT HRB HBK HOW HX
      go_wp2_with (refine wpList_load_blk rfl _ _ rfl _ rfl _ _ HV7.out _ Tryz.underlying29 rfl Tryz.viewSize ?_)
      refine (HCN.out _ HF7.out).mono ?_; rintro e w8 ⟨rfl, hb8⟩
      have HF8 := Lib.hid (HF7.out.below hb8)
      have HV8 := Lib.hid (HV7.out.ext hb8)
      have HL8 := Lib.hid (Hb7.out.ext hb8)
      have E8 := Lib.hid (bt E7.out hb8)
      clear hb8 HF7 HV7 Hb7 E7 HCN
      go_wp2_with (refine wpList_alloc_row rfl _ rfl _ Tryz.inoZero ?_)
      apply Stop.go; intro w9 Hg9 Hb9
      go_wp2_with (refine wpList_store_arr rfl _ _ _ rfl _ _ rfl rfl _ _ Hb9.out (Tryz.inoFits HXL.out) (by simp only [icells_size, HXL.out, HfL.out]) (oneCell_icells _) ?_)
      apply Stop.go; intro wa Hoa Hba
      have D := Lib.hid (bonly Hg9.out.1 Hoa.out (Nat.le_refl _))
      have HFa := Lib.hid (HF8.out.below D.out)
      have HVa := Lib.hid (HV8.out.ext D.out)
      have HLa := Lib.hid (HL8.out.ext D.out)
      have Ea := Lib.hid (bt E8.out D.out)
      generalize w8.heap.size = gi at *
      clear Hg9 Hb9 Hoa D HF8 HV8 HL8 E8
      go_wp2_with (first | refine wpList_load_blk rfl _ _ rfl _ rfl _ _ HVa.out _ Tryz.underlying29 rfl Tryz.viewSize ?_ | refine wpList_load_blk rfl _ _ rfl _ rfl _ _ Hba.out _ Tryz.underlying39 rfl (Tryz.inoFits HXL.out) ?_)
      refine (HCI.out _ HFa.out).mono ?_; rintro e wb ⟨rfl, hbb⟩
      have HFb := Lib.hid (HFa.out.below hbb)
      have HVb := Lib.hid (HVa.out.ext hbb)
      have HLb := Lib.hid (HLa.out.ext hbb)
      have HIb := Lib.hid (Hba.out.ext hbb)
      have Eb := Lib.hid (bt Ea.out hbb)
      clear hbb HFa HVa HLa Hba Ea HCI
      go_wp2_with (refine wpList_alloc_row rfl _ rfl _ Tryz.ixZero ?_)
      apply Stop.go; intro wc Hgc Hbc
      go_wp2_with (refine wpList_store_arr rfl _ _ _ rfl _ _ rfl rfl _ _ Hbc.out (Tryz.ixFits HRL.out) (icells_same HzL.out HRL.out) (oneCell_icells _) ?_)
      apply Stop.go; intro wd Hod Hbd
      have D := Lib.hid (bonly Hgc.out.1 Hod.out (Nat.le_refl _))
      have HFd := Lib.hid (HFb.out.below D.out)
      have HVd := Lib.hid (HVb.out.ext D.out)
      have HLd := Lib.hid (HLb.out.ext D.out)
      have HId := Lib.hid (HIb.out.ext D.out)
      have Ed := Lib.hid (bt Eb.out D.out)
      generalize wb.heap.size = gx at *
      clear Hgc Hbc Hod D HFb HVb HLb HIb Eb
      go_wp2_with (first | refine wpList_load_blk rfl _ _ rfl _ rfl _ _ HLd.out _ Tryz.underlying26 rfl Tryz.laySize ?_ | refine wpList_load_blk rfl _ _ rfl _ rfl _ _ HId.out _ Tryz.underlying39 rfl (Tryz.inoFits HXL.out) ?_)
      refine (HRI.out _ (Hr.out.below Ed.out)).mono ?_; rintro e we ⟨rfl, hbe⟩
      have HFe := Lib.hid (HFd.out.below hbe)
      have HVe := Lib.hid (HVd.out.ext hbe)
      have HLe := Lib.hid (HLd.out.ext hbe)
      have HIe := Lib.hid (HId.out.ext hbe)
      have HXe := Lib.hid (Hbd.out.ext hbe)
      have Ee := Lib.hid (bt Ed.out hbe)
      clear hbe HFd HVd HLd HId Hbd Ed HRI
      go_wp2_with (refine wpList_alloc_row rfl _ rfl _ Tryz.rxZero ?_)
      apply Stop.go; intro wf Hgf Hbf
      go_wp2_with (refine wpList_store_arr rfl _ _ _ rfl _ _ rfl rfl _ _ Hbf.out (Tryz.rxFits HRL.out) (icells_same HzL.out HRL.out) (oneCell_icells _) ?_)
      apply Stop.go; intro wg Hog Hbg
      have D := Lib.hid (bonly Hgf.out.1 Hog.out (Nat.le_refl _))
      have HFg := Lib.hid (HFe.out.below D.out)
      have HVg := Lib.hid (HVe.out.ext D.out)
      have HLg := Lib.hid (HLe.out.ext D.out)
      have HIg := Lib.hid (HIe.out.ext D.out)
      have HXg := Lib.hid (HXe.out.ext D.out)
      have Eg := Lib.hid (bt Ee.out D.out)
      generalize we.heap.size = gy at *
      clear Hgf Hbf Hog D HFe HVe HLe HIe HXe Ee
      have eU : (rb == rb) = true := by simp
      obtain ⟨mb, Hmb⟩ : ∃ m, Hid (bk.length = m) := ⟨_, Lib.hid rfl⟩
      obtain ⟨mo, Hmo⟩ : ∃ m, Hid (ow.length = m) := ⟨_, Lib.hid rfl⟩
      have HMb := Lib.hid (show mb ≤ maxLen by have := HBl.out; have := Hmb.out; unfold maxLen; omega)
      have HMo := Lib.hid (show mo ≤ maxLen by have := HOl.out; have := Hmo.out; unfold maxLen; omega)
      go_wp2_with fail
      refine WH.start (S := fun w' : World => Blk w' g2 29 (vval l f) ∧ FV w' l f (bkV L) ∧ Blk w' gi 39 (icells X) ∧ Blk w' g5 26 l.val ∧ Blk w' gx 43 (icells (RD :: RT)) ∧ Blk w' gy 46 (icells (RD :: RT))) [false, false, false, false, false, false, false, false, false, false, false, false, false, false, false, false, false, false, false, false, false, false, false, false, false, false, false, false, false, false, false, false] 32 rfl rfl (by kernel_rfl) ⟨HVg.out.ext (bdrew wg 1), HFg.out.below (bdrew wg 1), HIg.out.ext (bdrew wg 1), HLg.out.ext (bdrew wg 1), HXg.out.ext (bdrew wg 1), Hbg.out.ext (bdrew wg 1)⟩ (fun hSn => ?_); obtain ⟨wS, hwS⟩ : ∃ x, (wg).drew = x := ⟨_, rfl⟩; have HE := Lib.hid (show Below (wg).heap.size (wg) wS from hwS ▸ bdrew wg 1); rw [hwS] at hSn ⊢; clear hwS
      refine WH.tv 0 rfl (fun w' hSw => exec_load_blk _ _ rfl _ rfl _ _ (hSw.2.2.2.2.1) _ (Tryz.underlying43) rfl (Tryz.ixFits HRL.out)) ?_; simp only [setL]
      refine WH.tv 1 rfl (fun w' hSw => exec_load_blk _ _ rfl _ rfl _ _ (hSw.2.2.2.2.2) _ (Tryz.underlying46) rfl (Tryz.rxFits HRL.out)) ?_; simp only [setL]
      refine WH.tv 2 rfl (fun w' hSw => exec_eql_agg _ _ _ _ _ rfl (by kernel_rfl) _ _ rfl rfl _ (run_eql_rx_same RD RT HRL.out _)) ?_; simp only [setL]
      refine WH.tk 3 ?_; simp only [setL]
      refine WH.tk 4 ?_; simp only [setL]
      refine WH.tk 5 ?_; simp only [setL]
      refine WH.tk 6 ?_; simp only [setL]
      refine WH.tk 7 ?_; simp only [setL]
      refine WH.tk 8 ?_; simp only [setL]
      refine WH.tv 9 rfl (fun w' hSw => exec_load_blk _ _ rfl _ rfl _ _ (hSw.1) _ (Tryz.underlying29) rfl (Tryz.viewSize)) ?_; simp only [setL]
      refine WH.tv 10 rfl (fun w' hSw => exec_load_blk _ _ rfl _ rfl _ _ (hSw.2.2.1) _ (Tryz.underlying39) rfl (Tryz.inoFits HXL.out)) ?_; simp only [setL]
      refine WH.tk 12 ?_; simp only [setL]
      refine WH.tv 13 rfl (fun w' hSw => exec_load_blk _ _ rfl _ rfl _ _ (hSw.2.2.2.1) _ (Tryz.underlying26) rfl (Tryz.laySize)) ?_; simp only [setL]
      refine WH.tv 14 rfl (fun w' hSw => exec_load_blk _ _ rfl _ rfl _ _ (hSw.2.2.1) _ (Tryz.underlying39) rfl (Tryz.inoFits HXL.out)) ?_; simp only [setL]
      refine WH.only 11 _ rfl (by kernel_rfl) rfl (fun K hK => ?_)
      go_simp; refine (HCB.out _ hSn.2.1).mono ?_; rintro e wh ⟨vh, rfl, hvh, hbh⟩; go_simp
      obtain ⟨Ah, ch, rfl, hch, hmh, hrh⟩ := hvh.ints
      have HRh := Lib.hid hrh
      have HE := Lib.hid (bt HE.out hbh)
      rw [Hmb.out]
      clear hvh hch hmh hrh
      have hSn := And.intro (hSn.1.ext hbh) (And.intro (hSn.2.1.below hbh) (And.intro (hSn.2.2.1.ext hbh) (And.intro (hSn.2.2.2.1.ext hbh) (And.intro (hSn.2.2.2.2.1.ext hbh) (hSn.2.2.2.2.2.ext hbh))))); refine hK _ _ hSn ?_; clear hK; clear K; simp only [setL]
      refine WH.only 15 _ rfl (by kernel_rfl) rfl (fun K hK => ?_)
      go_simp; refine (HRK.out _ (Hr.out.below (bt Eg.out HE.out))).mono ?_; rintro e wi ⟨vi, rfl, hvi, hbi⟩; go_simp
      obtain ⟨Ai, ci, rfl, hci, hmi, hri⟩ := hvi.ints
      have HRi := Lib.hid hri
      have HRh := Lib.hid (HRh.out.below hbi)
      have HE := Lib.hid (bt HE.out hbi)
      rw [Hmb.out]
      clear hvi hci hmi hri
      have hSn := And.intro (hSn.1.ext hbi) (And.intro (hSn.2.1.below hbi) (And.intro (hSn.2.2.1.ext hbi) (And.intro (hSn.2.2.2.1.ext hbi) (And.intro (hSn.2.2.2.2.1.ext hbi) (hSn.2.2.2.2.2.ext hbi))))); refine hK _ _ hSn ?_; clear hK; clear K; simp only [setL]
      refine WH.only 16 _ rfl (by kernel_rfl) rfl (fun K hK => ?_)
      go_simp; refine (ints_any Ah mb ch bk Hmb.out Ai mb ci bk Hmb.out HMb.out HMb.out _ HRh.out HRi.out).mono ?_; rintro e wj ⟨rfl, mj, rfl⟩; go_simp
      have HE := Lib.hid (bt HE.out (bdrew _ mj))
      have hSn := And.intro (hSn.1.ext (bdrew _ mj)) (And.intro (hSn.2.1.below (bdrew _ mj)) (And.intro (hSn.2.2.1.ext (bdrew _ mj)) (And.intro (hSn.2.2.2.1.ext (bdrew _ mj)) (And.intro (hSn.2.2.2.2.1.ext (bdrew _ mj)) (hSn.2.2.2.2.2.ext (bdrew _ mj)))))); refine hK _ _ hSn ?_; clear hK; clear K; simp only [setL]
      refine WH.tk 17 ?_; simp only [setL]
      refine WH.tk 18 ?_; simp only [setL]
      refine WH.tv 19 rfl (fun w' hSw => exec_load_blk _ _ rfl _ rfl _ _ (hSw.1) _ (Tryz.underlying29) rfl (Tryz.viewSize)) ?_; simp only [setL]
      refine WH.tv 20 rfl (fun w' hSw => exec_load_blk _ _ rfl _ rfl _ _ (hSw.2.2.1) _ (Tryz.underlying39) rfl (Tryz.inoFits HXL.out)) ?_; simp only [setL]
      refine WH.tk 22 ?_; simp only [setL]
      refine WH.tv 23 rfl (fun w' hSw => exec_load_blk _ _ rfl _ rfl _ _ (hSw.2.2.2.1) _ (Tryz.underlying26) rfl (Tryz.laySize)) ?_; simp only [setL]
      refine WH.tv 24 rfl (fun w' hSw => exec_load_blk _ _ rfl _ rfl _ _ (hSw.2.2.1) _ (Tryz.underlying39) rfl (Tryz.inoFits HXL.out)) ?_; simp only [setL]
      refine WH.only 21 _ rfl (by kernel_rfl) rfl (fun K hK => ?_)
      go_simp; refine (HCO.out _ hSn.2.1).mono ?_; rintro e wk ⟨vk, rfl, hvk, hbk⟩; go_simp
      obtain ⟨Ak, ck, rfl, hck, hmk, hrk⟩ := hvk.ints
      have HRk := Lib.hid hrk
      have HE := Lib.hid (bt HE.out hbk)
      rw [Hmo.out]
      clear hvk hck hmk hrk
      have hSn := And.intro (hSn.1.ext hbk) (And.intro (hSn.2.1.below hbk) (And.intro (hSn.2.2.1.ext hbk) (And.intro (hSn.2.2.2.1.ext hbk) (And.intro (hSn.2.2.2.2.1.ext hbk) (hSn.2.2.2.2.2.ext hbk))))); refine hK _ _ hSn ?_; clear hK; clear K; simp only [setL]
      refine WH.only 25 _ rfl (by kernel_rfl) rfl (fun K hK => ?_)
      go_simp; refine (HRO.out _ (Hr.out.below (bt Eg.out HE.out))).mono ?_; rintro e wl ⟨vl, rfl, hvl, hbl⟩; go_simp
      obtain ⟨Al, cl, rfl, hcl, hml, hrl⟩ := hvl.ints
      have HRl := Lib.hid hrl
      have HRk := Lib.hid (HRk.out.below hbl)
      have HE := Lib.hid (bt HE.out hbl)
      rw [Hmo.out]
      clear hvl hcl hml hrl
      have hSn := And.intro (hSn.1.ext hbl) (And.intro (hSn.2.1.below hbl) (And.intro (hSn.2.2.1.ext hbl) (And.intro (hSn.2.2.2.1.ext hbl) (And.intro (hSn.2.2.2.2.1.ext hbl) (hSn.2.2.2.2.2.ext hbl))))); refine hK _ _ hSn ?_; clear hK; clear K; simp only [setL]
      refine WH.only 26 _ rfl (by kernel_rfl) rfl (fun K hK => ?_)
      go_simp; refine (ints_any Ak mo ck ow Hmo.out Al mo cl ow Hmo.out HMo.out HMo.out _ HRk.out HRl.out).mono ?_; rintro e wm ⟨rfl, mm, rfl⟩; go_simp
      have HE := Lib.hid (bt HE.out (bdrew _ mm))
      have hSn := And.intro (hSn.1.ext (bdrew _ mm)) (And.intro (hSn.2.1.below (bdrew _ mm)) (And.intro (hSn.2.2.1.ext (bdrew _ mm)) (And.intro (hSn.2.2.2.1.ext (bdrew _ mm)) (And.intro (hSn.2.2.2.2.1.ext (bdrew _ mm)) (hSn.2.2.2.2.2.ext (bdrew _ mm)))))); refine hK _ _ hSn ?_; clear hK; clear K; simp only [setL]
      refine WH.tk 27 ?_; simp only [setL]
      refine WH.tk 28 ?_; simp only [setL]
      refine WH.only 29 _ rfl (by kernel_rfl) rfl (fun K hK => ?_)
      go_simp; refine (works22_any C _).mono ?_; rintro e wn ⟨rfl, hbn⟩; go_simp
      have HE := Lib.hid (bt HE.out hbn)
      have hSn := And.intro (hSn.1.ext hbn) (And.intro (hSn.2.1.below hbn) (And.intro (hSn.2.2.1.ext hbn) (And.intro (hSn.2.2.2.1.ext hbn) (And.intro (hSn.2.2.2.2.1.ext hbn) (hSn.2.2.2.2.2.ext hbn))))); refine hK _ _ hSn ?_; clear hK; clear K; simp only [setL]
      refine WH.tk 30 ?_; simp only [setL]
      refine WH.tk 31 ?_; simp only [setL]
      refine WH.done (by kernel_rfl) ?_
      go_wp2_with fail
      go_ret
      exact ⟨rfl, bt Eg.out HE.out⟩

end Go.Proofs.YtcdbligdcikphaaGreat
