/-
  Layer 21: the walk of ViewReads.
-/
import Derived.Test.YtpdeohmgjblkeaaLaw21w
import Derived.Test.YtpdeohmgjblkeaaRef21
namespace Go.Proofs.Ytpdeohmgjblkeaa
open Go.RowKit
set_option maxRecDepth 10000

set_option maxHeartbeats 6400000 in
theorem viewReads_any (C : VC) (A : Option Addr) (n cap : Nat) (L : List (List UInt8)) (hn : L.length = n) (hL : Bks L) (hm : n ≤ maxLen) (i no : Int) (hno : no < 9223372036854775808) (w : World) (hr : RK w A L) :
    Calls Try.prog 3 #[.slice A n cap, .int .i64 i, .int .i64 no] w fun e w' => e = .returned (.bool true) ∧ Below w.heap.size w w' := by
  unfold maxLen at hm
  have Hn := Lib.hid hn
  have Hr := Lib.hid hr
  have HL := Lib.hid hL
  have HzL : Hid ((zeros 256).length = 256) := Lib.hid (zeros_len _)
  clear hn hr hL
  by_cases hbig : 60 < n
  · have d0 : decide ((60 : Int) < (n : Int)) = true := by simp; omega
    clear hbig
    go_enter Try.func3, Try.ntmps3
    go_wp2_with fail
    refine (works21_any C _).mono ?_; rintro e w1 ⟨rfl, hb1⟩
    go_wp2_with fail
    go_ret
    exact ⟨rfl, hb1⟩
  · have d0 : decide ((60 : Int) < (n : Int)) = false := by simp; omega
    have hn6 : n ≤ 60 := by omega
    have HM := Lib.hid (show n ≤ maxLen by unfold maxLen; omega)
    have HTL := Lib.hid (fun no => bkV_len HL.out no)
    have HT := Lib.hid (fun (w : World) h => to21_any A n cap L Hn.out HL.out (by omega) w h)
    have HC1 := Lib.hid (fun A c w h => C.of_ A n c L Hn.out HL.out (by omega) w h)
    have HLy := Lib.hid (fun w h => rlayout_any A n cap L Hn.out HL.out HM.out w h)
    clear hbig
    go_enter Try.func3, Try.ntmps3
    go_wp2_with fail
    refine (HT.out _ Hr.out).mono ?_; rintro e w1 ⟨v1, rfl, hv1, hb1⟩
    obtain ⟨A1, c1, rfl, hc1, hm1, hr1⟩ := hv1.read
    rw [Hn.out]
    have HR1 := Lib.hid hr1
    have E1 := Lib.hid hb1
    clear hv1 hc1 hm1 hr1 hb1 HT
    go_wp2_with fail
    refine (HC1.out A1 c1 _ HR1.out).mono ?_; rintro e w2 ⟨f, rfl, hb2, hf2⟩
    have HF2 := Lib.hid hf2
    have E2 := Lib.hid (bt E1.out hb2)
    clear hb2 hf2 HR1 E1 HC1
    go_wp2_with (refine wpList_alloc_row rfl _ rfl _ Try.viewZero ?_)
    apply Stop.go; intro w3 Hg3 Hb3
    go_wp2_with (refine wpList_store_arr rfl _ _ _ rfl _ (vval (layV L) f) rfl rfl _ _ Hb3.out Try.viewSize rfl (FV.one HF2.out) ?_)
    apply Stop.go; intro w4 Ho4 Hb4
    have D4 := Lib.hid (bonly Hg3.out.1 Ho4.out (Nat.le_refl _))
    have HF4 := Lib.hid (HF2.out.below D4.out)
    have E4 := Lib.hid (bt E2.out D4.out)
    generalize w2.heap.size = g2 at *
    clear Hg3 Hb3 Ho4 D4 HF2 E2
    go_wp2_with fail
    refine (HLy.out _ (Hr.out.below E4.out)).mono ?_; rintro e w5 ⟨rfl, hb5⟩
    have HF5 := Lib.hid (HF4.out.below hb5)
    have HV5 := Lib.hid (Hb4.out.ext hb5)
    have E5 := Lib.hid (bt E4.out hb5)
    clear hb5 HF4 Hb4 E4 HLy
    go_wp2_with (refine wpList_alloc_row rfl _ rfl _ Try.layZero ?_)
    apply Stop.go; intro w6 Hg6 Hb6
    go_wp2_with (refine wpList_store_arr rfl _ _ _ rfl _ (layV L).val rfl rfl _ _ Hb6.out Try.laySize rfl (val_one _) ?_)
    apply Stop.go; intro w7 Ho7 Hb7
    have D7 := Lib.hid (bonly Hg6.out.1 Ho7.out (Nat.le_refl _))
    have HF7 := Lib.hid (HF5.out.below D7.out)
    have HV7 := Lib.hid (HV5.out.ext D7.out)
    have E7 := Lib.hid (bt E5.out D7.out)
    generalize w5.heap.size = g5 at *
    clear Hg6 Hb6 Ho7 D7 HF5 HV5 E5
    cases hlw : layW L with
    | none =>
      have Hlv := Lib.hid (layV_none hlw)
      rw [Hlv.out] at HF7 HV7
      have e13 : okSup (none : Option Lay14).isSome = 13 := rfl
      have e00 : (none : Option Lay14).isSome = false := rfl
      rw [e13, e00]
      have HCN := Lib.hid (fun w h => C.inodes ⟨0, 0, 0⟩ f (bkV L) HTL.out w h)
      have HCI := Lib.hid (fun w h => C.image ⟨0, 0, 0⟩ f (bkV L) HTL.out w h)
      have HCU := Lib.hid (fun w h => C.used ⟨0, 0, 0⟩ f (bkV L) HTL.out no w h)
      have HN0 := Lib.hid (show vAll ⟨0, 0, 0⟩ (bkV L) (vIn ⟨0, 0, 0⟩) = [] from rfl)
      have HI0 := Lib.hid (show vImg ⟨0, 0, 0⟩ (bkV L) (vBn ⟨0, 0, 0⟩) = [] from rfl)
      have HU0 := Lib.hid (show vUse ⟨0, 0, 0⟩ (bkV L) no = false from vUse_off _ (Or.inl (by decide)))
      rw [HN0.out] at HCN
      rw [HI0.out] at HCI
      rw [HU0.out] at HCU
      clear Hlv e13 e00 hlw HN0 HI0 HU0
      go_wp2_with fail
      refine WH.start (S := fun w' : World => Blk w' g2 29 (vval ⟨0, 0, 0⟩ f) ∧ FV w' ⟨0, 0, 0⟩ f (bkV L)) [false, false, false, false, false, false, false, false, false, false, false, false, false, false, false, false, false, false, false, false, false, false, false, false, false, false, false, false] 28 rfl rfl (by kernel_rfl) ⟨HV7.out.ext (bdrew w7 1), HF7.out.below (bdrew w7 1)⟩ (fun hSn => ?_); obtain ⟨wS, hwS⟩ : ∃ x, (w7).drew = x := ⟨_, rfl⟩; have HE := Lib.hid (show Below (w7).heap.size (w7) wS from hwS ▸ bdrew w7 1); rw [hwS] at hSn ⊢; clear hwS
      refine WH.tk 0 ?_; simp only [setL]
      refine WH.tk 1 ?_; simp only [setL]
      refine WH.tk 2 ?_; simp only [setL]
      refine WH.tk 3 ?_; simp only [setL]
      refine WH.tv 4 rfl (fun w' hSw => exec_load_cells _ _ rfl ⟨g2, 0, none⟩ rfl _ Try.underlying26 (Lay14.val ⟨0, 0, 0⟩).toList Try.laySize (vval_cells hSw.1)) ?_; simp only [setL]
      refine WH.tk 5 ?_; simp only [setL]
      refine WH.tv 6 rfl (fun w' hSw => exec_eql_agg _ _ _ _ _ rfl (by kernel_rfl) _ _ rfl rfl _ (run_eql_lay_same zero14 _)) ?_; simp only [setL]
      refine WH.tk 7 ?_; simp only [setL]
      refine WH.tk 8 ?_; simp only [setL]
      refine WH.tv 9 rfl (fun w' hSw => exec_load_blk _ _ rfl _ rfl _ _ (hSw.1) _ (Try.underlying29) rfl (Try.viewSize)) ?_; simp only [setL]
      refine WH.tv 12 rfl (fun w' hSw => exec_load_blk _ _ rfl _ rfl _ _ (hSw.1) _ (Try.underlying29) rfl (Try.viewSize)) ?_; simp only [setL]
      refine WH.only 10 _ rfl (by kernel_rfl) rfl (fun K hK => ?_)
      go_simp; refine (HCN.out _ hSn.2).mono ?_; rintro e wa ⟨va, rfl, hva, hba⟩; go_simp
      obtain ⟨Aa, ca, rfl, hca, hma, hra⟩ := hva.ints
      have HE := Lib.hid (bt HE.out hba)
      clear hva hca hma hra
      have hSn := And.intro (hSn.1.ext hba) (hSn.2.below hba); refine hK _ _ hSn ?_; clear hK; clear K; simp only [setL]
      refine WH.tk 11 ?_; simp only [setL]
      refine WH.only 13 _ rfl (by kernel_rfl) rfl (fun K hK => ?_)
      go_simp; refine (HCI.out _ hSn.2).mono ?_; rintro e wb ⟨vb, rfl, hvb, hbb⟩; go_simp
      obtain ⟨Ab, cb, rfl, hcb, hmb, hrb⟩ := hvb.read
      have HE := Lib.hid (bt HE.out hbb)
      clear hvb hcb hmb hrb
      have hSn := And.intro (hSn.1.ext hbb) (hSn.2.below hbb); refine hK _ _ hSn ?_; clear hK; clear K; simp only [setL]
      refine WH.tk 14 ?_; simp only [setL]
      refine WH.tk 15 ?_; simp only [setL]
      refine WH.tk 16 ?_; simp only [setL]
      refine WH.tk 17 ?_; simp only [setL]
      refine WH.tk 18 ?_; simp only [setL]
      refine WH.tv 19 rfl (fun w' hSw => exec_load_blk _ _ rfl _ rfl _ _ (hSw.1) _ (Try.underlying29) rfl (Try.viewSize)) ?_; simp only [setL]
      refine WH.tk 20 ?_; simp only [setL]
      refine WH.only 21 _ rfl (by kernel_rfl) rfl (fun K hK => ?_)
      go_simp; refine (HCU.out _ hSn.2).mono ?_; rintro e wc ⟨rfl, hbc⟩; go_simp
      have HE := Lib.hid (bt HE.out hbc)
      have hSn := And.intro (hSn.1.ext hbc) (hSn.2.below hbc); refine hK _ _ hSn ?_; clear hK; clear K; simp only [setL]
      refine WH.tk 22 ?_; simp only [setL]
      refine WH.tk 23 ?_; simp only [setL]
      refine WH.tk 24 ?_; simp only [setL]
      refine WH.only 25 _ rfl (by kernel_rfl) rfl (fun K hK => ?_)
      go_simp; refine (works21_any C _).mono ?_; rintro e wd ⟨rfl, hbd⟩; go_simp
      have HE := Lib.hid (bt HE.out hbd)
      have hSn := And.intro (hSn.1.ext hbd) (hSn.2.below hbd); refine hK _ _ hSn ?_; clear hK; clear K; simp only [setL]
      refine WH.tk 26 ?_; simp only [setL]
      refine WH.tk 27 ?_; simp only [setL]
      refine WH.done (by kernel_rfl) ?_
      go_wp2_with fail
      go_ret
      exact ⟨rfl, bt E7.out HE.out⟩
    | some l =>
      obtain ⟨hl0, _, hlb⟩ := layW_is hlw
      have hmay := Lay14.may_iff.1 (layW_may hlw)
      have Hlv := Lib.hid (layV_some hlw)
      rw [Hlv.out] at HF7 HV7 Hb7
      have e13 : okSup (some l).isSome = 0 := rfl
      have e00 : (some l).isSome = true := rfl
      rw [e13, e00]
      rw [Hn.out] at hlb
      have h2n : 2 ≤ n := by omega
      have HCX := Lib.hid (fun w h => C.inode l f (bkV L) HTL.out i w h)
      have HRI := Lib.hid (fun i w h => rino21_any A n cap L Hn.out HL.out HM.out l i w h)
      have HRX := Lib.hid (HRI.out i)
      have HXL := Lib.hid (inoW_len L l i)
      have HCU := Lib.hid (fun w h => C.used l f (bkV L) HTL.out no w h)
      have HRU := Lib.hid (fun w h => rused_any A n cap L Hn.out HL.out HM.out h2n no hno w h)
      have HCM := Lib.hid (fun w h => C.image l f (bkV L) HTL.out w h)
      have HCN := Lib.hid (fun w h => C.inodes l f (bkV L) HTL.out w h)
      have HCB := Lib.hid (fun w h => C.block l f (bkV L) HTL.out no w h)
      have HBL := Lib.hid (bkV_len HL.out no)
      have HB0 := Lib.hid (fun h => bkV_off (L := L) (no := no) h)
      have HBI := Lib.hid (fun (q : Nat) (hq : q < L.length) (e : no = (q : Int)) => show bkV L no = L[q] by rw [e]; exact bkV_at hq)
      obtain ⟨N, HN⟩ : ∃ N : Nat, Hid (l.inodes = (N : Int)) := ⟨l.inodes.toNat, Lib.hid (by omega)⟩
      have HvN := Lib.hid (show vIn l = N by rw [vIn_on (layW_may hlw), HN.out]; rfl)
      have HN8 := Lib.hid (show N ≤ 128 by have := HN.out; omega)
      rw [vIno_is hlw] at HCX
      rw [vUse_is hlw] at HCU
      rw [vImg_is hlw] at HCM
      rw [vAll_is hlw, HvN.out] at HCN
      rw [vBk_is hlw] at HCB
      generalize inoW L l i = X at *
      generalize usedW L no = U at *
      generalize hBd : bkV L no = B at *
      have eU : (U != U) = false := by simp
      clear Hlv e13 hlw hl0 hmay HvN hBd
      go_wp2_with fail
      refine WH.start (S := fun w' : World => Blk w' g2 29 (vval l f) ∧ FV w' l f (bkV L) ∧ Blk w' g5 26 l.val) [false, false, false, false, false, false, false, false, false, false, false, false, false, false, false, false, false, false, false, false, false, false, false, false, false, false, false, false, false, false, false, false, false, false] 34 rfl rfl (by kernel_rfl) ⟨HV7.out.ext (bdrew w7 1), HF7.out.below (bdrew w7 1), Hb7.out.ext (bdrew w7 1)⟩ (fun hSn => ?_); obtain ⟨wS, hwS⟩ : ∃ x, (w7).drew = x := ⟨_, rfl⟩; have HE := Lib.hid (show Below (w7).heap.size (w7) wS from hwS ▸ bdrew w7 1); rw [hwS] at hSn ⊢; clear hwS
      refine WH.tk 0 ?_; simp only [setL]
      refine WH.tk 1 ?_; simp only [setL]
      refine WH.tk 2 ?_; simp only [setL]
      refine WH.tk 3 ?_; simp only [setL]
      refine WH.tv 4 rfl (fun w' hSw => exec_load_cells _ _ rfl ⟨g2, 0, none⟩ rfl _ Try.underlying26 (Lay14.val l).toList Try.laySize (vval_cells hSw.1)) ?_; simp only [setL]
      refine WH.tv 5 rfl (fun w' hSw => exec_load_blk _ _ rfl _ rfl _ _ (hSw.2.2) _ (Try.underlying26) rfl (Try.laySize)) ?_; simp only [setL]
      refine WH.tv 6 rfl (fun w' hSw => exec_eql_agg _ _ _ _ _ rfl (by kernel_rfl) _ _ rfl rfl _ (run_neq_lay_same l _)) ?_; simp only [setL]
      refine WH.tk 7 ?_; simp only [setL]
      refine WH.tk 8 ?_; simp only [setL]
      refine WH.tv 9 rfl (fun w' hSw => exec_load_blk _ _ rfl _ rfl _ _ (hSw.1) _ (Try.underlying29) rfl (Try.viewSize)) ?_; simp only [setL]
      refine WH.tk 10 ?_; simp only [setL]
      refine WH.tk 12 ?_; simp only [setL]
      refine WH.tv 13 rfl (fun w' hSw => exec_load_blk _ _ rfl _ rfl _ _ (hSw.2.2) _ (Try.underlying26) rfl (Try.laySize)) ?_; simp only [setL]
      refine WH.tk 14 ?_; simp only [setL]
      refine WH.only 11 _ rfl (by kernel_rfl) rfl (fun K hK => ?_)
      go_simp; refine (HCX.out _ hSn.2.1).mono ?_; rintro e wa ⟨rfl, hba⟩; go_simp
      have HE := Lib.hid (bt HE.out hba)
      have hSn := And.intro (hSn.1.ext hba) (And.intro (hSn.2.1.below hba) (hSn.2.2.ext hba)); refine hK _ _ hSn ?_; clear hK; clear K; simp only [setL]
      refine WH.only 15 _ rfl (by kernel_rfl) rfl (fun K hK => ?_)
      go_simp; refine (HRX.out _ (Hr.out.below (bt E7.out HE.out))).mono ?_; rintro e wb ⟨rfl, hbb⟩; go_simp
      have HE := Lib.hid (bt HE.out hbb)
      have hSn := And.intro (hSn.1.ext hbb) (And.intro (hSn.2.1.below hbb) (hSn.2.2.ext hbb)); refine hK _ _ hSn ?_; clear hK; clear K; simp only [setL]
      refine WH.tv 16 rfl (fun w' hSw => exec_eql_agg _ _ _ _ _ rfl (by kernel_rfl) _ _ rfl rfl _ (run_neq_ino_same HXL.out _)) ?_; simp only [setL]
      refine WH.tk 17 ?_; simp only [setL]
      refine WH.tk 18 ?_; simp only [setL]
      refine WH.tv 19 rfl (fun w' hSw => exec_load_blk _ _ rfl _ rfl _ _ (hSw.1) _ (Try.underlying29) rfl (Try.viewSize)) ?_; simp only [setL]
      refine WH.tk 20 ?_; simp only [setL]
      refine WH.tk 22 ?_; simp only [setL]
      refine WH.tk 23 ?_; simp only [setL]
      refine WH.only 21 _ rfl (by kernel_rfl) rfl (fun K hK => ?_)
      go_simp; refine (HCU.out _ hSn.2.1).mono ?_; rintro e wc ⟨rfl, hbc⟩; go_simp
      have HE := Lib.hid (bt HE.out hbc)
      have hSn := And.intro (hSn.1.ext hbc) (And.intro (hSn.2.1.below hbc) (hSn.2.2.ext hbc)); refine hK _ _ hSn ?_; clear hK; clear K; simp only [setL]
      refine WH.only 24 _ rfl (by kernel_rfl) rfl (fun K hK => ?_)
      go_simp; refine (HRU.out _ (Hr.out.below (bt E7.out HE.out))).mono ?_; rintro e wd ⟨rfl, rfl⟩; go_simp
      have hSn := hSn; refine hK _ _ hSn ?_; clear hK; clear K; simp only [setL]
      refine WH.tk 25 ?_; simp only [setL]
      refine WH.tk 26 ?_; simp only [setL]
      refine WH.tk 27 ?_; simp only [setL]
      refine WH.tv 28 rfl (fun w' hSw => exec_load_blk _ _ rfl _ rfl _ _ (hSw.1) _ (Try.underlying29) rfl (Try.viewSize)) ?_; simp only [setL]
      refine WH.tk 30 ?_; simp only [setL]
      refine WH.only 29 _ rfl (by kernel_rfl) rfl (fun K hK => ?_)
      go_simp; refine (HCM.out _ hSn.2.1).mono ?_; rintro e we ⟨ve, rfl, hve, hbe⟩; go_simp
      obtain ⟨Ae, ce, rfl, hce, hme, hre⟩ := hve.read
      have HRe := Lib.hid hre
      have HE := Lib.hid (bt HE.out hbe)
      clear hve hce hme hre
      rw [Hn.out]
      have hSn := And.intro (hSn.1.ext hbe) (And.intro (hSn.2.1.below hbe) (hSn.2.2.ext hbe)); refine hK _ _ hSn ?_; clear hK; clear K; simp only [setL]
      refine WH.only 31 _ rfl (by kernel_rfl) rfl (fun K hK => ?_)
      go_simp; refine (same21_any Ae n ce L Hn.out HL.out A n cap L Hn.out HL.out HM.out HM.out _ HRe.out (Hr.out.below (bt E7.out HE.out))).mono ?_; rintro e wf ⟨rfl, hbf⟩; go_simp
      have HE := Lib.hid (bt HE.out hbf)
      have hSn := And.intro (hSn.1.ext hbf) (And.intro (hSn.2.1.below hbf) (hSn.2.2.ext hbf)); refine hK _ _ hSn ?_; clear hK; clear K; simp only [setL]
      refine WH.tk 32 ?_; simp only [setL]
      refine WH.tk 33 ?_; simp only [setL]
      refine WH.done (by kernel_rfl) ?_
      have HV8 := Lib.hid hSn.1
      have HF8 := Lib.hid hSn.2.1
      have HG8 := Lib.hid hSn.2.2
      have E8 := Lib.hid (bt E7.out HE.out)
      have Zg := Lib.hid (show g2 < wf.heap.size ∧ g5 < wf.heap.size from ⟨HV8.out.lt, HG8.out.lt⟩)
      clear HE hSn HV7 HF7 Hb7 E7 hba hbb hbc hbe hbf HRe HCX HRX HCU HRU HCM eU
      generalize wf = w8 at *
      go_wp2_with fail
      go_loopw [11, 12] (fun u z wr => ∃ k : Nat, k ≤ N ∧ z = .int .i64 ((k : Int) + 1) ∧ Hid (Below w8.heap.size w8 wr) ∧ Hid (OwnC wr w8.heap.size 3 u (ivals (allW L l k)))) (fun _ z _ => N + 1 - (intOf z).toNat)
      case atStart => exact ⟨0, Nat.zero_le _, rfl, Lib.hid (Below.refl _ _), Lib.hid (OwnC.nil_ _ _ _)⟩
      case round =>
        obtain ⟨k, hk, rfl, D, HO⟩ := hrel
        have HGr := Lib.hid (HG8.out.ext D.out)
        have c1 : wr.cell? ⟨g5, 1, none⟩ = some (.int .i64 (N : Int)) := by rw [← HN.out]; exact HGr.out.cell 1
        by_cases hlt : k < N
        · have d1 : decide ((k : Int) + 1 ≤ (N : Int)) = true := by simp; omega
          have d2 : decide (k + 1 ≤ N) = true := by simp; omega
          have d3 : decide (k < N) = true := by simp; omega
          have HYL := Lib.hid (inoW_len L l ((k : Int) + 1))
          have HR1 := Lib.hid (fun w h => HRI.out ((k : Int) + 1) w h)
          have HNo := Lib.hid (allW_no (L := L) (l := l) (n := k))
          have HYes := Lib.hid (allW_yes (L := L) (l := l) (n := k))
          have HLn := Lib.hid (allW_len L l k)
          have HK := Lib.hid (show k ≤ 128 by have := HN8.out; omega)
          have hw1 : IntKind.i64.wrap ((k : Int) + 1 + 1) = (k : Int) + 1 + 1 := IntWalk.i64_in _ (by have := HK.out; omega)
          generalize inoW L l ((k : Int) + 1) = Y at *
          go_wp2_with (refine wpList_load_blk rfl _ _ rfl _ rfl _ _ HGr.out _ Try.underlying26 rfl Try.laySize ?_)
          refine (HR1.out _ (Hr.out.below (bt E8.out D.out))).mono ?_; rintro e w9 ⟨rfl, hb9⟩
          have D9 := Lib.hid (bt D.out hb9)
          have HO9 := Lib.hid (HO.out.ext hb9)
          have hf9 := run_field_kind HYL.out w9
          generalize fld Y 0 = q at *
          have Z9 := Lib.hid D9.out.size
          clear hb9 D HO HGr c1 HR1 HYL
          by_cases hq : q = 0
          · have HX := Lib.hid (HNo.out hq)
            have d4 : (q != 0) = false := by simpa using hq
            clear hq HNo HYes
            go_wp2_with (refine wpList_field rfl _ _ _ rfl _ _ rfl hf9 ?_)
            go_roundw
            case rel => exact ⟨k + 1, by omega, by go_num, D9, Lib.hid (by rw [HX.out]; exact HO9.out)⟩
            case measure => simp [intOf]; omega
          · have HX := Lib.hid (HYes.out hq)
            have d4 : (q != 0) = true := by simpa using hq
            have hl1 : (ivals (allW L l k)).length + 1 ≤ maxLen := by rw [ivals_len]; unfold maxLen; have := HLn.out; have := HK.out; omega
            have hl2 : ((ivals (allW L l k)).length + 1) * 8 ≤ 140737488355328 := by rw [ivals_len]; have := HLn.out; have := HK.out; omega
            clear hq HNo HYes
            go_wp2_with (first | refine wpList_field rfl _ _ _ rfl _ _ rfl hf9 ?_ | (at_builtin; refine wpList_append_one rfl _ _ _ _ rfl Try.underlying37 (.int .i64 0) 8 Try.intInfo rfl w8.heap.size _ _ rfl HO9.out (.int .i64 ((k : Int) + 1)) rfl rfl Z9.out hl1 hl2 ?_))
            apply Stop.go
            intro v' wx Hv' Ha'
            have HOx := Lib.hid (show OwnC wx w8.heap.size 3 v' (ivals (allW L l (k + 1))) by rw [HX.out, ← ivals_snoc]; exact Hv'.out)
            have Dx := Lib.hid (D9.out.trans Ha'.out.below)
            clear Hv' Ha' HO9 D9 hl1 hl2 HLn hf9
            go_wp2_with fail
            go_roundw
            case rel => exact ⟨k + 1, by omega, by go_num, Dx, HOx⟩
            case measure => simp [intOf]; omega
        · obtain rfl : k = N := by omega
          have d1 : decide ((k : Int) + 1 ≤ (k : Int)) = false := decide_eq_false (by omega)
          clear HRI hlt
          go_wp2_with (first | refine wpList_build_zero rfl _ rfl _ Try.blockZero _ _ Try.underlying49 Try.byteSize ?_ | refine wpList_alloc_row rfl _ rfl _ Try.blockZero ?_)
          apply Stop.go; intro wa Hga Hba
          go_wp2_with (refine wpList_store_arr rfl _ _ _ rfl _ _ rfl rfl _ _ Hba.out (Try.blockFits HzL.out) rfl (oneCell_bcells _) ?_)
          apply Stop.go; intro wb Hob Hbb
          obtain ⟨A2, c2, rfl, hc2, hm2, hr2⟩ := HO.out.ints
          have Db := Lib.hid (bonly Hga.out.1 Hob.out (Nat.le_refl _))
          have HR2 := Lib.hid (hr2.below Db.out)
          have hr3 : ∀ wq, Only wb wq wr.heap.size → RC wq A2 (ivals (allW L l k)) := fun wq h => hr2.below (bonly Db.out h (Nat.le_refl _))
          have Dc := Lib.hid (bt D.out Db.out)
          have Zb := Lib.hid (show w8.heap.size ≤ wr.heap.size from D.out.size)
          have HLm := Lib.hid (show (allW L l k).length ≤ maxLen by have := allW_len L l k; have := HN8.out; unfold maxLen; omega)
          generalize allW L l k = al at *
          generalize wr.heap.size = g9 at *
          clear HO hc2 hm2 hr2 Hga Hba Hob D HGr c1 Db d1
          by_cases h0 : 0 ≤ no
          rotate_left
          focus (
            have d2 : decide (0 ≤ no) = false := decide_eq_false h0
            have HW : Hid (Blk wb g9 49 (bcells B)) := Lib.hid (by rw [HB0.out (by omega)]; exact Hbb.out)
            clear h0 Hbb HB0 HBI
            go_wp2_with fail
            clear d2
            generalize wb = wq at *)
          rotate_left
          by_cases h1 : no < (n : Int)
          rotate_left
          focus (
            have d2 : decide (0 ≤ no) = true := decide_eq_true h0
            have d3 : decide (no < (n : Int)) = false := decide_eq_false h1
            have HW : Hid (Blk wb g9 49 (bcells B)) := Lib.hid (by rw [HB0.out (by rw [Hn.out]; omega)]; exact Hbb.out)
            clear h0 h1 Hbb HB0 HBI
            go_wp2_with fail
            clear d2 d3
            generalize wb = wq at *)
          rotate_left 2
          focus (
            have d2 : decide (0 ≤ no) = true := decide_eq_true h0
            have d3 : decide (no < (n : Int)) = true := decide_eq_true h1
            obtain ⟨q, hq⟩ := Int.eq_ofNat_of_zero_le h0
            have hqL : q < L.length := by rw [Hn.out]; omega
            have HBq := Lib.hid (HBI.out q hqL hq)
            obtain ⟨ad, rfl⟩ := Hr.out.addr (by omega)
            have HRb := Lib.hid (Hr.out.below (bt E8.out Dc.out))
            subst hq
            clear h0 HB0 HBI
            go_wp2_with (first | refine wpList_load_bk rfl _ _ rfl ad q rfl L HL.out hqL HRb.out _ Try.underlying48 rfl Try.arr256Size ?_ | (rw [← HBq.out]; refine wpList_store_arr rfl _ _ _ rfl _ _ rfl rfl _ _ Hbb.out (Try.blockFits HBL.out) (by rw [bcells_size, bcells_size, HBL.out, HzL.out]) (oneCell_bcells _) ?_))
            apply Stop.go; intro wq Hoq HW
            have Dq := Lib.hid (bonly Dc.out Hoq.out Zb.out)
            have HR2 := Lib.hid (hr3 _ Hoq.out)
            clear Hbb Hoq Dc HRb
            have Dc : Hid (Below w8.heap.size w8 wq) := Dq
            clear d2 d3 Dq
            go_wp2_with fail)
          all_goals
            have HVq := Lib.hid (HV8.out.ext Dc.out)
            have HFq := Lib.hid (HF8.out.below Dc.out)
            have Eq_ := Lib.hid (bt E8.out Dc.out)
            refine WH.start (S := fun w' : World => Blk w' g2 29 (vval l f) ∧ FV w' l f (bkV L) ∧ Blk w' g9 49 (bcells B)) [false, false, false, false, false, false, false, false, false, false, false, false, false, false, false] 15 rfl rfl (by kernel_rfl) ⟨HVq.out.ext (bdrew wq 1), HFq.out.below (bdrew wq 1), HW.out.ext (bdrew wq 1)⟩ (fun hSn => ?_); obtain ⟨wS, hwS⟩ : ∃ x, (wq).drew = x := ⟨_, rfl⟩; have HE := Lib.hid (show Below (wq).heap.size (wq) wS from hwS ▸ bdrew wq 1); rw [hwS] at hSn ⊢; clear hwS
            refine WH.tv 0 rfl (fun w' hSw => exec_load_blk _ _ rfl _ rfl _ _ (hSw.1) _ (Try.underlying29) rfl (Try.viewSize)) ?_; simp only [setL]
            refine WH.tk 2 ?_; simp only [setL]
            refine WH.only 1 _ rfl (by kernel_rfl) rfl (fun K hK => ?_)
            go_simp; refine (HCN.out _ hSn.2.1).mono ?_; rintro e wa ⟨va, rfl, hva, hba⟩; go_simp
            obtain ⟨Aa, ca, rfl, hca, hma, hra⟩ := hva.ints
            have HRa := Lib.hid hra
            have HE := Lib.hid (bt HE.out hba)
            clear hva hca hma hra
            have hSn := And.intro (hSn.1.ext hba) (And.intro (hSn.2.1.below hba) (hSn.2.2.ext hba)); refine hK _ _ hSn ?_; clear hK; clear K; simp only [setL]
            refine WH.only 3 _ rfl (by kernel_rfl) rfl (fun K hK => ?_)
            go_simp; refine (ints_any Aa al.length ca al rfl A2 al.length c2 al rfl HLm.out HLm.out _ HRa.out (HR2.out.below HE.out)).mono ?_; rintro e wc ⟨rfl, m, rfl⟩; go_simp
            have hbe := bdrew wa m
            obtain ⟨we, hwe⟩ : ∃ y, wa.drewN m = y := ⟨_, rfl⟩
            rw [hwe] at hbe ⊢
            have HE := Lib.hid (bt HE.out hbe)
            clear hwe
            have hSn := And.intro (hSn.1.ext hbe) (And.intro (hSn.2.1.below hbe) (hSn.2.2.ext hbe)); refine hK _ _ hSn ?_; clear hK; clear K; simp only [setL]
            refine WH.tk 4 ?_; simp only [setL]
            refine WH.tv 5 rfl (fun w' hSw => exec_load_blk _ _ rfl _ rfl _ _ (hSw.1) _ (Try.underlying29) rfl (Try.viewSize)) ?_; simp only [setL]
            refine WH.tk 6 ?_; simp only [setL]
            refine WH.tv 8 rfl (fun w' hSw => exec_load_blk _ _ rfl _ rfl _ _ (hSw.2.2) _ (Try.underlying49) rfl (Try.blockFits HBL.out)) ?_; simp only [setL]
            refine WH.only 7 _ rfl (by kernel_rfl) rfl (fun K hK => ?_)
            go_simp; refine (HCB.out _ hSn.2.1).mono ?_; rintro e wf ⟨rfl, hbf⟩; go_simp
            have HE := Lib.hid (bt HE.out hbf)
            have hSn := And.intro (hSn.1.ext hbf) (And.intro (hSn.2.1.below hbf) (hSn.2.2.ext hbf)); refine hK _ _ hSn ?_; clear hK; clear K; simp only [setL]
            refine WH.tv 9 rfl (fun w' hSw => exec_eql_arr _ _ _ _ rfl (by kernel_rfl) _ _ Try.underlying49 Try.underlying5 Try.byteSize B B rfl rfl HBL.out HBL.out true (beq_self_eq_true _)) ?_; simp only [setL]
            refine WH.tk 10 ?_; simp only [setL]
            refine WH.tk 11 ?_; simp only [setL]
            refine WH.only 12 _ rfl (by kernel_rfl) rfl (fun K hK => ?_)
            go_simp; refine (works21_any C _).mono ?_; rintro e wz ⟨rfl, hbz⟩; go_simp
            have HE := Lib.hid (bt HE.out hbz)
            have hSn := And.intro (hSn.1.ext hbz) (And.intro (hSn.2.1.below hbz) (hSn.2.2.ext hbz)); refine hK _ _ hSn ?_; clear hK; clear K; simp only [setL]
            refine WH.tk 13 ?_; simp only [setL]
            refine WH.tk 14 ?_; simp only [setL]
            refine WH.done (by kernel_rfl) ?_
            go_wp2_with fail
            go_ret
            exact ⟨rfl, bt Eq_.out HE.out⟩

end Go.Proofs.Ytpdeohmgjblkeaa
