/-
  Layer 21: the walk of ViewBack.
-/
import Derived.Test.YtpdeohmgjblkeaaLaw21w
namespace Go.Proofs.Ytpdeohmgjblkeaa
open Go.RowKit
set_option maxRecDepth 10000

set_option maxHeartbeats 3200000 in
theorem viewBack_any (C : VC) (A : Option Addr) (n cap : Nat) (L : List (List UInt8)) (hn : L.length = n) (hL : Bks L) (hm : n ≤ maxLen) (i : Int) (w : World) (hr : RK w A L) :
    Calls Try.prog 5 #[.slice A n cap, .int .i64 i] w fun e w' => e = .returned (.bool true) ∧ Below w.heap.size w w' := by
  unfold maxLen at hm
  have Hn := Lib.hid hn
  have Hr := Lib.hid hr
  have HL := Lib.hid hL
  clear hn hr hL
  by_cases hbig : 60 < n
  · have d0 : decide ((60 : Int) < (n : Int)) = true := by simp; omega
    clear hbig
    go_enter Try.func5, Try.ntmps5
    go_wp2_with fail
    refine (works21_any C _).mono ?_; rintro e w1 ⟨rfl, hb1⟩
    go_wp2_with fail
    go_ret
    exact ⟨rfl, hb1⟩
  · have d0 : decide ((60 : Int) < (n : Int)) = false := by simp; omega
    have hn6 : n ≤ 60 := by omega
    have HM := Lib.hid (show n ≤ maxLen by unfold maxLen; omega)
    have HTL := Lib.hid (fun no => bkV_len HL.out no)
    have HT := Lib.hid (fun (w : World) h => to21_any A n cap L Hn.out HL.out (by omega) w h)
    have HC1 := Lib.hid (fun A c w h => C.of_ A n c L Hn.out HL.out (by omega) w h)
    clear hbig
    go_enter Try.func5, Try.ntmps5
    go_wp2_with fail
    refine (HT.out _ Hr.out).mono ?_; rintro e w1 ⟨v1, rfl, hv1, hb1⟩
    obtain ⟨A1, c1, rfl, hc1, hm1, hr1⟩ := hv1.read
    rw [Hn.out]
    have HR1 := Lib.hid hr1
    have E1 := Lib.hid hb1
    clear hv1 hc1 hm1 hr1 hb1 HT
    go_wp2_with fail
    refine (HC1.out A1 c1 _ HR1.out).mono ?_; rintro e w2 ⟨f, rfl, hb2, hf2⟩
    have HF2 := Lib.hid hf2
    have E2 := Lib.hid (bt E1.out hb2)
    clear hb2 hf2 HR1 E1
    go_wp2_with (refine wpList_alloc_row rfl _ rfl _ Try.viewZero ?_)
    apply Stop.go; intro w3 Hg3 Hb3
    go_wp2_with (refine wpList_store_arr rfl _ _ _ rfl _ (vval (layV L) f) rfl rfl _ _ Hb3.out Try.viewSize rfl (FV.one HF2.out) ?_)
    apply Stop.go; intro w4 Ho4 Hb4
    have D4 := Lib.hid (bonly Hg3.out.1 Ho4.out (Nat.le_refl _))
    have HF4 := Lib.hid (HF2.out.below D4.out)
    have E4 := Lib.hid (bt E2.out D4.out)
    generalize w2.heap.size = g2 at *
    clear Hg3 Hb3 Ho4 D4 HF2 E2
    cases hlw : layW L with
    | none =>
      have e13 : okSup (none : Option Lay14).isSome = 13 := rfl
      rw [e13]
      clear e13 HC1
      go_wp2_with fail
      refine (works21_any C _).mono ?_; rintro e w5 ⟨rfl, hb5⟩
      go_wp2_with fail
      go_ret
      exact ⟨rfl, bt E4.out hb5⟩
    | some l =>
      have Hlv := Lib.hid (layV_some hlw)
      have e13 : okSup (some l).isSome = 0 := rfl
      rw [hlw, e13, Hlv.out] at HC1
      rw [Hlv.out] at HF4 Hb4
      rw [e13]
      have HCX := Lib.hid (fun f w h => C.inode l f (bkV L) HTL.out i w h)
      have HXL := Lib.hid (vIno_len l (bkV L) i)
      have HCM := Lib.hid (fun f w h => C.image l f (bkV L) HTL.out w h)
      rw [vImg_is hlw] at HCM
      have HCN := Lib.hid (fun f w h => C.inodes l f (bkV L) HTL.out w h)
      have HNm := Lib.hid (show (vAll l (bkV L) (vIn l)).length ≤ maxLen by have := vAll_len l (bkV L) (vIn l); have := vIn_le l; unfold maxLen; omega)
      generalize vAll l (bkV L) (vIn l) = al at *
      generalize vIno l (bkV L) i = X at *
      clear e13 hlw
      go_wp2_with (refine wpList_load_blk rfl _ _ rfl _ rfl _ _ Hb4.out _ Try.underlying29 rfl Try.viewSize ?_)
      refine (HCM.out f _ HF4.out).mono ?_; rintro e w5 ⟨v5, rfl, hv5, hb5⟩
      obtain ⟨A5, c5, rfl, hc5, hm5, hr5⟩ := hv5.read
      rw [Hn.out]
      have HR5 := Lib.hid hr5
      have HV5 := Lib.hid (Hb4.out.ext hb5)
      have HF5 := Lib.hid (HF4.out.below hb5)
      have E5 := Lib.hid (bt E4.out hb5)
      clear hv5 hc5 hm5 hr5 hb5 Hb4 HF4 E4
      go_wp2_with fail
      refine (HC1.out A5 c5 _ HR5.out).mono ?_; rintro e w6 ⟨f6, rfl, hb6, hf6⟩
      have HK6 := Lib.hid hf6
      have HV6 := Lib.hid (HV5.out.ext hb6)
      have HF6 := Lib.hid (HF5.out.below hb6)
      have E6 := Lib.hid (bt E5.out hb6)
      clear hb6 hf6 HR5 HV5 HF5 E5 HC1
      go_wp2_with (refine wpList_alloc_row rfl _ rfl _ Try.viewZero ?_)
      apply Stop.go; intro w7 Hg7 Hb7
      go_wp2_with (refine wpList_store_arr rfl _ _ _ rfl _ (vval l f6) rfl rfl _ _ Hb7.out Try.viewSize rfl (FV.one HK6.out) ?_)
      apply Stop.go; intro w8 Ho8 Hb8
      have D8 := Lib.hid (bonly Hg7.out.1 Ho8.out (Nat.le_refl _))
      have HK8 := Lib.hid (HK6.out.below D8.out)
      have HV8 := Lib.hid (HV6.out.ext D8.out)
      have HF8 := Lib.hid (HF6.out.below D8.out)
      have E8 := Lib.hid (bt E6.out D8.out)
      generalize w6.heap.size = g7 at *
      clear Hg7 Hb7 Ho8 D8 HK6 HV6 HF6 E6
      go_wp2_with fail
      refine WH.start (S := fun w' : World => Blk w' g2 29 (vval l f) ∧ FV w' l f (bkV L) ∧ Blk w' g7 29 (vval l f6) ∧ FV w' l f6 (bkV L)) [false, false, false, false, false, false, false, false, false, false, false, false, false, false, false, false, false, false, false, false, false, false, false, false, false, false, false, false, false, false, false, false, false, false, false] 35 rfl rfl (by kernel_rfl) ⟨HV8.out.ext (bdrew w8 1), HF8.out.below (bdrew w8 1), Hb8.out.ext (bdrew w8 1), HK8.out.below (bdrew w8 1)⟩ (fun hSn => ?_); obtain ⟨wS, hwS⟩ : ∃ x, (w8).drew = x := ⟨_, rfl⟩; have HE := Lib.hid (show Below (w8).heap.size (w8) wS from hwS ▸ bdrew w8 1); rw [hwS] at hSn ⊢; clear hwS
      refine WH.tk 0 ?_; simp only [setL]
      refine WH.tk 1 ?_; simp only [setL]
      refine WH.tk 2 ?_; simp only [setL]
      refine WH.tk 3 ?_; simp only [setL]
      refine WH.tv 4 rfl (fun w' hSw => exec_load_cells _ _ rfl ⟨g7, 0, none⟩ rfl _ Try.underlying26 (Lay14.val l).toList Try.laySize (vval_cells hSw.2.2.1)) ?_; simp only [setL]
      refine WH.tk 5 ?_; simp only [setL]
      refine WH.tv 6 rfl (fun w' hSw => exec_load_cells _ _ rfl ⟨g2, 0, none⟩ rfl _ Try.underlying26 (Lay14.val l).toList Try.laySize (vval_cells hSw.1)) ?_; simp only [setL]
      refine WH.tv 7 rfl (fun w' hSw => exec_eql_agg _ _ _ _ _ rfl (by kernel_rfl) _ _ rfl rfl _ (run_eql_lay_same l _)) ?_; simp only [setL]
      refine WH.tk 8 ?_; simp only [setL]
      refine WH.tk 9 ?_; simp only [setL]
      refine WH.tv 10 rfl (fun w' hSw => exec_load_blk _ _ rfl _ rfl _ _ (hSw.2.2.1) _ (Try.underlying29) rfl (Try.viewSize)) ?_; simp only [setL]
      refine WH.tk 12 ?_; simp only [setL]
      refine WH.only 11 _ rfl (by kernel_rfl) rfl (fun K hK => ?_)
      go_simp; refine (HCM.out f6 _ hSn.2.2.2).mono ?_; rintro e wa ⟨va, rfl, hva, hba⟩; go_simp
      obtain ⟨Aa, ca, rfl, hca, hma, hra⟩ := hva.read
      have HRa := Lib.hid hra
      have HE := Lib.hid (bt HE.out hba)
      clear hva hca hma hra
      rw [Hn.out]
      have hSn := And.intro (hSn.1.ext hba) (And.intro (hSn.2.1.below hba) (And.intro (hSn.2.2.1.ext hba) (hSn.2.2.2.below hba))); refine hK _ _ hSn ?_; clear hK; clear K; simp only [setL]
      refine WH.only 13 _ rfl (by kernel_rfl) rfl (fun K hK => ?_)
      go_simp; refine (same21_any Aa n ca L Hn.out HL.out A n cap L Hn.out HL.out HM.out HM.out _ HRa.out (Hr.out.below (bt E8.out HE.out))).mono ?_; rintro e wb ⟨rfl, hbb⟩; go_simp
      have HE := Lib.hid (bt HE.out hbb)
      have hSn := And.intro (hSn.1.ext hbb) (And.intro (hSn.2.1.below hbb) (And.intro (hSn.2.2.1.ext hbb) (hSn.2.2.2.below hbb))); refine hK _ _ hSn ?_; clear hK; clear K; simp only [setL]
      refine WH.tk 14 ?_; simp only [setL]
      refine WH.tk 15 ?_; simp only [setL]
      refine WH.tv 16 rfl (fun w' hSw => exec_load_blk _ _ rfl _ rfl _ _ (hSw.2.2.1) _ (Try.underlying29) rfl (Try.viewSize)) ?_; simp only [setL]
      refine WH.tk 17 ?_; simp only [setL]
      refine WH.tv 19 rfl (fun w' hSw => exec_load_blk _ _ rfl _ rfl _ _ (hSw.1) _ (Try.underlying29) rfl (Try.viewSize)) ?_; simp only [setL]
      refine WH.tk 20 ?_; simp only [setL]
      refine WH.only 18 _ rfl (by kernel_rfl) rfl (fun K hK => ?_)
      go_simp; refine (HCX.out f6 _ hSn.2.2.2).mono ?_; rintro e wc ⟨rfl, hbc⟩; go_simp
      have HE := Lib.hid (bt HE.out hbc)
      have hSn := And.intro (hSn.1.ext hbc) (And.intro (hSn.2.1.below hbc) (And.intro (hSn.2.2.1.ext hbc) (hSn.2.2.2.below hbc))); refine hK _ _ hSn ?_; clear hK; clear K; simp only [setL]
      refine WH.only 21 _ rfl (by kernel_rfl) rfl (fun K hK => ?_)
      go_simp; refine (HCX.out f _ hSn.2.1).mono ?_; rintro e wd ⟨rfl, hbd⟩; go_simp
      have HE := Lib.hid (bt HE.out hbd)
      have hSn := And.intro (hSn.1.ext hbd) (And.intro (hSn.2.1.below hbd) (And.intro (hSn.2.2.1.ext hbd) (hSn.2.2.2.below hbd))); refine hK _ _ hSn ?_; clear hK; clear K; simp only [setL]
      refine WH.tv 22 rfl (fun w' hSw => exec_eql_agg _ _ _ _ _ rfl (by kernel_rfl) _ _ rfl rfl _ (run_eql_ino_same HXL.out _)) ?_; simp only [setL]
      refine WH.tk 23 ?_; simp only [setL]
      refine WH.tk 24 ?_; simp only [setL]
      refine WH.tv 25 rfl (fun w' hSw => exec_load_blk _ _ rfl _ rfl _ _ (hSw.2.2.1) _ (Try.underlying29) rfl (Try.viewSize)) ?_; simp only [setL]
      refine WH.tv 27 rfl (fun w' hSw => exec_load_blk _ _ rfl _ rfl _ _ (hSw.1) _ (Try.underlying29) rfl (Try.viewSize)) ?_; simp only [setL]
      refine WH.only 26 _ rfl (by kernel_rfl) rfl (fun K hK => ?_)
      go_simp; refine (HCN.out f6 _ hSn.2.2.2).mono ?_; rintro e we ⟨ve, rfl, hve, hbe⟩; go_simp
      obtain ⟨Ae, ce, rfl, hce, hme, hre⟩ := hve.ints
      have HRe := Lib.hid hre
      have HE := Lib.hid (bt HE.out hbe)
      clear hve hce hme hre
      have hSn := And.intro (hSn.1.ext hbe) (And.intro (hSn.2.1.below hbe) (And.intro (hSn.2.2.1.ext hbe) (hSn.2.2.2.below hbe))); refine hK _ _ hSn ?_; clear hK; clear K; simp only [setL]
      refine WH.only 28 _ rfl (by kernel_rfl) rfl (fun K hK => ?_)
      go_simp; refine (HCN.out f _ hSn.2.1).mono ?_; rintro e wf ⟨vf, rfl, hvf, hbf⟩; go_simp
      obtain ⟨Af, cf, rfl, hcf, hmf, hrf⟩ := hvf.ints
      have HRf := Lib.hid hrf
      have HRe := Lib.hid (HRe.out.below hbf)
      have HE := Lib.hid (bt HE.out hbf)
      clear hvf hcf hmf hrf
      have hSn := And.intro (hSn.1.ext hbf) (And.intro (hSn.2.1.below hbf) (And.intro (hSn.2.2.1.ext hbf) (hSn.2.2.2.below hbf))); refine hK _ _ hSn ?_; clear hK; clear K; simp only [setL]
      refine WH.only 29 _ rfl (by kernel_rfl) rfl (fun K hK => ?_)
      go_simp; refine (ints_any Ae al.length ce al rfl Af al.length cf al rfl HNm.out HNm.out _ HRe.out HRf.out).mono ?_; rintro e wg ⟨rfl, m, rfl⟩; go_simp
      have hbh := bdrew wf m
      obtain ⟨wh, hwh⟩ : ∃ y, wf.drewN m = y := ⟨_, rfl⟩
      rw [hwh] at hbh ⊢
      have HE := Lib.hid (bt HE.out hbh)
      clear hwh
      have hSn := And.intro (hSn.1.ext hbh) (And.intro (hSn.2.1.below hbh) (And.intro (hSn.2.2.1.ext hbh) (hSn.2.2.2.below hbh))); refine hK _ _ hSn ?_; clear hK; clear K; simp only [setL]
      refine WH.tk 30 ?_; simp only [setL]
      refine WH.tk 31 ?_; simp only [setL]
      refine WH.only 32 _ rfl (by kernel_rfl) rfl (fun K hK => ?_)
      go_simp; refine (works21_any C _).mono ?_; rintro e wz ⟨rfl, hbz⟩; go_simp
      have HE := Lib.hid (bt HE.out hbz)
      have hSn := And.intro (hSn.1.ext hbz) (And.intro (hSn.2.1.below hbz) (And.intro (hSn.2.2.1.ext hbz) (hSn.2.2.2.below hbz))); refine hK _ _ hSn ?_; clear hK; clear K; simp only [setL]
      refine WH.tk 33 ?_; simp only [setL]
      refine WH.tk 34 ?_; simp only [setL]
      refine WH.done (by kernel_rfl) ?_
      go_wp2_with fail
      go_ret
      exact ⟨rfl, bt E8.out HE.out⟩

end Go.Proofs.Ytpdeohmgjblkeaa
