/-
  Layer 24: the walk of DreadLooks.
-/
import Derived.Test.YtbajicgpjggkfaaGreatLaw24w
import Derived.Test.YtbajicgpjggkfaaGreatRef24
import Derived.Test.YtbajicgpjggkfaaGreatFmpC
namespace Go.Proofs.YtbajicgpjggkfaaGreat
open Go.RowKit
set_option maxRecDepth 10000

theorem run_eql_pq_same (x : List Int) (hx : x.length = 3) (w : World) : (binOp .eql 45 (.agg (icells x)) (.agg (icells x))).run Tryz.prog w = .ok (.bool true) w := by
  obtain ⟨a, b, c, rfl⟩ := list_three hx
  show (binOp .eql 45 (.agg #[.int .i64 a, .int .i64 b, .int .i64 c]) (.agg #[.int .i64 a, .int .i64 b, .int .i64 c])).run Tryz.prog w = _
  go_simp
set_option maxHeartbeats 6400000 in
theorem dreadLooks_any (A : Option Addr) (n cap : Nat) (L : List (List UInt8)) (hn : L.length = n) (hL : Bks L) (hm : n ≤ maxLen) (i : Int) (s : ByteArray) (hs : s.size ≤ maxLen) (w : World) (hr : RK w A L) :
    Calls Tryz.prog 3 #[.slice A n cap, .int .i64 i, .string s] w fun e w' => e = .returned (.bool true) ∧ Below w.heap.size w w' := by
  unfold maxLen at hm
  have Hn := Lib.hid hn
  have Hr := Lib.hid hr
  have HL := Lib.hid hL
  have Hs := Lib.hid hs
  have HfL : Hid (freeI.length = 11) := Lib.hid rfl
  have Hz := Lib.hid (show ([0, 0, 0] : List Int).length = 3 from rfl)
  have hw := fun w => works24_any w
  clear hn hr hL
  by_cases hbig : 60 < n
  · have d0 : decide ((60 : Int) < (n : Int)) = true := by simp; omega
    clear hbig
    go_enter Tryz.func3, Tryz.ntmps3
    go_wp2_with fail
    refine (hw _).mono ?_; rintro e w1 ⟨rfl, hb1⟩
    go_wp2_with fail
    go_ret
    exact ⟨rfl, hb1⟩
  have d0 : decide ((60 : Int) < (n : Int)) = false := by simp; omega
  by_cases hbs : 60 < s.size
  · have d1 : decide ((60 : Int) < (s.size : Int)) = true := by simp; omega
    clear hbig hbs
    go_enter Tryz.func3, Tryz.ntmps3
    go_wp2_with fail
    refine (hw _).mono ?_; rintro e w1 ⟨rfl, hb1⟩
    go_wp2_with fail
    go_ret
    exact ⟨rfl, hb1⟩
  · have d1 : decide ((60 : Int) < (s.size : Int)) = false := by simp; omega
    have hn6 : n ≤ 60 := by omega
    have HM := Lib.hid (show n ≤ maxLen by unfold maxLen; omega)
    have HTL := Lib.hid (fun no => bkV_len HL.out no)
    have HT := Lib.hid (fun (w : World) h => to21_any A n cap L Hn.out HL.out (by omega) w h)
    have HC1 := Lib.hid (fun A c w h => vof_any A n c L Hn.out HL.out (by omega) w h)
    have HLy := Lib.hid (fun w h => rlayout_any A n cap L Hn.out HL.out HM.out w h)
    clear hbig hbs
    go_enter Tryz.func3, Tryz.ntmps3
    go_wp2_with fail
    refine (HT.out _ Hr.out).mono ?_; rintro e w1 ⟨v1, rfl, hv1, hb1⟩
    obtain ⟨A1, c1, rfl, hc1, hm1, hr1⟩ := hv1.read
    rw [Hn.out]
    have HR1 := Lib.hid hr1
    have E1 := Lib.hid hb1
    clear hv1 hc1 hm1 hr1 hb1 HT
    go_wp2_with fail
    refine (HC1.out A1 c1 _ HR1.out).mono ?_; rintro e w2 ⟨f, rfl, hb2, hf2⟩
    have HF2 := Lib.hid hf2
    have E2 := Lib.hid (bt E1.out hb2)
    clear hb2 hf2 HR1 E1 HC1
    go_wp2_with (refine wpList_alloc_row rfl _ rfl _ Tryz.viewZero ?_)
    apply Stop.go; intro w3 Hg3 Hb3
    go_wp2_with (refine wpList_store_arr rfl _ _ _ rfl _ (vval (layV L) f) rfl rfl _ _ Hb3.out Tryz.viewSize rfl (FV.one HF2.out) ?_)
    apply Stop.go; intro w4 Ho4 Hb4
    have D4 := Lib.hid (bonly Hg3.out.1 Ho4.out (Nat.le_refl _))
    have HF4 := Lib.hid (HF2.out.below D4.out)
    have E4 := Lib.hid (bt E2.out D4.out)
    generalize w2.heap.size = g2 at *
    clear Hg3 Hb3 Ho4 D4 HF2 E2
    go_wp2_with fail
    refine (HLy.out _ (Hr.out.below E4.out)).mono ?_; rintro e w5 ⟨rfl, hb5⟩
    have HF5 := Lib.hid (HF4.out.below hb5)
    have HV5 := Lib.hid (Hb4.out.ext hb5)
    have E5 := Lib.hid (bt E4.out hb5)
    clear hb5 HF4 Hb4 E4 HLy
    go_wp2_with (refine wpList_alloc_row rfl _ rfl _ Tryz.layZero ?_)
    apply Stop.go; intro w6 Hg6 Hb6
    go_wp2_with (refine wpList_store_arr rfl _ _ _ rfl _ (layV L).val rfl rfl _ _ Hb6.out Tryz.laySize rfl (val_one _) ?_)
    apply Stop.go; intro w7 Ho7 Hb7
    have D7 := Lib.hid (bonly Hg6.out.1 Ho7.out (Nat.le_refl _))
    have HF7 := Lib.hid (HF5.out.below D7.out)
    have HV7 := Lib.hid (HV5.out.ext D7.out)
    have E7 := Lib.hid (bt E5.out D7.out)
    generalize w5.heap.size = g5 at *
    clear Hg6 Hb6 Ho7 D7 HF5 HV5 E5
    cases hlw : layW L with
    | none =>
      have e13 : okSup (none : Option Lay14).isSome = 13 := rfl
      have e00 : (none : Option Lay14).isSome = false := rfl
      rw [e13, e00]
      clear e13 e00 hlw HF7 HV7 Hb7
      go_wp2_with fail
      refine (hw _).mono ?_; rintro e w8 ⟨rfl, hb8⟩
      go_wp2_with fail
      go_ret
      exact ⟨rfl, bt E7.out hb8⟩
    | some l =>
      have Hlw := Lib.hid hlw
      have Hlv := Lib.hid (layV_some hlw)
      rw [Hlv.out] at HF7 HV7 Hb7
      have e13 : okSup (some l).isSome = 0 := rfl
      have e00 : (some l).isSome = true := rfl
      rw [e13, e00]
      obtain ⟨X, HX⟩ : ∃ X, Hid (vIno l (bkV L) i = X) := ⟨_, Lib.hid rfl⟩
      have HXL := Lib.hid (show X.length = 11 by rw [← HX.out]; exact vIno_len _ _ _)
      have HXi := Lib.hid (show In64 X by rw [← HX.out]; exact vIno_in _ _ _)
      have HX2 := Lib.hid (show ∀ z ∈ X, z < 9223372036854775808 from fun z h => (HXi.out z h).2)
      have HCN := Lib.hid (fun w h => vinode_any l f (bkV L) HTL.out i w h)
      rw [HX.out] at HCN
      have HLk := Lib.hid (fun w h => dlookup_any l f (bkV L) HTL.out X HXL.out s Hs.out w h)
      have HRl := Lib.hid (fun w h => rlook24_any A n cap L Hn.out HL.out HM.out l Hlw.out X HXL.out HX2.out s Hs.out w h)
      have HRo := Lib.hid (fun w h => dRoute_any l f (bkV L) HTL.out X HXL.out s Hs.out w h)
      have HRr := Lib.hid (fun w h => rroute_any A n cap L Hn.out HL.out HM.out l Hlw.out X HXL.out HX2.out s Hs.out w h)
      have H3 := Lib.hid (lkD_len l (bkV L) X s)
      generalize orZ (lkD l (bkV L) X s) = lp at *
      generalize (lkD l (bkV L) X s).isSome = lb at *
      generalize rouP l (bkV L) X s = rp at *
      generalize rouN l (bkV L) X s = rn at *
      generalize isF l (bkV L) X = rb at *
      clear Hlv e13 hlw HX
      go_wp2_with (refine wpList_load_blk rfl _ _ rfl _ rfl _ _ HV7.out _ Tryz.underlying29 rfl Tryz.viewSize ?_)
      refine (HCN.out _ HF7.out).mono ?_; rintro e w8 ⟨rfl, hb8⟩
      have HF8 := Lib.hid (HF7.out.below hb8)
      have HV8 := Lib.hid (HV7.out.ext hb8)
      have HL8 := Lib.hid (Hb7.out.ext hb8)
      have E8 := Lib.hid (bt E7.out hb8)
      clear hb8 HF7 HV7 Hb7 E7 HCN
      go_wp2_with (refine wpList_alloc_row rfl _ rfl _ Tryz.inoZero ?_)
      apply Stop.go; intro w9 Hg9 Hb9
      go_wp2_with (refine wpList_store_arr rfl _ _ _ rfl _ _ rfl rfl _ _ Hb9.out (Tryz.inoFits HXL.out) (by simp only [icells_size, HXL.out, HfL.out]) (oneCell_icells _) ?_)
      apply Stop.go; intro wa Hoa Hba
      have D := Lib.hid (bonly Hg9.out.1 Hoa.out (Nat.le_refl _))
      have HFa := Lib.hid (HF8.out.below D.out)
      have HVa := Lib.hid (HV8.out.ext D.out)
      have HLa := Lib.hid (HL8.out.ext D.out)
      have Ea := Lib.hid (bt E8.out D.out)
      generalize w8.heap.size = gi at *
      clear Hg9 Hb9 Hoa D HF8 HV8 HL8 E8
      go_wp2_with (first | refine wpList_load_blk rfl _ _ rfl _ rfl _ _ HVa.out _ Tryz.underlying29 rfl Tryz.viewSize ?_ | refine wpList_load_blk rfl _ _ rfl _ rfl _ _ Hba.out _ Tryz.underlying39 rfl (Tryz.inoFits HXL.out) ?_)
      refine (HLk.out _ HFa.out).mono ?_; rintro e wb ⟨rfl, hbb⟩
      have HFb := Lib.hid (HFa.out.below hbb)
      have HVb := Lib.hid (HVa.out.ext hbb)
      have HLb := Lib.hid (HLa.out.ext hbb)
      have HIb := Lib.hid (Hba.out.ext hbb)
      have Eb := Lib.hid (bt Ea.out hbb)
      clear hbb HFa HVa HLa Hba Ea HLk
      go_wp2_with (refine wpList_alloc_row rfl _ rfl _ Tryz.plZero ?_)
      apply Stop.go; intro wc Hgc Hbc
      go_wp2_with (refine wpList_store_arr rfl _ _ _ rfl _ _ rfl rfl _ _ Hbc.out (Tryz.plFits H3.out) (icells_sizes Hz.out H3.out) (oneCell_icells _) ?_)
      apply Stop.go; intro wd Hod Hbd
      have D := Lib.hid (bonly Hgc.out.1 Hod.out (Nat.le_refl _))
      have HFd := Lib.hid (HFb.out.below D.out)
      have HVd := Lib.hid (HVb.out.ext D.out)
      have HLd := Lib.hid (HLb.out.ext D.out)
      have HId := Lib.hid (HIb.out.ext D.out)
      have Ed := Lib.hid (bt Eb.out D.out)
      generalize wb.heap.size = gp at *
      clear Hgc Hbc Hod D HFb HVb HLb HIb Eb
      go_wp2_with (first | refine wpList_load_blk rfl _ _ rfl _ rfl _ _ HLd.out _ Tryz.underlying26 rfl Tryz.laySize ?_ | refine wpList_load_blk rfl _ _ rfl _ rfl _ _ HId.out _ Tryz.underlying39 rfl (Tryz.inoFits HXL.out) ?_)
      refine (HRl.out _ (Hr.out.below Ed.out)).mono ?_; rintro e we ⟨rfl, hbe⟩
      have HFe := Lib.hid (HFd.out.below hbe)
      have HVe := Lib.hid (HVd.out.ext hbe)
      have HLe := Lib.hid (HLd.out.ext hbe)
      have HIe := Lib.hid (HId.out.ext hbe)
      have HPe := Lib.hid (Hbd.out.ext hbe)
      have Ee := Lib.hid (bt Ed.out hbe)
      clear hbe HFd HVd HLd HId Hbd Ed HRl
      go_wp2_with (refine wpList_alloc_row rfl _ rfl _ Tryz.pqZero ?_)
      apply Stop.go; intro wf Hgf Hbf
      go_wp2_with (refine wpList_store_arr rfl _ _ _ rfl _ _ rfl rfl _ _ Hbf.out (Tryz.pqFits H3.out) (icells_sizes Hz.out H3.out) (oneCell_icells _) ?_)
      apply Stop.go; intro wg Hog Hbg
      have D := Lib.hid (bonly Hgf.out.1 Hog.out (Nat.le_refl _))
      have HFg := Lib.hid (HFe.out.below D.out)
      have HVg := Lib.hid (HVe.out.ext D.out)
      have HLg := Lib.hid (HLe.out.ext D.out)
      have HIg := Lib.hid (HIe.out.ext D.out)
      have HPg := Lib.hid (HPe.out.ext D.out)
      have Eg := Lib.hid (bt Ee.out D.out)
      generalize we.heap.size = gq at *
      clear Hgf Hbf Hog D HFe HVe HLe HIe HPe Ee
      go_wp2_with (first | refine wpList_load_blk rfl _ _ rfl _ rfl _ _ HVg.out _ Tryz.underlying29 rfl Tryz.viewSize ?_ | refine wpList_load_blk rfl _ _ rfl _ rfl _ _ HIg.out _ Tryz.underlying39 rfl (Tryz.inoFits HXL.out) ?_)
      refine (HRo.out _ HFg.out).mono ?_; rintro e wh ⟨rfl, hbh⟩
      have HLh := Lib.hid (HLg.out.ext hbh)
      have HIh := Lib.hid (HIg.out.ext hbh)
      have HPh := Lib.hid (HPg.out.ext hbh)
      have HQh := Lib.hid (Hbg.out.ext hbh)
      have Eh := Lib.hid (bt Eg.out hbh)
      clear hbh HFg HVg HLg HIg HPg Hbg Eg HRo
      go_wp2_with (first | refine wpList_load_blk rfl _ _ rfl _ rfl _ _ HLh.out _ Tryz.underlying26 rfl Tryz.laySize ?_ | refine wpList_load_blk rfl _ _ rfl _ rfl _ _ HIh.out _ Tryz.underlying39 rfl (Tryz.inoFits HXL.out) ?_)
      refine (HRr.out _ (Hr.out.below Eh.out)).mono ?_; rintro e wi ⟨rfl, hbi⟩
      have HPi := Lib.hid (HPh.out.ext hbi)
      have HQi := Lib.hid (HQh.out.ext hbi)
      have Ei := Lib.hid (bt Eh.out hbi)
      clear hbi HLh HIh HPh HQh Eh HRr
      have u1 : (lb == lb) = true := by simp
      have u2 : ((rp : Int) == (rp : Int)) = true := by simp
      have u3 : (rn == rn) = true := by simp
      have u4 : (rb == rb) = true := by simp
      go_wp2_with (first | refine wpList_load_blk rfl _ _ rfl _ rfl _ _ HPi.out _ Tryz.underlying42 rfl (Tryz.plFits H3.out) ?_ | refine wpList_load_blk rfl _ _ rfl _ rfl _ _ HQi.out _ Tryz.underlying45 rfl (Tryz.pqFits H3.out) ?_ | refine wpList_eql_agg rfl _ _ _ _ _ rfl (by kernel_rfl) _ _ rfl rfl _ (run_eql_pq_same lp H3.out _) ?_)
      refine (hw _).mono ?_; rintro e wj ⟨rfl, hbj⟩
      go_wp2_with fail
      go_ret
      exact ⟨rfl, bt Ei.out hbj⟩

end Go.Proofs.YtbajicgpjggkfaaGreat
