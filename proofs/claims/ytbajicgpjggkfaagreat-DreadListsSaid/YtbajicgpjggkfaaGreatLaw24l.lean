/-
  Layer 24: the walk of DreadLists.
-/
import Derived.Test.YtbajicgpjggkfaaGreatLaw24w
import Derived.Test.YtbajicgpjggkfaaGreatDrd5
import Derived.Test.YtbajicgpjggkfaaGreatRef24c
import Derived.Test.YtbajicgpjggkfaaGreatFmpC
namespace Go.Proofs.YtbajicgpjggkfaaGreat
open Go.RowKit
set_option maxRecDepth 10000

theorem run_neq_pq_same (x : List Int) (hx : x.length = 3) (w : World) : (binOp .neq 45 (.agg (icells x)) (.agg (icells x))).run Tryz.prog w = .ok (.bool false) w := by
  obtain ⟨a, b, c, rfl⟩ := list_three hx
  show (binOp .neq 45 (.agg #[.int .i64 a, .int .i64 b, .int .i64 c]) (.agg #[.int .i64 a, .int .i64 b, .int .i64 c])).run Tryz.prog w = _
  go_simp
theorem pls_str (f : List Int × En → Bool) (P : List (List Int × En)) : plsE f true P = strE f P := by
  unfold plsE selE strE
  congr 1
  refine List.filter_congr fun q _ => ?_
  cases f q <;> rfl
theorem strD_three {l : Lay14} {T : Int → List UInt8} {X : List Int} {k : Nat} (hk : k < (strD l T X).length) : ∃ a b c, (strD l T X)[k]? = some [a, b, c] := by
  have hm : (strD l T X)[k] ∈ strD l T X := List.getElem_mem hk
  rw [List.getElem?_eq_getElem hk]
  generalize (strD l T X)[k] = r at *
  unfold strD strE at hm
  obtain ⟨q, hq, rfl⟩ := List.mem_map.1 hm
  obtain ⟨no, j, _, _, _, hp⟩ := entsD_in.1 (List.mem_filter.1 hq).1
  exact ⟨_, _, _, by rw [hp]⟩
theorem lodL_at {l : Lay14} {T : Int → List UInt8} {bs : List Int} {k : Nat} (hk : k < bs.length) : fld (lodL l T bs) k = ((listS (vBk l T (fld bs k)) 7).length : Int) := by
  have e : bs[k]? = some (fld bs k) := fld_get bs k hk
  have h := fld_get (lodL l T bs) k (by rw [lodL_len]; exact hk)
  unfold lodL at h ⊢
  rw [List.getElem?_map, e] at h
  exact (Option.some.inj h).symm
set_option maxHeartbeats 6400000 in
theorem dreadLists_any (A : Option Addr) (n cap : Nat) (L : List (List UInt8)) (hn : L.length = n) (hL : Bks L) (hm : n ≤ maxLen) (i : Int) (w : World) (hr : RK w A L) :
    Calls Tryz.prog 4 #[.slice A n cap, .int .i64 i] w fun e w' => e = .returned (.bool true) ∧ Below w.heap.size w w' := by
  unfold maxLen at hm
  have Hn := Lib.hid hn
  have Hr := Lib.hid hr
  have HL := Lib.hid hL
  have HfL : Hid (freeI.length = 11) := Lib.hid rfl
  have Hz := Lib.hid (show ([0, 0, 0] : List Int).length = 3 from rfl)
  have hw := fun w => works24_any w
  clear hn hr hL
  by_cases hbig : 60 < n
  · have d0 : decide ((60 : Int) < (n : Int)) = true := by simp; omega
    clear hbig
    go_enter Tryz.func4, Tryz.ntmps4
    go_wp2_with fail
    refine (hw _).mono ?_; rintro e w1 ⟨rfl, hb1⟩
    go_wp2_with fail
    go_ret
    exact ⟨rfl, hb1⟩
  have d0 : decide ((60 : Int) < (n : Int)) = false := by simp; omega
  focus
    have hn6 : n ≤ 60 := by omega
    have HM := Lib.hid (show n ≤ maxLen by unfold maxLen; omega)
    have HTL := Lib.hid (fun no => bkV_len HL.out no)
    have HT := Lib.hid (fun (w : World) h => to21_any A n cap L Hn.out HL.out (by omega) w h)
    have HC1 := Lib.hid (fun A c w h => vof_any A n c L Hn.out HL.out (by omega) w h)
    have HLy := Lib.hid (fun w h => rlayout_any A n cap L Hn.out HL.out HM.out w h)
    clear hbig
    go_enter Tryz.func4, Tryz.ntmps4
    go_wp2_with fail
    refine (HT.out _ Hr.out).mono ?_; rintro e w1 ⟨v1, rfl, hv1, hb1⟩
    obtain ⟨A1, c1, rfl, hc1, hm1, hr1⟩ := hv1.read
    rw [Hn.out]
    have HR1 := Lib.hid hr1
    have E1 := Lib.hid hb1
    clear hv1 hc1 hm1 hr1 hb1 HT
    go_wp2_with fail
    refine (HC1.out A1 c1 _ HR1.out).mono ?_; rintro e w2 ⟨f, rfl, hb2, hf2⟩
    have HF2 := Lib.hid hf2
    have E2 := Lib.hid (bt E1.out hb2)
    clear hb2 hf2 HR1 E1 HC1
    go_wp2_with (refine wpList_alloc_row rfl _ rfl _ Tryz.viewZero ?_)
    apply Stop.go; intro w3 Hg3 Hb3
    go_wp2_with (refine wpList_store_arr rfl _ _ _ rfl _ (vval (layV L) f) rfl rfl _ _ Hb3.out Tryz.viewSize rfl (FV.one HF2.out) ?_)
    apply Stop.go; intro w4 Ho4 Hb4
    have D4 := Lib.hid (bonly Hg3.out.1 Ho4.out (Nat.le_refl _))
    have HF4 := Lib.hid (HF2.out.below D4.out)
    have E4 := Lib.hid (bt E2.out D4.out)
    generalize w2.heap.size = g2 at *
    clear Hg3 Hb3 Ho4 D4 HF2 E2
    go_wp2_with fail
    refine (HLy.out _ (Hr.out.below E4.out)).mono ?_; rintro e w5 ⟨rfl, hb5⟩
    have HF5 := Lib.hid (HF4.out.below hb5)
    have HV5 := Lib.hid (Hb4.out.ext hb5)
    have E5 := Lib.hid (bt E4.out hb5)
    clear hb5 HF4 Hb4 E4 HLy
    go_wp2_with (refine wpList_alloc_row rfl _ rfl _ Tryz.layZero ?_)
    apply Stop.go; intro w6 Hg6 Hb6
    go_wp2_with (refine wpList_store_arr rfl _ _ _ rfl _ (layV L).val rfl rfl _ _ Hb6.out Tryz.laySize rfl (val_one _) ?_)
    apply Stop.go; intro w7 Ho7 Hb7
    have D7 := Lib.hid (bonly Hg6.out.1 Ho7.out (Nat.le_refl _))
    have HF7 := Lib.hid (HF5.out.below D7.out)
    have HV7 := Lib.hid (HV5.out.ext D7.out)
    have E7 := Lib.hid (bt E5.out D7.out)
    generalize w5.heap.size = g5 at *
    clear Hg6 Hb6 Ho7 D7 HF5 HV5 E5
    cases hlw : layW L with
    | none =>
      have e13 : okSup (none : Option Lay14).isSome = 13 := rfl
      have e00 : (none : Option Lay14).isSome = false := rfl
      rw [e13, e00]
      clear e13 e00 hlw HF7 HV7 Hb7
      go_wp2_with fail
      refine (hw _).mono ?_; rintro e w8 ⟨rfl, hb8⟩
      go_wp2_with fail
      go_ret
      exact ⟨rfl, bt E7.out hb8⟩
    | some l =>
      have Hlw := Lib.hid hlw
      have Hlv := Lib.hid (layV_some hlw)
      rw [Hlv.out] at HF7 HV7 Hb7
      have e13 : okSup (some l).isSome = 0 := rfl
      have e00 : (some l).isSome = true := rfl
      rw [e13, e00]
      obtain ⟨X, HX⟩ : ∃ X, Hid (vIno l (bkV L) i = X) := ⟨_, Lib.hid rfl⟩
      have HXL := Lib.hid (show X.length = 11 by rw [← HX.out]; exact vIno_len _ _ _)
      have HXi := Lib.hid (show In64 X by rw [← HX.out]; exact vIno_in _ _ _)
      have HX2 := Lib.hid (show ∀ z ∈ X, z < 9223372036854775808 from fun z h => (HXi.out z h).2)
      have HCN := Lib.hid (fun w h => vinode_any l f (bkV L) HTL.out i w h)
      rw [HX.out] at HCN
      have HLi := Lib.hid (fun w h => dlist_any l f (bkV L) HTL.out X HXL.out w h)
      have HRl := Lib.hid (fun w h => rlist24_any A n cap L Hn.out HL.out HM.out l Hlw.out X HXL.out HX2.out w h)
      have HSt := Lib.hid (fun w h => dstray_any l f (bkV L) HTL.out X HXL.out w h)
      have HRe := Lib.hid (fun w h => rents_any A n cap L Hn.out HL.out HM.out l Hlw.out X HXL.out HX2.out true w h)
      have hps : plsE (strB l (bkV L) X) true (entA l (bkV L) X) = strD l (bkV L) X := pls_str _ _
      rw [hps] at HRe
      have HEm := Lib.hid (fun w h => dempty_any l f (bkV L) HTL.out X HXL.out w h)
      have HLo := Lib.hid (fun w h => dload_any l f (bkV L) HTL.out X HXL.out w h)
      have HRb := Lib.hid (fun w h => rbuk22_any A n cap L Hn.out HL.out HM.out l Hlw.out X HXL.out HX2.out w h)
      have HBk := Lib.hid (fun no w h => rblock22_any A n cap L Hn.out HL.out HM.out no w h)
      have HS3 := Lib.hid (fun k (hk : k < (strD l (bkV L) X).length) => strD_three hk)
      have HM2 := Lib.hid (show (srtE (lisD l (bkV L) X)).length ≤ 224 by rw [srtE_perm lisD_apart]; exact lisD_len)
      have HS2 := Lib.hid (strD_len (l := l) (T := bkV L) (X := X))
      have HB2 := Lib.hid (bukF_len (l := l) (T := bkV L) (X := X))
      have HLa := Lib.hid (fun k (hk : k < (bukF l (bkV L) X).length) => show fld (lodL l (bkV L) (bukF l (bkV L) X)) k = ((listS (bkV L (fld (bukF l (bkV L) X) k)) 7).length : Int) by rw [lodL_at hk, vBk_is Hlw.out])
      have HLl := Lib.hid (lodL_len l (bkV L) (bukF l (bkV L) X))
      generalize srtE (lisD l (bkV L) X) = M at *
      generalize strD l (bkV L) X = SD at *
      generalize nmsE (strB l (bkV L) X) true (entA l (bkV L) X) = NS at *
      generalize lodL l (bkV L) (bukF l (bkV L) X) = LD at *
      generalize bukF l (bkV L) X = bs at *
      clear Hlv e13 hlw HX hps
      go_wp2_with (refine wpList_load_blk rfl _ _ rfl _ rfl _ _ HV7.out _ Tryz.underlying29 rfl Tryz.viewSize ?_)
      refine (HCN.out _ HF7.out).mono ?_; rintro e w8 ⟨rfl, hb8⟩
      have HF8 := Lib.hid (HF7.out.below hb8)
      have HV8 := Lib.hid (HV7.out.ext hb8)
      have HL8 := Lib.hid (Hb7.out.ext hb8)
      have E8 := Lib.hid (bt E7.out hb8)
      clear hb8 HF7 HV7 Hb7 E7 HCN
      go_wp2_with (refine wpList_alloc_row rfl _ rfl _ Tryz.inoZero ?_)
      apply Stop.go; intro w9 Hg9 Hb9
      go_wp2_with (refine wpList_store_arr rfl _ _ _ rfl _ _ rfl rfl _ _ Hb9.out (Tryz.inoFits HXL.out) (by simp only [icells_size, HXL.out, HfL.out]) (oneCell_icells _) ?_)
      apply Stop.go; intro wa Hoa Hba
      have D := Lib.hid (bonly Hg9.out.1 Hoa.out (Nat.le_refl _))
      have HFa := Lib.hid (HF8.out.below D.out)
      have HVa := Lib.hid (HV8.out.ext D.out)
      have HLa2 := Lib.hid (HL8.out.ext D.out)
      have Ea := Lib.hid (bt E8.out D.out)
      generalize w8.heap.size = gi at *
      clear Hg9 Hb9 Hoa D HF8 HV8 HL8 E8
      go_wp2_with (first | refine wpList_load_blk rfl _ _ rfl _ rfl _ _ HLa2.out _ Tryz.underlying26 rfl Tryz.laySize ?_ | refine wpList_load_blk rfl _ _ rfl _ rfl _ _ Hba.out _ Tryz.underlying39 rfl (Tryz.inoFits HXL.out) ?_)
      refine (HRl.out _ (Hr.out.below Ea.out)).mono ?_; rintro e wb ⟨vb, rfl, hvb, hbb⟩
      have HFb := Lib.hid (HFa.out.below hbb)
      have HVb := Lib.hid (HVa.out.ext hbb)
      have HLb := Lib.hid (HLa2.out.ext hbb)
      have HIb := Lib.hid (Hba.out.ext hbb)
      have Eb := Lib.hid (bt Ea.out hbb)
      obtain ⟨Aw, cw, rfl, _, _, hrb⟩ := hvb.read
      have HWb := Lib.hid hrb
      rw [erows_len]
      obtain ⟨m, Hm⟩ : ∃ m, Hid (M.length = m) := ⟨_, Lib.hid rfl⟩
      rw [Hm.out] at HM2 ⊢
      clear hvb hbb hrb HFa HVa HLa2 Hba Ea HRl
      go_wp2_with (first | refine wpList_load_blk rfl _ _ rfl _ rfl _ _ HLb.out _ Tryz.underlying26 rfl Tryz.laySize ?_ | refine wpList_load_blk rfl _ _ rfl _ rfl _ _ HIb.out _ Tryz.underlying39 rfl (Tryz.inoFits HXL.out) ?_)
      refine (HRe.out _ (Hr.out.below Eb.out)).mono ?_; rintro e wc ⟨vp, vn, rfl, hvp, hvn, _, hbc⟩
      have HFc := Lib.hid (HFb.out.below hbc)
      have HVc := Lib.hid (HVb.out.ext hbc)
      have HLc := Lib.hid (HLb.out.ext hbc)
      have HIc := Lib.hid (HIb.out.ext hbc)
      have HWc := Lib.hid (HWb.out.below hbc)
      have Ec := Lib.hid (bt Eb.out hbc)
      obtain ⟨Ap, cp, rfl, _, _, hrp⟩ := hvp.read
      have HPc := Lib.hid hrp
      rw [irows_len]
      obtain ⟨ns, Hns⟩ : ∃ q, Hid (SD.length = q) := ⟨_, Lib.hid rfl⟩
      rw [Hns.out] at HS2 ⊢
      clear hvp hvn hbc hrp HFb HVb HLb HIb HWb Eb HRe
      go_wp2_with (first | refine wpList_load_blk rfl _ _ rfl _ rfl _ _ HVc.out _ Tryz.underlying29 rfl Tryz.viewSize ?_ | refine wpList_load_blk rfl _ _ rfl _ rfl _ _ HIc.out _ Tryz.underlying39 rfl (Tryz.inoFits HXL.out) ?_)
      refine (HSt.out _ HFc.out).mono ?_; rintro e wd ⟨vd, rfl, hvd, hbd⟩
      have HFd := Lib.hid (HFc.out.below hbd)
      have HVd := Lib.hid (HVc.out.ext hbd)
      have HLd := Lib.hid (HLc.out.ext hbd)
      have HId := Lib.hid (HIc.out.ext hbd)
      have HWd := Lib.hid (HWc.out.below hbd)
      have HPd := Lib.hid (HPc.out.below hbd)
      have Ed := Lib.hid (bt Ec.out hbd)
      obtain ⟨Ag, cg, rfl, _, _, hrg⟩ := hvd.read
      have HGd := Lib.hid hrg
      rw [irows_len, Hns.out]
      clear hvd hbd hrg HFc HVc HLc HIc HWc HPc Ec HSt
      have u0 : ((ns : Int) != (ns : Int)) = false := by simp
      go_wp2_with (first | refine wpList_load_blk rfl _ _ rfl _ rfl _ _ HVd.out _ Tryz.underlying29 rfl Tryz.viewSize ?_ | refine wpList_load_blk rfl _ _ rfl _ rfl _ _ HId.out _ Tryz.underlying39 rfl (Tryz.inoFits HXL.out) ?_)
      refine (HLi.out _ HFd.out).mono ?_; rintro e we ⟨ve, rfl, hve, hbe⟩
      have HFe := Lib.hid (HFd.out.below hbe)
      have HVe := Lib.hid (HVd.out.ext hbe)
      have HLe := Lib.hid (HLd.out.ext hbe)
      have HIe := Lib.hid (HId.out.ext hbe)
      have HWe := Lib.hid (HWd.out.below hbe)
      have HPe := Lib.hid (HPd.out.below hbe)
      have HGe := Lib.hid (HGd.out.below hbe)
      have Ee := Lib.hid (bt Ed.out hbe)
      obtain ⟨Ae, ce, rfl, _, _, hre⟩ := hve.read
      have HEe := Lib.hid hre
      rw [erows_len, Hm.out]
      clear hve hbe hre HFd HVd HLd HId HWd HPd HGd Ed HLi
      go_wp2_with fail
      refine (rsame24_any Ae Aw m ce cw M Hm.out (by have := HM2.out; omega) _ HEe.out HWe.out).mono ?_; rintro e wf ⟨rfl, hbf⟩
      have HFf := Lib.hid (HFe.out.below hbf)
      have HVf := Lib.hid (HVe.out.ext hbf)
      have HLf := Lib.hid (HLe.out.ext hbf)
      have HIf := Lib.hid (HIe.out.ext hbf)
      have HPf := Lib.hid (HPe.out.below hbf)
      have HGf := Lib.hid (HGe.out.below hbf)
      have Ef := Lib.hid (bt Ee.out hbf)
      clear hbf HFe HVe HLe HIe HPe HGe HEe HWe Ee
      go_wp2_with (first | refine wpList_load_blk rfl _ _ rfl _ rfl _ _ HVf.out _ Tryz.underlying29 rfl Tryz.viewSize ?_ | refine wpList_load_blk rfl _ _ rfl _ rfl _ _ HIf.out _ Tryz.underlying39 rfl (Tryz.inoFits HXL.out) ?_)
      refine (HEm.out _ HFf.out).mono ?_; rintro e wg ⟨rfl, hbg⟩
      rw [Hm.out]
      have HFg := Lib.hid (HFf.out.below hbg)
      have HVg := Lib.hid (HVf.out.ext hbg)
      have HLg := Lib.hid (HLf.out.ext hbg)
      have HIg := Lib.hid (HIf.out.ext hbg)
      have HPg := Lib.hid (HPf.out.below hbg)
      have HGg := Lib.hid (HGf.out.below hbg)
      have Eg := Lib.hid (bt Ef.out hbg)
      clear hbg HFf HVf HLf HIf HPf HGf Ef HEm
      obtain ⟨eb, heb⟩ : ∃ eb, decide (m = 0) = eb := ⟨_, rfl⟩
      have heb2 : ((m : Int) == 0) = eb := by rw [← heb, Bool.eq_iff_iff]; simp
      have ub1 : (eb != eb) = false := by simp
      have ub2 : (!eb == eb) = false := by cases eb <;> rfl
      rw [heb]
      have hs224 := HS2.out
      go_wp2_with fail
      clear heb heb2 ub1 ub2
      go_loopw [14] (fun z wr => ∃ k : Nat, k ≤ ns ∧ z = .int .i64 k ∧ Hid (Below wg.heap.size wg wr)) (fun z _ => ns - (intOf z).toNat)
      case atStart => exact ⟨0, Nat.zero_le _, rfl, Lib.hid (Below.refl _ _)⟩
      case round =>
        obtain ⟨k, hk, rfl, E⟩ := hrel
        by_cases hlt : k < ns
        · have hkl : k < SD.length := by rw [Hns.out]; exact hlt
          have d2 : decide ((k : Int) < (ns : Int)) = true := by simp; omega
          have p0 : (0 : Int) ≤ (k : Int) := by omega
          have p1 : (k : Int) < (ns : Int) := by omega
          have h1 := HGg.out.below E.out
          have h2 := HPg.out.below E.out
          obtain ⟨adg, rfl⟩ := h1.adr (k := k) (by rw [irows_len]; exact hkl) (by decide)
          obtain ⟨adp, rfl⟩ := h2.adr (k := k) (by rw [irows_len]; exact hkl) (by decide)
          obtain ⟨a, b, c, hr3⟩ := HS3.out k hkl
          have HG := Lib.hid (irows_at hr3)
          have H1 := Lib.hid h1
          have H2 := Lib.hid h2
          clear h1 h2 hr3 hkl
          go_wp2_with fail
          refine WH.start (S := fun w' : World => RN w' (some adg) 3 (irows SD) ∧ RN w' (some adp) 3 (irows SD)) [false, false, false, false, false, false, false, false, false] 9 rfl rfl (by kernel_rfl) ⟨H1.out.below (bdrew _ 1), H2.out.below (bdrew _ 1)⟩ (fun hSn => ?_); obtain ⟨wS, hwS⟩ : ∃ x, (wr).drew = x := ⟨_, rfl⟩; have HE := Lib.hid (show Below (wr).heap.size (wr) wS from hwS ▸ bdrew wr 1); rw [hwS] at hSn ⊢; clear hwS
          refine WH.tk 0 ?_; simp only [setL]
          refine WH.tk 1 ?_; simp only [setL]
          refine WH.tk 2 ?_; simp only [setL]
          refine WH.tv 3 rfl (fun w' hSw => exec_load_cells _ _ rfl (adg.add (k * 3)) rfl _ Tryz.underlying42 [.int .i64 a, .int .i64 b, .int .i64 c] Tryz.plSize (hSw.1.row HG.out rfl)) ?_; simp only [setL]
          refine WH.tk 4 ?_; simp only [setL]
          refine WH.tk 5 ?_; simp only [setL]
          refine WH.tk 6 ?_; simp only [setL]
          refine WH.tv 7 rfl (fun w' hSw => exec_load_cells _ _ rfl (adp.add (k * 3)) rfl _ Tryz.underlying45 [.int .i64 a, .int .i64 b, .int .i64 c] Tryz.pqSize (hSw.2.row HG.out rfl)) ?_; simp only [setL]
          refine WH.tv 8 rfl (fun w' hSw => exec_eql_agg _ _ _ _ _ rfl (by kernel_rfl) _ _ rfl rfl _ (run_neq_pq_same [a, b, c] rfl _)) ?_; simp only [setL]
          refine WH.done (by kernel_rfl) ?_
          have Ek := Lib.hid (bt E.out HE.out)
          clear hSn HE H1 H2 E
          go_wp2_with fail
          go_roundw
          case rel => exact ⟨k + 1, by omega, by go_num, Ek⟩
          case measure => simp [intOf]; omega
        · obtain rfl : k = ns := by omega
          have d2 : decide ((k : Int) < (k : Int)) = false := by simp
          have HFh := Lib.hid (HFg.out.below E.out)
          have HVh := Lib.hid (HVg.out.ext E.out)
          have HLh := Lib.hid (HLg.out.ext E.out)
          have HIh := Lib.hid (HIg.out.ext E.out)
          have Eh := Lib.hid (bt Eg.out E.out)
          clear E HFg HVg HLg HIg HPg HGg Eg HS3
          go_wp2_with (first | refine wpList_load_blk rfl _ _ rfl _ rfl _ _ HVh.out _ Tryz.underlying29 rfl Tryz.viewSize ?_ | refine wpList_load_blk rfl _ _ rfl _ rfl _ _ HIh.out _ Tryz.underlying39 rfl (Tryz.inoFits HXL.out) ?_)
          refine (HLo.out _ HFh.out).mono ?_; rintro e wi ⟨vi, rfl, hvi, hbi⟩
          have HLi2 := Lib.hid (HLh.out.ext hbi)
          have HIi := Lib.hid (HIh.out.ext hbi)
          have Ei := Lib.hid (bt Eh.out hbi)
          obtain ⟨Ai, ci, rfl, _, _, hri⟩ := hvi.ints
          have HDi := Lib.hid hri
          obtain ⟨q, Hq⟩ : ∃ q, Hid (bs.length = q) := ⟨_, Lib.hid rfl⟩
          rw [HLl.out, Hq.out]
          rw [Hq.out] at HB2
          clear hvi hbi hri HFh HVh HLh HIh Eh HLo
          go_wp2_with (first | refine wpList_load_blk rfl _ _ rfl _ rfl _ _ HLi2.out _ Tryz.underlying26 rfl Tryz.laySize ?_ | refine wpList_load_blk rfl _ _ rfl _ rfl _ _ HIi.out _ Tryz.underlying39 rfl (Tryz.inoFits HXL.out) ?_)
          refine (HRb.out _ (Hr.out.below Ei.out)).mono ?_; rintro e wj ⟨vj, rfl, hvj, hbj⟩
          have Ej := Lib.hid (bt Ei.out hbj)
          have HDj := Lib.hid (HDi.out.below hbj)
          obtain ⟨Aj, cj, rfl, _, _, hrj⟩ := hvj.ints
          have HBj := Lib.hid hrj
          rw [Hq.out]
          have hq32 := HB2.out
          clear hvj hbj hrj HLi2 HIi Ei HDi HRb
          go_wp2_with fail
          go_loopw [17] (fun z wr => ∃ j : Nat, j ≤ q ∧ z = .int .i64 j ∧ Hid (Below wj.heap.size wj wr)) (fun z _ => q - (intOf z).toNat)
          case atStart => exact ⟨0, Nat.zero_le _, rfl, Lib.hid (Below.refl _ _)⟩
          case round =>
            obtain ⟨j, hj, rfl, E⟩ := hrel
            by_cases hlj : j < q
            · have hjl : j < bs.length := by rw [Hq.out]; exact hlj
              have d3 : decide ((j : Int) < (q : Int)) = true := by simp; omega
              have q0 : (0 : Int) ≤ (j : Int) := by omega
              have q1 : (j : Int) < (q : Int) := by omega
              have hjd : j < LD.length := by rw [HLl.out]; exact hjl
              obtain ⟨adb, rfl, _⟩ := HBj.out.int j hjl
              obtain ⟨add, rfl, _⟩ := HDj.out.int j hjd
              have HCb := Lib.hid (fun (wr : World) (h : RC wr (some adb) (ivals bs)) => show wr.cell? (adb.add j) = some (.int .i64 (fld bs j)) by
                obtain ⟨ad', e, hc⟩ := h.int j hjl
                injection e with e
                subst e
                rw [hc, ints_at hjl])
              have HCd := Lib.hid (fun (wr : World) (h : RC wr (some add) (ivals LD)) => show wr.cell? (add.add j) = some (.int .i64 (fld LD j)) by
                obtain ⟨ad', e, hc⟩ := h.int j hjd
                injection e with e
                subst e
                rw [hc, ints_at hjd])
              rw [HLa.out j hjl] at HCd
              obtain ⟨x, hx⟩ : ∃ x, fld bs j = x := ⟨_, rfl⟩
              rw [hx] at HCb HCd
              have HBx := Lib.hid (fun w h => HBk.out x w h)
              have HBl := Lib.hid (bkV_len HL.out x)
              generalize bkV L x = b at *
              have HRd := Lib.hid (fun A' k hk w h => rread18_any A' 256 b HBl.out k hk w h)
              clear hx
              go_wp2_with fail
              go_loopw [18, 19] (fun c z wr => ∃ k : Nat, k ≤ 7 ∧ z = .int .i64 k ∧ c = .int .i64 ((listS b k).length : Nat) ∧ Hid (Below wj.heap.size wj wr)) (fun _ z _ => 7 - (intOf z).toNat)
              case atStart => exact ⟨0, by omega, rfl, rfl, E⟩
              case round =>
                obtain ⟨k2, hk2, rfl, rfl, E⟩ := hrel
                by_cases hl7 : k2 < 7
                · have d4 : decide ((k2 : Int) < 7) = true := by simp; omega
                  have cb := HCb.out _ (HBj.out.below E.out)
                  have HRk := Lib.hid (fun A' w h => HRd.out A' k2 hl7 w h)
                  have hln := listS_len b k2
                  have HNo := Lib.hid (fun h : entS b k2 = none => listS_none h)
                  have HYe := Lib.hid (fun e (h : entS b k2 = some e) => show (listS b (k2 + 1)).length = (listS b k2).length + 1 by rw [listS_some h, List.length_append]; rfl)
                  obtain ⟨o, ho⟩ : ∃ o, entS b k2 = o := ⟨_, rfl⟩
                  rw [ho] at HRk HNo HYe
                  clear ho
                  go_wp2_with fail
                  refine (HBx.out _ (Hr.out.below (bt Ej.out E.out))).mono ?_; rintro e wk ⟨A8, rfl, hrk, hbk⟩
                  have HR8 := Lib.hid hrk
                  have Ek := Lib.hid (bt E.out hbk)
                  clear hrk hbk E cb
                  go_wp2_with fail
                  refine (HRk.out A8 _ HR8.out).mono ?_; rintro e wl ⟨rfl, hbl⟩
                  have El := Lib.hid (bt Ek.out hbl)
                  clear hbl Ek HR8 HRk
                  obtain ⟨ev, hev⟩ : ∃ ev, entV o = ev := ⟨_, rfl⟩
                  rw [hev]
                  clear hev
                  go_wp2_with (refine wpList_alloc_row rfl _ rfl _ Tryz.entZero ?_)
                  apply Stop.go; intro wm Hgm Hbm
                  go_wp2_with (refine wpList_store_arr rfl _ _ _ rfl _ (ecells ev) rfl rfl _ _ Hbm.out Tryz.entSize rfl (by simp [ecells, Value.oneCell']) ?_)
                  apply Stop.go; intro wn Hon Hbn
                  have Ewn := Lib.hid (bt El.out (bonly Hgm.out.1 Hon.out (Nat.le_refl _)))
                  generalize wl.heap.size = ge at *
                  clear Hgm Hbm Hon Hbn El
                  cases o with
                  | none =>
                    have HLz := Lib.hid (HNo.out rfl)
                    rw [show (none : Option En).isSome = false from rfl]
                    clear HNo HYe
                    go_wp2_with fail
                    go_roundw
                    case rel => exact ⟨k2 + 1, by omega, by go_num, by rw [HLz.out], Ewn⟩
                    case measure => simp [intOf]; omega
                  | some e =>
                    have HLz := Lib.hid (HYe.out e rfl)
                    rw [show (some e).isSome = true from rfl]
                    clear HNo HYe
                    generalize (listS b k2).length = ll at *
                    go_wp2_with fail
                    go_roundw
                    case rel => exact ⟨k2 + 1, by omega, by go_num, by rw [HLz.out]; go_num, Ewn⟩
                    case measure => simp [intOf]; omega
                · obtain rfl : k2 = 7 := by omega
                  have d4 : decide (((7 : Nat) : Int) < 7) = false := by simp
                  have cd := HCd.out _ (HDj.out.below E.out)
                  have uq : ((q : Int) != (q : Int)) = false := by simp
                  have ul : (((listS b 7).length : Int) != ((listS b 7).length : Int)) = false := by simp
                  generalize (listS b 7).length = ll at *
                  go_wp2_with fail
                  go_roundw
                  case rel => exact ⟨j + 1, by omega, by go_num, E⟩
                  case measure => simp [intOf]; omega
            · obtain rfl : j = q := by omega
              have d3 : decide ((j : Int) < (j : Int)) = false := by simp
              have uq : ((j : Int) == (j : Int)) = true := by simp
              go_wp2_with fail
              refine (hw _).mono ?_; rintro e wz ⟨rfl, hbz⟩
              go_wp2_with fail
              go_ret
              exact ⟨rfl, bt (bt Ej.out E.out) hbz⟩

end Go.Proofs.YtbajicgpjggkfaaGreat
