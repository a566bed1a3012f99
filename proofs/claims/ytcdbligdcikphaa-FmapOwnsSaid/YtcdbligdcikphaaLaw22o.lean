/-
  Layer 22: the walk of FmapOwns.
-/
import Derived.Test.YtcdbligdcikphaaLaw22w
import Derived.Test.YtcdbligdcikphaaVw2
import Derived.Test.YtcdbligdcikphaaVw0
import Derived.Test.YtcdbligdcikphaaIn9
import Derived.Test.YtcdbligdcikphaaGeo1
namespace Go.Proofs.Ytcdbligdcikphaa
open Go.RowKit
set_option maxRecDepth 10000

theorem fld_mem {l : List Int} {k : Nat} (h : k < l.length) : fld l k ∈ l := by
  have e := fld_get l k h
  rw [List.getElem?_eq_getElem h] at e
  rw [← Option.some.inj e]
  exact List.getElem_mem h
theorem rc_fld {w : World} {ad : Addr} {l : List Int} (h : RC w (some ad) (ivals l)) {k : Nat} (hk : k < l.length) : w.cell? (ad.add k) = some (.int .i64 (fld l k)) := by
  obtain ⟨ad', e, hc⟩ := h.int k hk
  injection e with e
  subst e
  have e := fld_get l k hk
  rw [List.getElem?_eq_getElem hk] at e
  rw [hc, Option.some.inj e]
theorem rc_addr {w : World} {A : Option Addr} {l : List Int} (h : RC w A (ivals l)) (hk : 0 < l.length) : ∃ ad, A = some ad := by
  obtain ⟨ad, e, _⟩ := h.int 0 hk
  exact ⟨ad, e⟩
set_option maxHeartbeats 6400000 in
theorem fmapOwns_any (C : FC) (FD : FCa) (A : Option Addr) (n cap : Nat) (L : List (List UInt8)) (hn : L.length = n) (hL : Bks L) (hm : n ≤ maxLen) (X : List Int) (hX : X.length = 11) (hXi : In64 X) (w : World) (hr : RK w A L) :
    Calls Try.prog 3 #[.slice A n cap, .agg (icells X)] w fun e w' => e = .returned (.bool true) ∧ Below w.heap.size w w' := by
  unfold maxLen at hm
  have Hn := Lib.hid hn
  have Hr := Lib.hid hr
  have HL := Lib.hid hL
  have HXL := Lib.hid hX
  have HXi := Lib.hid hXi
  clear hn hr hL hX hXi
  by_cases hbig : 60 < n
  · have d0 : decide ((60 : Int) < (n : Int)) = true := by simp; omega
    clear hbig
    go_enter Try.func3, Try.ntmps3
    go_wp2_with (refine wpList_box_row rfl _ _ rfl _ rfl ?_)
    apply Stop.go; intro w0 Hg0 Hb0
    go_wp2_with fail
    refine (works22_any C _).mono ?_; rintro e w1 ⟨rfl, hb1⟩
    go_wp2_with fail
    go_ret
    exact ⟨rfl, bt Hg0.out.1 hb1⟩
  · have d0 : decide ((60 : Int) < (n : Int)) = false := by simp; omega
    have hn6 : n ≤ 60 := by omega
    have HTL := Lib.hid (fun no => bkV_len HL.out no)
    have HT := Lib.hid (fun (w : World) h => to21_any A n cap L Hn.out HL.out (by omega) w h)
    have HC1 := Lib.hid (fun A c w h => vof_any A n c L Hn.out HL.out (by omega) w h)
    clear hbig
    go_enter Try.func3, Try.ntmps3
    go_wp2_with (refine wpList_box_row rfl _ _ rfl _ rfl ?_)
    apply Stop.go; intro w0 Hg0 Hb0
    have E0 := Lib.hid Hg0.out.1
    clear Hg0
    go_wp2_with fail
    refine (HT.out _ (Hr.out.below E0.out)).mono ?_; rintro e w1 ⟨v1, rfl, hv1, hb1⟩
    obtain ⟨A1, c1, rfl, hc1, hm1, hr1⟩ := hv1.read
    rw [Hn.out]
    have HR1 := Lib.hid hr1
    have HI1 := Lib.hid (Hb0.out.ext hb1)
    have E1 := Lib.hid (bt E0.out hb1)
    clear hv1 hc1 hm1 hr1 hb1 HT Hb0 E0
    go_wp2_with fail
    refine (HC1.out A1 c1 _ HR1.out).mono ?_; rintro e w2 ⟨f, rfl, hb2, hf2⟩
    have HF2 := Lib.hid hf2
    have HI2 := Lib.hid (HI1.out.ext hb2)
    have E2 := Lib.hid (bt E1.out hb2)
    clear hb2 hf2 HR1 HI1 E1 HC1
    go_wp2_with (refine wpList_alloc_row rfl _ rfl _ Try.viewZero ?_)
    apply Stop.go; intro w3 Hg3 Hb3
    go_wp2_with (refine wpList_store_arr rfl _ _ _ rfl _ (vval (layV L) f) rfl rfl _ _ Hb3.out Try.viewSize rfl (FV.one HF2.out) ?_)
    apply Stop.go; intro w7 Ho4 Hb7
    have D4 := Lib.hid (bonly Hg3.out.1 Ho4.out (Nat.le_refl _))
    have HF7 := Lib.hid (HF2.out.below D4.out)
    have HI7 := Lib.hid (HI2.out.ext D4.out)
    have E7 := Lib.hid (bt E2.out D4.out)
    generalize w2.heap.size = g2 at *
    clear Hg3 Hb3 Ho4 D4 HF2 HI2 E2
    cases hlw : layW L with
    | none =>
      have e13 : okSup (none : Option Lay14).isSome = 13 := rfl
      rw [e13]
      clear e13 hlw HF7 HI7 Hb7
      go_wp2_with fail
      refine (works22_any C _).mono ?_; rintro e w8 ⟨rfl, hb8⟩
      go_wp2_with fail
      go_ret
      exact ⟨rfl, bt E7.out hb8⟩
    | some l =>
      have Hlv := Lib.hid (layV_some hlw)
      rw [Hlv.out] at HF7 Hb7
      have e13 : okSup (some l).isSome = 0 := rfl
      rw [e13]
      have HCO := Lib.hid (fun w h => C.owns l f (bkV L) HTL.out X HXL.out HXi.out w h)
      have HCB := Lib.hid (fun w h => C.blocks l f (bkV L) HTL.out X HXL.out HXi.out w h)
      have HCY := Lib.hid (fun w h => C.beyond l f (bkV L) HTL.out X HXL.out HXi.out w h)
      have HCA := Lib.hid (fun k h0 w h => FD.at_ l f (bkV L) HTL.out X HXL.out HXi.out k h0 w h)
      obtain ⟨K, HK⟩ : ∃ K, Hid (fld X 0 = K) := ⟨_, Lib.hid rfl⟩
      have HOl := Lib.hid (@ownF_len l (bkV L) X)
      have HBl := Lib.hid (Nat.le_trans (someF_len (allF l (bkV L) X)) (Nat.le_of_eq allF_len))
      have HYl := Lib.hid (@beyF_len l (bkV L) X 134)
      have HQ1 := Lib.hid (fun h : K = 1 => own_one (l := l) (T := bkV L) (X := X) (by rw [HK.out]; exact h))
      have HQ2 := Lib.hid (fun h : K ≠ 1 => all_none (l := l) (T := bkV L) (X := X) (by rw [HK.out]; exact h))
      have HQ3 := Lib.hid (fun h : K ≠ 1 => bey_none (l := l) (T := bkV L) (X := X) (by rw [HK.out]; exact h) 134)
      have HZ1 := Lib.hid (fun x (h : x ∈ ownF l (bkV L) X) => own_is h)
      have HZ2 := Lib.hid (fun x (h : x ∈ someF (allF l (bkV L) X)) => all_own h)
      have HZ3 := Lib.hid (fun x (h : x ∈ beyF l (bkV L) X 134) => show atI l (bkV L) X x ∈ ownF l (bkV L) X by
        obtain ⟨k, hk, rfl, hne⟩ := beyF_mem h
        rw [atI_nat hk]
        exact all_own (at_all hk hne))
      have HZ4 := Lib.hid (fun x (h : x ∈ beyF l (bkV L) X 134) => show -9223372036854775808 ≤ x ∧ x < 9223372036854775808 by
        obtain ⟨k, hk, rfl, _⟩ := beyF_mem h
        omega)
      obtain ⟨ow, HOW⟩ : ∃ ow, Hid (ownF l (bkV L) X = ow) := ⟨_, Lib.hid rfl⟩
      obtain ⟨bl, HBL⟩ : ∃ bl, Hid (someF (allF l (bkV L) X) = bl) := ⟨_, Lib.hid rfl⟩
      obtain ⟨by_, HBY⟩ : ∃ b, Hid (beyF l (bkV L) X 134 = b) := ⟨_, Lib.hid rfl⟩
      rw [HOW.out] at HCO HOl HQ1 HZ1 HZ2 HZ3
      rw [HBL.out] at HCB HBl HQ1 HQ2 HZ2
      rw [HBY.out] at HCY HYl HQ3 HZ3 HZ4
      generalize bkV L = T at *
      clear Hlv e13 hlw HOW HBL HBY
      go_wp2_with fail
      refine WH.start (S := fun w' : World => Blk w' g2 32 (vval l f) ∧ FV w' l f T ∧ Blk w' w.heap.size 25 (icells X)) [false, false, false, false, false, false, false, false] 8 rfl rfl (by kernel_rfl) ⟨Hb7.out.ext (bdrew w7 1), HF7.out.below (bdrew w7 1), HI7.out.ext (bdrew w7 1)⟩ (fun hSn => ?_); obtain ⟨wS, hwS⟩ : ∃ x, (w7).drew = x := ⟨_, rfl⟩; have HE := Lib.hid (show Below (w7).heap.size (w7) wS from hwS ▸ bdrew w7 1); rw [hwS] at hSn ⊢; clear hwS
      refine WH.tv 0 rfl (fun w' hSw => exec_load_blk _ _ rfl _ rfl _ _ (hSw.1) _ (Try.underlying32) rfl (Try.viewSize)) ?_; simp only [setL]
      refine WH.tv 1 rfl (fun w' hSw => exec_load_blk _ _ rfl _ rfl _ _ (hSw.2.2) _ (Try.underlying25) rfl (Try.inoFits HXL.out)) ?_; simp only [setL]
      refine WH.tv 3 rfl (fun w' hSw => exec_load_blk _ _ rfl _ rfl _ _ (hSw.1) _ (Try.underlying32) rfl (Try.viewSize)) ?_; simp only [setL]
      refine WH.tv 4 rfl (fun w' hSw => exec_load_blk _ _ rfl _ rfl _ _ (hSw.2.2) _ (Try.underlying25) rfl (Try.inoFits HXL.out)) ?_; simp only [setL]
      refine WH.only 2 _ rfl (by kernel_rfl) rfl (fun K hK => ?_)
      go_simp; refine (HCO.out _ hSn.2.1).mono ?_; rintro e wa ⟨va, rfl, hva, hba⟩; go_simp
      obtain ⟨Ao, co, rfl, hca, hma, hra⟩ := hva.ints
      have HRo := Lib.hid hra
      have HE := Lib.hid (bt HE.out hba)
      clear hva hca hma hra
      have hSn := And.intro (hSn.1.ext hba) (And.intro (hSn.2.1.below hba) (hSn.2.2.ext hba)); refine hK _ _ hSn ?_; clear hK; clear K; simp only [setL]
      refine WH.only 5 _ rfl (by kernel_rfl) rfl (fun K hK => ?_)
      go_simp; refine (HCB.out _ hSn.2.1).mono ?_; rintro e wb ⟨vb, rfl, hvb, hbb⟩; go_simp
      obtain ⟨Ab, cb, rfl, hcb, hmb, hrb⟩ := hvb.ints
      have HRb := Lib.hid hrb
      have HRo := Lib.hid (HRo.out.below hbb)
      have HE := Lib.hid (bt HE.out hbb)
      clear hvb hcb hmb hrb
      have hSn := And.intro (hSn.1.ext hbb) (And.intro (hSn.2.1.below hbb) (hSn.2.2.ext hbb)); refine hK _ _ hSn ?_; clear hK; clear K; simp only [setL]
      refine WH.tk 6 ?_; simp only [setL]
      refine WH.tk 7 ?_; simp only [setL]
      refine WH.done (by kernel_rfl) ?_
      have HV8 := Lib.hid hSn.1
      have HF8 := Lib.hid hSn.2.1
      have HI8 := Lib.hid hSn.2.2
      have E8 := Lib.hid (bt E7.out HE.out)
      obtain ⟨mo, Hmo⟩ : ∃ m, Hid (ow.length = m) := ⟨_, Lib.hid rfl⟩
      obtain ⟨mb, Hmb⟩ : ∃ m, Hid (bl.length = m) := ⟨_, Lib.hid rfl⟩
      rw [Hmo.out, Hmb.out]
      have HMo := Lib.hid (show mo ≤ 135 by have := HOl.out; have := Hmo.out; omega)
      have HMb := Lib.hid (show mb ≤ 134 by have := HBl.out; have := Hmb.out; omega)
      clear HE hSn Hb7 HF7 HI7 E7 hba hbb HCO HCB HOl HBl
      generalize wb = w8 at *
      have h135 := HMo.out
      have h134 := HMb.out
      go_wp2_with fail
      go_loopw [9] (fun z wr => ∃ k : Nat, k ≤ mo ∧ z = .int .i64 k ∧ Hid (Below w8.heap.size w8 wr)) (fun z _ => mo - (intOf z).toNat)
      case atStart => exact ⟨0, Nat.zero_le _, rfl, Lib.hid (Below.refl _ _)⟩
      case round =>
        obtain ⟨k, hk, rfl, D⟩ := hrel
        have HVr := Lib.hid (HV8.out.ext D.out)
        have HRr := Lib.hid (HRo.out.below D.out)
        by_cases hlt : k < mo
        · have hkl : k < ow.length := by rw [Hmo.out]; exact hlt
          have d1 : decide ((k : Int) < (mo : Int)) = true := by simp; omega
          have p0 : (0 : Int) ≤ (k : Int) := by omega
          have p1 : (k : Int) < (mo : Int) := by omega
          obtain ⟨ad, rfl⟩ := rc_addr HRr.out (by omega)
          have Hcx := Lib.hid (fun w' (h : RC w' (some ad) (ivals ow)) => rc_fld h hkl)
          have HD := Lib.hid (fun w => show Calls Try.prog 9 #[.agg l.val, .int .i64 (fld ow k)] w fun e w' => e = .returned (.bool true) ∧ Below w.heap.size w w' by
            have := isdata_any l (fld ow k) w
            rw [HZ1.out _ (fld_mem hkl)] at this
            exact this)
          generalize fld ow k = x at *
          clear hkl
          go_wp2_with fail
          refine WH.start (S := fun w' : World => Blk w' g2 32 (vval l f) ∧ RC w' (some ad) (ivals ow)) [false, false, false, false, false, false, false, false] 8 rfl rfl (by kernel_rfl) ⟨HVr.out.ext (bdrew wr 1), HRr.out.below (bdrew wr 1)⟩ (fun hSn => ?_); obtain ⟨wS, hwS⟩ : ∃ x, (wr).drew = x := ⟨_, rfl⟩; have HE := Lib.hid (show Below (wr).heap.size (wr) wS from hwS ▸ bdrew wr 1); rw [hwS] at hSn ⊢; clear hwS
          refine WH.tk 0 ?_; simp only [setL]
          refine WH.tv 1 rfl (fun w' hSw => exec_load_cells _ _ rfl ⟨g2, 0, none⟩ rfl _ Try.underlying29 (Lay14.val l).toList Try.laySize (vval_cells hSw.1)) ?_; simp only [setL]
          refine WH.tk 2 ?_; simp only [setL]
          refine WH.tk 3 ?_; simp only [setL]
          refine WH.tk 4 ?_; simp only [setL]
          refine WH.tv 5 rfl (fun w' hSw => exec_load_cell _ _ rfl (ad.add k) rfl (.int .i64 x) (Hcx.out _ hSw.2) _ Try.underlying3 rfl) ?_; simp only [setL]
          refine WH.only 6 _ rfl (by kernel_rfl) rfl (fun K hK => ?_)
          go_simp; refine (HD.out _).mono ?_; rintro e wa ⟨rfl, hba⟩; go_simp
          have HE := Lib.hid (bt HE.out hba)
          have hSn := And.intro (hSn.1.ext hba) (hSn.2.below hba); refine hK _ _ hSn ?_; clear hK; clear K; simp only [setL]
          refine WH.tk 7 ?_; simp only [setL]
          refine WH.done (by kernel_rfl) ?_
          have Da := Lib.hid (bt D.out HE.out)
          clear hSn HE hba HVr HRr D
          go_wp2_with fail
          go_roundw
          case rel => exact ⟨k + 1, by omega, by go_num, Da⟩
          case measure => simp [intOf]; omega
        · obtain rfl : mo = k := by omega
          have HF9 := Lib.hid (HF8.out.below D.out)
          have HI9 := Lib.hid (HI8.out.ext D.out)
          have HRb9 := Lib.hid (HRb.out.below D.out)
          have E9 := Lib.hid (bt E8.out D.out)
          clear hlt hk HZ1 HV8 HF8 HI8 HRo HRb E8 D
          generalize wr = w9 at *
          go_wp2_with fail
          go_loopw [10] (fun z wr => ∃ k : Nat, k ≤ mb ∧ z = .int .i64 k ∧ w9 = wr) (fun z _ => mb - (intOf z).toNat)
          case atStart => exact ⟨0, Nat.zero_le _, rfl, rfl⟩
          case round =>
            obtain ⟨k, hk, rfl, rfl⟩ := hrel
            by_cases hlt : k < mb
            · have hkl : k < bl.length := by rw [Hmb.out]; exact hlt
              have d1 : decide ((k : Int) < (mb : Int)) = true := by simp; omega
              have p0 : (0 : Int) ≤ (k : Int) := by omega
              have p1 : (k : Int) < (mb : Int) := by omega
              obtain ⟨ad, rfl⟩ := rc_addr HRb9.out (by omega)
              have cx := rc_fld HRb9.out hkl
              have HIn := Lib.hid (show Calls Try.prog 10 #[.slice Ao mo co, .int .i64 (fld bl k)] w9 fun e w' => e = .returned (.bool true) ∧ w9 = w' by
                have := rin9_any Ao mo co ow Hmo.out (by unfold maxLen; omega) (fld bl k) _ HRr.out
                rw [show ow.contains (fld bl k) = true from by simpa using HZ2.out _ (fld_mem hkl)] at this
                exact this)
              generalize fld bl k = x at *
              clear hkl
              go_wp2_with fail
              refine (HIn.out).mono ?_; rintro e wx ⟨rfl, rfl⟩
              clear cx HIn
              go_wp2_with fail
              go_roundw
              case rel => exact ⟨k + 1, by omega, by go_num, trivial⟩
              case measure => simp [intOf]; omega
            · obtain rfl : mb = k := by omega
              clear hlt hk HZ2 HRb9
              go_wp2_with (first | refine wpList_load_blk rfl _ _ rfl _ rfl _ _ HVr.out _ Try.underlying32 rfl Try.viewSize ?_ | refine wpList_load_blk rfl _ _ rfl _ rfl _ _ HI9.out _ Try.underlying25 rfl (Try.inoFits HXL.out) ?_)
              refine (HCY.out _ HF9.out).mono ?_; rintro e wt ⟨vt, rfl, hvt, hbt⟩
              obtain ⟨Ay, cy, rfl, hcy, hmy, hry⟩ := hvt.ints
              have HRy := Lib.hid hry
              obtain ⟨my, Hmy⟩ : ∃ m, Hid (by_.length = m) := ⟨_, Lib.hid rfl⟩
              rw [Hmy.out] at HYl ⊢
              have h133 := HYl.out
              have HVt := Lib.hid (HVr.out.ext hbt)
              have HFt := Lib.hid (HF9.out.below hbt)
              have HIt := Lib.hid (HI9.out.ext hbt)
              have HRt := Lib.hid (HRr.out.below hbt)
              have Et := Lib.hid (bt E9.out hbt)
              clear hvt hcy hmy hry hbt HVr HF9 HI9 HRr E9 HCY
              go_wp2_with fail
              go_loopw [12] (fun z wr => ∃ k : Nat, k ≤ my ∧ z = .int .i64 k ∧ Hid (Below wt.heap.size wt wr)) (fun z _ => my - (intOf z).toNat)
              case atStart => exact ⟨0, Nat.zero_le _, rfl, Lib.hid (Below.refl _ _)⟩
              case round =>
                obtain ⟨k, hk, rfl, D⟩ := hrel
                have HVr := Lib.hid (HVt.out.ext D.out)
                have HFr := Lib.hid (HFt.out.below D.out)
                have HIr := Lib.hid (HIt.out.ext D.out)
                have HRr := Lib.hid (HRt.out.below D.out)
                have HYr := Lib.hid (HRy.out.below D.out)
                by_cases hlt : k < my
                · have hkl : k < by_.length := by rw [Hmy.out]; exact hlt
                  have d1 : decide ((k : Int) < (my : Int)) = true := by simp; omega
                  have p0 : (0 : Int) ≤ (k : Int) := by omega
                  have p1 : (k : Int) < (my : Int) := by omega
                  obtain ⟨ad, rfl⟩ := rc_addr HYr.out (by omega)
                  have Hcx := Lib.hid (fun w' (h : RC w' (some ad) (ivals by_)) => rc_fld h hkl)
                  obtain ⟨y, Hy⟩ : ∃ y, Hid (atI l T X (fld by_ k) = y) := ⟨_, Lib.hid rfl⟩
                  have HA := Lib.hid (fun w h => HCA.out (fld by_ k) (HZ4.out _ (fld_mem hkl)) w h)
                  have HIn := Lib.hid (fun (w : World) (h : RC w Ao (ivals ow)) => show Calls Try.prog 10 #[.slice Ao mo co, .int .i64 y] w fun e w' => e = .returned (.bool true) ∧ w = w' by
                    have := rin9_any Ao mo co ow Hmo.out (by unfold maxLen; omega) y _ h
                    rw [show ow.contains y = true from by rw [← Hy.out]; simpa using HZ3.out _ (fld_mem hkl)] at this
                    exact this)
                  rw [Hy.out] at HA
                  generalize fld by_ k = x at *
                  clear hkl
                  go_wp2_with fail
                  refine WH.start (S := fun w' : World => Blk w' g2 32 (vval l f) ∧ FV w' l f T ∧ Blk w' w.heap.size 25 (icells X) ∧ RC w' (some ad) (ivals by_)) [false, false, false, false, false, false, false, false, false, false] 10 rfl rfl (by kernel_rfl) ⟨HVr.out.ext (bdrew wr 1), HFr.out.below (bdrew wr 1), HIr.out.ext (bdrew wr 1), HYr.out.below (bdrew wr 1)⟩ (fun hSn => ?_); obtain ⟨wS, hwS⟩ : ∃ x, (wr).drew = x := ⟨_, rfl⟩; have HE := Lib.hid (show Below (wr).heap.size (wr) wS from hwS ▸ bdrew wr 1); rw [hwS] at hSn ⊢; clear hwS
                  refine WH.tk 0 ?_; simp only [setL]
                  refine WH.tv 1 rfl (fun w' hSw => exec_load_blk _ _ rfl _ rfl _ _ (hSw.1) _ (Try.underlying32) rfl (Try.viewSize)) ?_; simp only [setL]
                  refine WH.tv 2 rfl (fun w' hSw => exec_load_blk _ _ rfl _ rfl _ _ (hSw.2.2.1) _ (Try.underlying25) rfl (Try.inoFits HXL.out)) ?_; simp only [setL]
                  refine WH.tk 3 ?_; simp only [setL]
                  refine WH.tk 4 ?_; simp only [setL]
                  refine WH.tk 5 ?_; simp only [setL]
                  refine WH.tv 6 rfl (fun w' hSw => exec_load_cell _ _ rfl (ad.add k) rfl (.int .i64 x) (Hcx.out _ hSw.2.2.2) _ Try.underlying3 rfl) ?_; simp only [setL]
                  refine WH.only 7 _ rfl (by kernel_rfl) rfl (fun K hK => ?_)
                  go_simp; refine (HA.out _ hSn.2.1).mono ?_; rintro e wa ⟨rfl, hba⟩; go_simp
                  have HE := Lib.hid (bt HE.out hba)
                  have hSn := And.intro (hSn.1.ext hba) (And.intro (hSn.2.1.below hba) (And.intro (hSn.2.2.1.ext hba) (hSn.2.2.2.below hba))); refine hK _ _ hSn ?_; clear hK; clear K; simp only [setL]
                  refine WH.only 8 _ rfl (by kernel_rfl) rfl (fun K hK => ?_)
                  go_simp; refine (HIn.out _ (HRr.out.below HE.out)).mono ?_; rintro e wx ⟨rfl, rfl⟩; go_simp
                  have hSn := hSn; refine hK _ _ hSn ?_; clear hK; clear K; simp only [setL]
                  refine WH.tk 9 ?_; simp only [setL]
                  refine WH.done (by kernel_rfl) ?_
                  have Da := Lib.hid (bt D.out HE.out)
                  clear hSn HE hba HVr HFr HIr HRr HYr D HA HIn
                  go_wp2_with fail
                  go_roundw
                  case rel => exact ⟨k + 1, by omega, by go_num, Da⟩
                  case measure => simp [intOf]; omega
                · obtain rfl : my = k := by omega
                  have Er := Lib.hid (bt Et.out D.out)
                  have c0 : wr.cell? ⟨w.heap.size, 0, none⟩ = some (.int .i64 K) := by rw [← HK.out]; exact HIr.out.fld 0 (by rw [HXL.out]; omega)
                  clear hlt hk HZ3 HZ4 HVt HFt HIt HRt HRy HVr HFr HRr HYr D Et HCA
                  by_cases hK : K = 1
                  · have q1 : (K != 1) = false := by simpa using hK
                    have q2 : (K == 1) = true := by simpa using hK
                    have q3 := HQ1.out hK
                    rw [Hmo.out, Hmb.out] at q3
                    have q4 : decide ((mo : Int) ≤ (mb : Int) + 1) = true := by simp; omega
                    have q5 : IntKind.i64.wrap ((mb : Int) + 1) = (mb : Int) + 1 := IntWalk.i64_in _ (by omega)
                    clear q3 hK
                    go_wp2_with fail
                    refine (works22_any C _).mono ?_; rintro e wz ⟨rfl, hbz⟩
                    go_wp2_with fail
                    go_ret
                    exact ⟨rfl, bt Er.out hbz⟩
                  · have q1 : (K != 1) = true := by simpa using hK
                    have q2 : (K == 1) = false := by simpa using hK
                    obtain rfl : mb = 0 := by rw [← Hmb.out, HQ2.out hK]; rfl
                    obtain rfl : my = 0 := by rw [← Hmy.out, HQ3.out hK]; rfl
                    clear hK
                    go_wp2_with fail
                    refine (works22_any C _).mono ?_; rintro e wz ⟨rfl, hbz⟩
                    go_wp2_with fail
                    go_ret
                    exact ⟨rfl, bt Er.out hbz⟩

end Go.Proofs.Ytcdbligdcikphaa
