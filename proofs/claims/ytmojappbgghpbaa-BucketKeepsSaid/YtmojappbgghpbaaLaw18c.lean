/-
  Layer 18: the walk of BucketKeeps.
-/
import Derived.Test.YtmojappbgghpbaaLaw18k
import Derived.Test.YtmojappbgghpbaaBckO
import Derived.Test.YtmojappbgghpbaaBck4
import Derived.Test.YtmojappbgghpbaaPat2
namespace Go.Proofs.Ytmojappbgghpbaa
open Go.RowKit

theorem layP_put {b r : List UInt8} (hr : r.length = 32) {q : Nat} (hq : q < 7) : layP b ⟨32 + 32 * (q : Int), r⟩ = putS b q r := by
  have h : (⟨32 + 32 * (q : Int), r⟩ : Pt).right = true := Pt.right_iff.2 ⟨by show 1 ≤ r.length; omega, by show r.length ≤ 256; omega, by show (0 : Int) ≤ 32 + 32 * (q : Int); omega, by show 32 + 32 * (q : Int) ≤ 256 - (r.length : Int); omega⟩
  unfold layP putS
  rw [h, if_pos rfl]
  show splice b (32 + 32 * (q : Int)).toNat r = _
  rw [show (32 + 32 * (q : Int)).toNat = 32 + 32 * q from by omega]
/-- One more. -/
theorem keep_add {l : List En} {e : En} {n : Nat} (hn : l.length = n) (h0 : errB l = 0) (h7 : n < 7) (hi : inN e.name l n = false) (hm : mayE e = true) :
    ∃ X, layP (newS l n) ⟨32 + 32 * (n : Int), bytesE e⟩ = X ∧ X.length = 256 ∧ findS X e.name = some n ∧ entS X n = some e ∧ rightS X = true ∧ (listS X 7).length = n + 1 := by
  subst hn
  obtain ⟨h1, h2, h3⟩ := errB_zero.1 h0
  have hl : (l ++ [e]).length = l.length + 1 := by simp
  have hm' : ∀ x ∈ l ++ [e], mayE x = true := fun x hx => by
    rcases List.mem_append.1 hx with hx | hx
    · exact h2 x hx
    · rw [List.mem_singleton] at hx
      rw [hx]
      exact hm
  have hl7 : (l ++ [e]).length ≤ 7 := by omega
  have hd := dupE_snoc h3 hi
  have hlast : (l ++ [e])[l.length]'(by omega) = e := by simp
  have hx : newS (l ++ [e]) (l ++ [e]).length = putS (newS l l.length) l.length (bytesE e) := newS_snoc l e
  rw [layP_put (bytesE_len hm) h7]
  refine ⟨_, rfl, ?_⟩
  rw [← hx]
  have hf := newS_at hm' hl7 hd (j := l.length) (by omega)
  rw [hlast] at hf
  refine ⟨newS_len hm' hl7 (Nat.le_refl _), hf, ?_, newS_right hm' hl7 hd, ?_⟩
  · rw [newS_ent hm' hl7 (by omega) (Nat.le_refl _), if_pos (by omega), List.getElem?_eq_getElem (by omega), hlast]
  · rw [newS_list hm' hl7 (Nat.le_refl _), hl]
    omega
/-- One less. -/
theorem keep_gone {l : List En} {n : Nat} (hn : l.length = n) (h0 : errB l = 0) {j : Nat} (hj : j < n) :
    ∃ C, layP (newS l n) ⟨32 + 32 * (j : Int), zeros 32⟩ = C ∧ C.length = 256 ∧ rightS C = true ∧ ∀ i x, l[i]? = some x → findS C x.name = (if i = j then none else some i) ∧ (i ≠ j → entS C i = some x) := by
  subst hn
  obtain ⟨h1, h2, h3⟩ := errB_zero.1 h0
  rw [layP_put (zeros_len 32) (by omega)]
  refine ⟨_, rfl, putS_len (newS_len h2 h1 (Nat.le_refl _)) (by omega) (zeros_len _), gone_right h2 h1 h3 hj, fun i x hx => ?_⟩
  obtain ⟨hi, rfl⟩ := List.getElem?_eq_some_iff.1 hx
  refine ⟨gone_find h2 h1 h3 hj hi, fun hne => ?_⟩
  rw [gone_ent h2 h1 hj (by omega), if_neg hne, if_pos hi, List.getElem?_eq_getElem hi]
theorem Blk.slot1 {w : World} {g : Nat} {t : TypeId} {a b : Int} {s : ByteArray} (h : Blk w g t #[.int .i64 a, .string s, .int .i64 b]) : ∀ j v, [Value.string s, Value.int .i64 b][j]? = some v → w.cell? ((⟨g, 1, none⟩ : Addr).add j) = some v := fun j v hj => by
  match j, hj with
  | 0, hj => injection hj with hj; subst hj; exact h.cell 1
  | 1, hj => injection hj with hj; subst hj; exact h.cell 2
theorem mod_some (x : UInt8) {n : Nat} (hn : 0 < n) (h7 : n ≤ 7) : ∃ j : Nat, j < n ∧ ((x.toNat : Int) % (n : Int)) = (j : Int) ∧ Int.tmod (x.toNat : Int) (n : Int) = (j : Int) ∧ x.toNat % n = j ∧ IntKind.i64.wrap (j : Int) = (j : Int) := by
  have h := Nat.mod_lt x.toNat hn
  refine ⟨x.toNat % n, h, by omega, ?_, rfl, IntWalk.i64_in _ (by omega)⟩
  rw [Int.tmod_eq_emod_of_nonneg (by omega)]
  omega

set_option maxRecDepth 100000 in
set_option maxHeartbeats 12800000 in
theorem bucketKeeps_any (A : Option Addr) (n cap : Nat) (l : List En) (hn : l.length = n) (hm : n ≤ maxLen) (e : En) (he : EnOK e) (gone : UInt8) (w : World) (hr : RN w A 2 (erows l)) :
    Calls Try.prog 7 #[.slice A n cap, .agg (ecells e), .int .u8 (gone.toNat : Int)] w fun x w' => x = .returned (.bool true) ∧ Below w.heap.size w w' := by
  have HzL : Hid ((zeros 256).length = 256) := Lib.hid (zeros_len _)
  have HNL := Lib.hid (newB_len l)
  have HM := Lib.hid (fun w h => rmuch18_any A n cap l hn hm 7 (by omega) w h)
  have HBn := Lib.hid (fun hs w h => bnew_any A n cap l hn hm hs w h)
  have Hr := Lib.hid hr
  have Hn := Lib.hid hn
  have Hs := Lib.hid he.1
  have HPa := Lib.hid (fun k w => bput_any k e he.1 w)
  have HAdd := Lib.hid (fun h0 h7 hi hm => keep_add (e := e) hn h0 h7 hi hm)
  have HGo := Lib.hid (fun h0 j hj => keep_gone (j := j) hn h0 hj)
  have HPt := Lib.hid (fun (k : Int) => (⟨fun h h' => putT_yes (k := k) (e := e) h h', fun h h' => putT_not (k := k) (e := e) h h'⟩ : (slotB k = true → mayE e = true → _) ∧ (slotB k = true → mayE e = false → _)))
  obtain ⟨s, i⟩ := e
  have Hs : Hid (s.size ≤ maxLen) := Hs
  have hx := gone.toNat_lt
  clear hr he
  go_enter Try.func7, Try.ntmps7
  go_wp2_with (refine wpList_box_row rfl _ _ rfl _ rfl ?_)
  apply Stop.go; intro w1 Hg1 Hb1
  have E1 := Lib.hid Hg1.out.1
  clear Hg1
  go_wp2_with fail
  refine (HM.out _ (Hr.out.below E1.out)).mono ?_; rintro e w2 ⟨rfl, hb2⟩
  have HE2 := Lib.hid (show Blk w2 w.heap.size 39 #[.string s, .int .i64 i] from Hb1.out.ext hb2)
  have E2 := Lib.hid (bt E1.out hb2)
  clear hb2 HM Hb1 E1
  cases hmu : muchB l 7
  · have hns := muchB_no hmu
    have Hss := Lib.hid (show ∀ e ∈ l, e.name.size ≤ maxLen from fun e he => Nat.le_trans (hns.2 e he) (by unfold maxLen; omega))
    have Hn7 := Lib.hid (show n ≤ 7 by have := hns.1; omega)
    have c0 : w2.cell? ⟨w.heap.size, 0, none⟩ = some (.string s) := HE2.out.cell 0
    clear hmu hns hn hm
    by_cases h60 : 60 < s.size
    · have d0 : decide ((60 : Int) < (s.size : Int)) = true := by simp; omega
      have d1 : decide (60 < s.size) = true := decide_eq_true h60
      clear h60
      go_wp2_with fail
      refine (works18_any _).mono ?_; rintro e w3 ⟨rfl, hb3⟩
      go_wp2_with fail
      go_ret
      exact ⟨rfl, bt E2.out hb3⟩
    · have d0 : decide ((60 : Int) < (s.size : Int)) = false := by simp; omega
      have d1 : decide (60 < s.size) = false := decide_eq_false h60
      clear h60
      go_wp2_with fail
      refine (HBn.out Hss.out _ (Hr.out.below E2.out)).mono ?_; rintro e w3 ⟨rfl, hb3⟩
      have HE3 := Lib.hid (HE2.out.ext hb3)
      have E3 := Lib.hid (bt E2.out hb3)
      have z3 := Lib.hid (show w.heap.size < w3.heap.size from HE3.out.lt)
      obtain ⟨X, hX⟩ : ∃ X, newB l = X := ⟨_, rfl⟩
      have HX := Lib.hid hX
      rw [hX] at HNL ⊢
      clear hb3 HE2 E2 HBn c0 hX
      go_wp2_with (refine wpList_alloc_row rfl _ rfl _ Try.blockZero ?_)
      apply Stop.go; intro w4 Hg4 Hb4
      go_wp2_with (refine wpList_store_arr rfl _ _ _ rfl _ _ rfl rfl _ _ Hb4.out (Try.blockFits HNL.out) (by rw [bcells_size, bcells_size, HNL.out, HzL.out]) (oneCell_bcells _) ?_)
      apply Stop.go; intro w5 Ho5 Hb5
      have D5 := Lib.hid (bonly Hg4.out.1 Ho5.out (Nat.le_refl _))
      have HE5 := Lib.hid (HE3.out.ext D5.out)
      have E5 := Lib.hid (bt E3.out D5.out)
      generalize w3.heap.size = g3 at *
      clear Hg4 Hb4 Ho5 D5 HE3 E3
      by_cases herr : errB l = 0
      · have hNB := newB_ok herr
        rw [HX.out, Hn.out] at hNB
        obtain ⟨h71, hma, hdu⟩ := errB_zero.1 herr
        have hrm := newS_room hma h71
        rw [Hn.out, ← hNB] at hrm
        have HRi := Lib.hid (show (roomS X).isSome = decide (n < 7) by rw [hrm]; by_cases h : n < 7 <;> simp [h])
        have HRv := Lib.hid (show n < 7 → roomV X = n from fun h => by unfold roomV; rw [hrm, if_pos h]; rfl)
        have hfi := newS_find hma h71 (k := n) (by rw [Hn.out]; exact Nat.le_refl _) s
        rw [← hNB] at hfi
        have HFi := Lib.hid hfi
        have HAd := Lib.hid (HAdd.out herr)
        have HGn := Lib.hid (HGo.out herr)
        rw [← hNB] at HAd HGn
        rw [herr]
        clear hNB h71 hma hdu hrm hfi HAdd HGo HX herr
        go_wp2_with (refine wpList_load_arr rfl _ _ rfl _ rfl _ _ Hb5.out _ _ Try.underlying26 (Try.blockFits HNL.out) ?_)
        refine (broom_any X HNL.out _).mono ?_; rintro e w6 ⟨rfl, hb6⟩
        have HE6 := Lib.hid (HE5.out.ext hb6)
        have HX6 := Lib.hid (Hb5.out.ext hb6)
        have E6 := Lib.hid (bt E5.out hb6)
        have c0 : w6.cell? ⟨w.heap.size, 0, none⟩ = some (.string s) := HE6.out.cell 0
        obtain ⟨rv, hrv⟩ : ∃ r, roomV X = r := ⟨_, rfl⟩
        rw [hrv] at HRv
        rw [HRi.out, hrv]
        clear hb6 HE5 Hb5 E5 HRi hrv
        go_wp2_with (refine wpList_load_arr rfl _ _ rfl _ rfl _ _ HX6.out _ _ Try.underlying26 (Try.blockFits HNL.out) ?_)
        refine (bfind_any X HNL.out s _).mono ?_; rintro e w7 ⟨rfl, hb7⟩
        have HE7 := Lib.hid (HE6.out.ext hb7)
        have HX7 := Lib.hid (HX6.out.ext hb7)
        have E7 := Lib.hid (bt E6.out hb7)
        have z7 := Lib.hid (show w.heap.size < w7.heap.size ∧ g3 < w7.heap.size from ⟨HE7.out.lt, HX7.out.lt⟩)
        obtain ⟨fa, ft, fc, hF⟩ := fndC_form X s
        rw [hF, HFi.out]
        clear hb7 HE6 HX6 E6 c0 hF HFi
        go_wp2_with (refine wpList_alloc_row rfl _ rfl _ Try.slotZero ?_)
        apply Stop.go; intro w8 Hg8 Hb8
        go_wp2_with (refine wpList_store_arr rfl _ _ _ rfl _ #[.int .i64 fa, .string ft, .int .i64 fc] rfl rfl _ _ Hb8.out Try.slotSize rfl (by simp [Value.oneCell']) ?_)
        apply Stop.go; intro w9 Ho9 Hb9
        have D9 := Lib.hid (bonly Hg8.out.1 Ho9.out (Nat.le_refl _))
        have HE9 := Lib.hid (HE7.out.ext D9.out)
        have HX9 := Lib.hid (HX7.out.ext D9.out)
        have E9 := Lib.hid (bt E7.out D9.out)
        generalize w7.heap.size = g7 at *
        clear Hg8 Hb8 Ho9 D9 HE7 HX7 E7 Hb9 z7
        go_wp2_with (refine wpList_load_blk rfl _ _ rfl _ rfl _ _ HE9.out _ Try.underlying39 rfl Try.entSize ?_)
        refine (HPa.out (rv : Int) _).mono ?_; rintro e wa ⟨A1, n1, c1, rfl, hpa, hba⟩
        obtain ⟨a1, D1, hp1⟩ : ∃ a D, putT (rv : Int) ⟨s, i⟩ = ⟨a, D⟩ := ⟨_, _, rfl⟩
        obtain ⟨r1, hr1⟩ : ∃ r, putC (rv : Int) ⟨s, i⟩ = r := ⟨_, rfl⟩
        have Hp1 := Lib.hid hp1
        have Hr1 := Lib.hid hr1
        rw [hp1] at hpa ⊢
        rw [hr1]
        have HPx := Lib.hid hpa
        have HEa := Lib.hid (HE9.out.ext hba)
        have HXa := Lib.hid (HX9.out.ext hba)
        have Ea := Lib.hid (bt E9.out hba)
        have za := Lib.hid (show w.heap.size < wa.heap.size from HEa.out.lt)
        clear hba hpa hp1 hr1 HE9 HX9 E9 HPa
        go_wp2_with (refine wpList_alloc_row rfl _ rfl _ Try.patchZero ?_)
        apply Stop.go; intro wb Hgb Hbb
        go_wp2_with (refine wpList_store_arr rfl _ _ _ rfl _ #[.int .i64 a1, .slice A1 n1 c1] rfl rfl _ _ Hbb.out Try.patchSize rfl (by simp [Value.oneCell']) ?_)
        apply Stop.go; intro wc Hoc Hbc
        have Dc := Lib.hid (bonly Hgb.out.1 Hoc.out (Nat.le_refl _))
        have HEc := Lib.hid (HEa.out.ext Dc.out)
        have HXc := Lib.hid (HXa.out.ext Dc.out)
        have HPc := Lib.hid (HPx.out.below Dc.out)
        have Ec := Lib.hid (bt Ea.out Dc.out)
        generalize wa.heap.size = ga at *
        clear Hgb Hbb Hoc Dc HEa HXa HPx Ea za
        obtain ⟨has, hhas⟩ : ∃ r, inN s l n = r := ⟨_, rfl⟩
        rw [hhas]
        have Hh := Lib.hid hhas
        clear hhas
        by_cases h7 : n < 7
        · have x0 : decide (n < 7) = true := decide_eq_true h7
          rw [x0]
          obtain rfl := (HRv.out h7).symm
          have hsl : slotB (n : Int) = true := decide_eq_true (by omega)
          cases has
          · cases hme : mayE ⟨s, i⟩
            · have hq := (HPt.out (n : Int)).2 hsl hme
              have hr := Hr1.out
              rw [hq.2] at hr
              subst hr
              clear hq hme hsl h7 x0
              go_upto_region 14 with fail
              have HXy := HXc
              have Ey := Ec
              clear HXc Ec HEc HPc Hbc HAd HPt Hp1 Hr1 HRv Hh
              generalize wc = wy at *
              by_cases hn0 : n = 0
              · subst hn0
                have f0 : ((0 : Int) == 0) = true := rfl
                go_wp2_with fail
                refine (works18_any _).mono ?_; rintro e wz ⟨rfl, hbz⟩
                go_wp2_with fail
                go_ret
                exact ⟨rfl, bt Ey.out hbz⟩
              · have f0 : ((n : Int) == 0) = false := by simpa using hn0
                have f1 : (n == 0) = false := by simpa using hn0
                obtain ⟨j, hjn, j1, j2, j3, j4⟩ := mod_some gone (n := n) (by omega) Hn7.out
                obtain ⟨C, hC, hCL, hCR, hCf⟩ := HGn.out j hjn
                have hn0z : (n : Int) ≠ 0 := by omega
                have hjs : slotB (j : Int) = true := decide_eq_true (by have := Hn7.out; omega)
                have hct := clrT_yes hjs
                have HC := Lib.hid hC
                have HCL := Lib.hid hCL
                have HCR := Lib.hid hCR
                have HCf := Lib.hid hCf
                have HCt := Lib.hid hct
                clear hC hCL hCR hCf hct hjs HGn
                go_wp2_with fail
                refine (bclear_any (j : Int) _).mono ?_; rintro e wz ⟨A2, n2, c2, rfl, hp2, hbz⟩
                rw [HCt.out.1] at hp2 ⊢
                rw [HCt.out.2]
                have HQ := Lib.hid hp2
                have HXz := Lib.hid (HXy.out.ext hbz)
                have Ez := Lib.hid (bt Ey.out hbz)
                have zz := Lib.hid (show w.heap.size ≤ wz.heap.size from Ez.out.size)
                clear hbz hp2 HXy Ey HCt
                go_wp2_with (refine wpList_alloc_row rfl _ rfl _ Try.patchZero ?_)
                apply Stop.go; intro wb Hgb Hbb
                go_wp2_with (refine wpList_store_arr rfl _ _ _ rfl _ #[.int .i64 (32 + 32 * (j : Int)), .slice A2 n2 c2] rfl rfl _ _ Hbb.out Try.patchSize rfl (by simp [Value.oneCell']) ?_)
                apply Stop.go; intro wd Hod Hbd
                have Dd := Lib.hid (bonly Hgb.out.1 Hod.out (Nat.le_refl _))
                have HXd := Lib.hid (HXz.out.ext Dd.out)
                have HQd := Lib.hid (HQ.out.below Dd.out)
                have Ed := Lib.hid (bt Ez.out Dd.out)
                generalize wz.heap.size = gz at *
                clear Hgb Hbb Hod Dd HXz HQ Ez zz
                go_wp2_with (first | refine wpList_load_arr rfl _ _ rfl _ rfl _ _ HXd.out _ _ Try.underlying26 (Try.blockFits HNL.out) ?_ | refine wpList_load_blk rfl _ _ rfl _ rfl _ _ Hbd.out _ Try.underlying55 rfl Try.patchSize ?_)
                refine (play_any X HNL.out ⟨32 + 32 * (j : Int), zeros 32⟩ A2 n2 c2 _ HQd.out).mono ?_; rintro e we ⟨rfl, hbe⟩
                rw [HC.out]
                have Ee := Lib.hid (bt Ed.out hbe)
                have ze := Lib.hid (show w.heap.size ≤ we.heap.size from Ee.out.size)
                clear hbe HXd HQd Hbd Ed HC
                go_wp2_with (refine wpList_alloc_row rfl _ rfl _ Try.blockZero ?_)
                apply Stop.go; intro wf Hgf Hbf
                go_wp2_with (refine wpList_store_arr rfl _ _ _ rfl _ _ rfl rfl _ _ Hbf.out (Try.blockFits HCL.out) (by rw [bcells_size, bcells_size, HCL.out, HzL.out]) (oneCell_bcells _) ?_)
                apply Stop.go; intro wg Hog Hbg
                have Eg := Lib.hid (bonly (bt Ee.out Hgf.out.1) Hog.out ze.out)
                generalize we.heap.size = ge at *
                clear Hgf Hbf Hog Ee ze
                go_wp2_with fail
                go_loopw [22] (fun q wr => ∃ k : Nat, k ≤ n ∧ q = .int .i64 k ∧ Below wg.heap.size wg wr) (fun q _ => n - (intOf q).toNat)
                case atStart => exact ⟨0, Nat.zero_le _, rfl, Below.refl _ _⟩
                case round =>
                  obtain ⟨k, hk, rfl, hv⟩ := hrel
                  have HV := Lib.hid hv
                  clear hv
                  by_cases hlt : k < n
                  · have hkl : k < l.length := by rw [Hn.out]; exact hlt
                    obtain ⟨x, hxk⟩ : ∃ x, l[k]? = some x := ⟨_, List.getElem?_eq_getElem hkl⟩
                    have hR := Hr.out.below (bt Eg.out HV.out)
                    obtain ⟨ad, rfl⟩ := hR.adr (k := k) (by rw [erows_len]; exact hkl) (by decide)
                    have HR := Lib.hid hR
                    have HG := Lib.hid (erow_at hxk)
                    have HCx := Lib.hid (HCf.out k x hxk)
                    have e1 : decide (k < n) = true := decide_eq_true hlt
                    have e2 : decide ((k : Int) < (n : Int)) = true := by simp; omega
                    have e3 : (k : Int) < n := by omega
                    have hwk : IntKind.i64.wrap ((k : Int) + 1) = (k : Int) + 1 := IntWalk.i64_in _ (by have := Hn7.out; omega)
                    have Hlt := Lib.hid hlt
                    have HCw := Lib.hid (Hbg.out.ext HV.out)
                    obtain ⟨fa, ft, fc, hF⟩ := fndC_form C x.name
                    have HF := Lib.hid hF
                    obtain ⟨is, his⟩ : ∃ r, (findS C x.name).isSome = r := ⟨_, rfl⟩
                    have HIs := Lib.hid his
                    have HFn := Lib.hid (fun w => bfind_any C HCL.out x.name w)
                    rw [hF, his] at HFn
                    have zr := Lib.hid (show w.heap.size ≤ wr.heap.size from (bt Eg.out HV.out).size)
                    clear hxk hR hkl hlt hk hF his
                    go_wp2_with fail
                    refine WH.start (S := fun w' : World => Blk w' ge 26 (bcells C) ∧ RN w' (some ad) 2 (erows l)) [false, false, false, false, false, false, false, false, false, false, false, false, false] 13 rfl rfl (by kernel_rfl) ⟨HCw.out.ext (bdrew wr 1), HR.out.below (bdrew wr 1)⟩ (fun hSn => ?_); obtain ⟨wS, hwS⟩ : ∃ x, (wr).drew = x := ⟨_, rfl⟩; have HE := Lib.hid (show Below (wr).heap.size (wr) wS from hwS ▸ bdrew wr 1); rw [hwS] at hSn ⊢; clear hwS
                    refine WH.tv 0 rfl (fun w' hSw => exec_load_blk _ _ rfl _ rfl _ _ (hSw.1) _ (Try.underlying26) rfl (Try.blockFits HCL.out)) ?_; simp only [setL]
                    refine WH.tk 1 ?_; simp only [setL]
                    refine WH.tk 2 ?_; simp only [setL]
                    refine WH.tk 3 ?_; simp only [setL]
                    refine WH.tk 4 ?_; simp only [setL]
                    refine WH.tv 5 rfl (fun w' hSw => exec_load_cell _ _ rfl _ rfl (.string x.name) (by have := hSw.2.row HG.out rfl 0 _ rfl; rwa [add_of_add] at this) _ Try.underlying9 rfl) ?_; simp only [setL]
                    refine WH.two 6 10 _ _ rfl rfl (by kernel_rfl) rfl rfl (fun K hK => ?_) (fun K hK => ?_)
                    · go_simp; refine (HFn.out _).mono ?_; rintro e wh ⟨rfl, hbh⟩; go_simp
                      have HE := Lib.hid (bt HE.out hbh)
                      have hSn := And.intro (hSn.1.ext hbh) (hSn.2.below hbh); refine hK _ _ hSn ?_; clear hK; clear K; simp only [setL]
                      refine WH.tk 7 ?_; simp only [setL]
                      refine WH.tk 8 ?_; simp only [setL]
                      refine WH.tk 9 ?_; simp only [setL]
                      have zN := Lib.hid (show wr.heap.size ≤ wh.heap.size ∧ ge < wh.heap.size from ⟨HE.out.size, hSn.1.lt⟩)
                      refine WH.only 10 _ rfl (by kernel_rfl) rfl (fun K hK => ?_)
                      refine ow_alloc _ rfl _ Try.slotZero ?_
                      apply Stop.go; intro wi Hgi Hbi
                      have HE := Lib.hid (bt HE.out Hgi.out.1)
                      have hSn := And.intro (hSn.1.ext Hgi.out.1) (hSn.2.below Hgi.out.1); refine hK _ _ hSn ?_; clear hK; clear K; simp only [setL]
                      refine WH.only 11 _ rfl (by kernel_rfl) rfl (fun K hK => ?_)
                      refine ow_store _ _ _ rfl _ #[.int .i64 fa, .string ft, .int .i64 fc] rfl rfl _ _ Hbi.out Try.slotSize rfl (by simp [Value.oneCell']) ?_
                      apply Stop.go; intro wq Hoq Hbq
                      have hDq : Below wh.heap.size wh wq := bonly Hgi.out.1 Hoq.out (Nat.le_refl _)
                      have hRq : RN wq (some ad) 2 (erows l) := HR.out.below (bonly HE.out Hoq.out zN.out.1)
                      have hVq : Below wr.heap.size wr wq := bonly HE.out Hoq.out zN.out.1
                      have hSn := And.intro (hSn.1.only Hoq.out (by have := zN.out; omega)) hRq; refine hK _ _ hSn ?_; clear hK; clear K; simp only [setL]
                      refine WH.tk 12 ?_; simp only [setL]
                      refine WH.done (by kernel_rfl) ?_
                      have HFq := Lib.hid Hbq.out
                      have HRq := Lib.hid hRq
                      have Vq := Lib.hid (bt HV.out hVq)
                      generalize wh.heap.size = gN at *
                      clear HE hSn hbh Hgi Hbi Hoq Hbq hDq hRq hVq HCw HR HV HFn
                      go_wp2_with fail
                      by_cases hkj : k = j
                      · subst hkj
                        have hz := HIs.out
                        rw [HCx.out.1, if_pos rfl] at hz
                        obtain rfl : is = false := hz.symm
                        have f3 : ((k : Int) != (k : Int)) = false := by simp
                        clear hz HIs HCx HF
                        refine WH.start (S := fun w' : World => Blk w' gN 43 #[.int .i64 fa, .string ft, .int .i64 fc]) [false, false, false, false, false, false, false, false, false, false, false, false, false, false, false, false, false] 17 rfl rfl (by kernel_rfl) (HFq.out.ext (bdrew wq 1)) (fun hSn => ?_); obtain ⟨wT, hwS⟩ : ∃ x, (wq).drew = x := ⟨_, rfl⟩; have HE := Lib.hid (show Below (wq).heap.size (wq) wT from hwS ▸ bdrew wq 1); rw [hwS] at hSn ⊢; clear hwS
                        refine WH.tk 0 ?_; simp only [setL]
                        refine WH.tk 1 ?_; simp only [setL]
                        refine WH.tk 2 ?_; simp only [setL]
                        refine WH.tk 3 ?_; simp only [setL]
                        refine WH.tk 4 ?_; simp only [setL]
                        refine WH.tk 5 ?_; simp only [setL]
                        refine WH.tk 6 ?_; simp only [setL]
                        refine WH.tk 7 ?_; simp only [setL]
                        refine WH.skip 8 _ rfl (by kernel_rfl) (fun _ _ _ h => h) rfl (by assumption) ?_; simp only [setL]
                        refine WH.skip 9 _ rfl (by kernel_rfl) (fun _ _ _ h => h) rfl (by assumption) ?_; simp only [setL]
                        refine WH.skip 10 _ rfl (by kernel_rfl) (fun _ _ _ h => h) rfl (by assumption) ?_; simp only [setL]
                        refine WH.skip 11 _ rfl (by kernel_rfl) (fun _ _ _ h => h) rfl (by assumption) ?_; simp only [setL]
                        refine WH.skip 12 _ rfl (by kernel_rfl) (fun _ _ _ h => h) rfl (by assumption) ?_; simp only [setL]
                        refine WH.skip 13 _ rfl (by kernel_rfl) (fun _ _ _ h => h) rfl (by assumption) ?_; simp only [setL]
                        refine WH.skip 14 _ rfl (by kernel_rfl) (fun _ _ _ h => h) rfl (by assumption) ?_; simp only [setL]
                        refine WH.tk 15 ?_; simp only [setL]
                        refine WH.tk 16 ?_; simp only [setL]
                        refine WH.done (by kernel_rfl) ?_
                        have Vz := Lib.hid (bt Vq.out HE.out)
                        clear HE hSn HFq HRq Vq
                        go_wp2_with fail
                        go_roundw
                        case rel => exact ⟨k + 1, by have := Hlt.out; omega, by go_num, Vz.out⟩
                        case measure => have := Hlt.out; simp [intOf]; omega
                      · have hz := HIs.out
                        rw [HCx.out.1, if_neg hkj] at hz
                        obtain rfl : is = true := hz.symm
                        have hf := HF.out
                        rw [fndC_at (by rw [HCx.out.1, if_neg hkj]) (HCx.out.2 hkj)] at hf
                        injection hf with hf
                        injection hf with q1 hf
                        injection hf with q2 hf
                        injection hf with q3 _
                        injection q1 with _ q1
                        injection q2 with q2
                        injection q3 with _ q3
                        subst q1; subst q2; subst q3
                        have f3 : ((k : Int) != (j : Int)) = true := by simp; omega
                        have f4 : (k != j) = true := by simpa using hkj
                        clear hz HIs HCx HF hkj
                        refine WH.start (S := fun w' : World => Blk w' gN 43 #[.int .i64 (k : Int), .string x.name, .int .i64 x.ino] ∧ RN w' (some ad) 2 (erows l)) [false, false, false, false, false, false, false, false, false, false, false, false, false, false, false, false, false] 17 rfl rfl (by kernel_rfl) ⟨HFq.out.ext (bdrew wq 1), HRq.out.below (bdrew wq 1)⟩ (fun hSn => ?_); obtain ⟨wT, hwS⟩ : ∃ x, (wq).drew = x := ⟨_, rfl⟩; have HE := Lib.hid (show Below (wq).heap.size (wq) wT from hwS ▸ bdrew wq 1); rw [hwS] at hSn ⊢; clear hwS
                        refine WH.tk 0 ?_; simp only [setL]
                        refine WH.tk 1 ?_; simp only [setL]
                        refine WH.tk 2 ?_; simp only [setL]
                        refine WH.tk 3 ?_; simp only [setL]
                        refine WH.tk 4 ?_; simp only [setL]
                        refine WH.tk 5 ?_; simp only [setL]
                        refine WH.tk 6 ?_; simp only [setL]
                        refine WH.tk 7 ?_; simp only [setL]
                        refine WH.tk 8 ?_; simp only [setL]
                        refine WH.tv 9 rfl (fun w' hSw => exec_load_cells _ _ rfl ⟨gN, 1, none⟩ rfl _ Try.underlying39 [.string x.name, .int .i64 x.ino] Try.entSize hSw.1.slot1) ?_; simp only [setL]
                        refine WH.tk 10 ?_; simp only [setL]
                        refine WH.tk 11 ?_; simp only [setL]
                        refine WH.tk 12 ?_; simp only [setL]
                        refine WH.tv 13 rfl (fun w' hSw => exec_load_cells _ _ rfl (ad.add (k * 2)) rfl _ Try.underlying39 [.string x.name, .int .i64 x.ino] Try.entSize (hSw.2.row HG.out rfl)) ?_; simp only [setL]
                        refine WH.tv 14 rfl (fun w' hSw => exec_eql_agg _ _ _ _ _ rfl (by kernel_rfl) _ _ rfl rfl _ (neq_ent_same x.ino x.name _)) ?_; simp only [setL]
                        refine WH.tk 15 ?_; simp only [setL]
                        refine WH.tk 16 ?_; simp only [setL]
                        refine WH.done (by kernel_rfl) ?_
                        have Vz := Lib.hid (bt Vq.out HE.out)
                        clear HE hSn HFq HRq Vq
                        go_wp2_with fail
                        go_roundw
                        case rel => exact ⟨k + 1, by have := Hlt.out; omega, by go_num, Vz.out⟩
                        case measure => have := Hlt.out; simp [intOf]; omega
                    · refine ow_alloc _ rfl _ Try.slotZero ?_
                      apply Stop.go; intro wi Hgi Hbi
                      have zS := Lib.hid (show wr.heap.size ≤ wS.heap.size ∧ ge < wS.heap.size from ⟨HE.out.size, hSn.1.lt⟩)
                      have HE := Lib.hid (bt HE.out Hgi.out.1)
                      have hSn := And.intro (hSn.1.ext Hgi.out.1) (hSn.2.below Hgi.out.1); refine hK _ _ hSn ?_; clear hK; clear K; simp only [setL]
                      refine WH.only 6 _ rfl (by kernel_rfl) rfl (fun K hK => ?_)
                      go_simp; refine (HFn.out _).mono ?_; rintro e wh ⟨rfl, hbh⟩; go_simp
                      have HE := Lib.hid (bt HE.out hbh)
                      have HBi := Lib.hid (Hbi.out.ext hbh)
                      have hSn := And.intro (hSn.1.ext hbh) (hSn.2.below hbh); refine hK _ _ hSn ?_; clear hK; clear K; simp only [setL]
                      refine WH.tk 7 ?_; simp only [setL]
                      refine WH.tk 8 ?_; simp only [setL]
                      refine WH.tk 9 ?_; simp only [setL]
                      refine WH.only 11 _ rfl (by kernel_rfl) rfl (fun K hK => ?_)
                      refine ow_store _ _ _ rfl _ #[.int .i64 fa, .string ft, .int .i64 fc] rfl rfl _ _ HBi.out Try.slotSize rfl (by simp [Value.oneCell']) ?_
                      apply Stop.go; intro wq Hoq Hbq
                      have hVq : Below wr.heap.size wr wq := bonly HE.out Hoq.out zS.out.1
                      have hRq : RN wq (some ad) 2 (erows l) := HR.out.below hVq
                      have hSn := And.intro (hSn.1.only Hoq.out (by have := zS.out; omega)) hRq; refine hK _ _ hSn ?_; clear hK; clear K; simp only [setL]
                      refine WH.tk 12 ?_; simp only [setL]
                      refine WH.done (by kernel_rfl) ?_
                      have HFq := Lib.hid Hbq.out
                      have HRq := Lib.hid hRq
                      have Vq := Lib.hid (bt HV.out hVq)
                      generalize wS.heap.size = gN at *
                      clear HE hSn hbh Hgi Hbi HBi Hoq Hbq hRq hVq HCw HR HV HFn
                      go_wp2_with fail
                      by_cases hkj : k = j
                      · subst hkj
                        have hz := HIs.out
                        rw [HCx.out.1, if_pos rfl] at hz
                        obtain rfl : is = false := hz.symm
                        have f3 : ((k : Int) != (k : Int)) = false := by simp
                        clear hz HIs HCx HF
                        refine WH.start (S := fun w' : World => Blk w' gN 43 #[.int .i64 fa, .string ft, .int .i64 fc]) [false, false, false, false, false, false, false, false, false, false, false, false, false, false, false, false, false] 17 rfl rfl (by kernel_rfl) (HFq.out.ext (bdrew wq 1)) (fun hSn => ?_); obtain ⟨wT, hwS⟩ : ∃ x, (wq).drew = x := ⟨_, rfl⟩; have HE := Lib.hid (show Below (wq).heap.size (wq) wT from hwS ▸ bdrew wq 1); rw [hwS] at hSn ⊢; clear hwS
                        refine WH.tk 0 ?_; simp only [setL]
                        refine WH.tk 1 ?_; simp only [setL]
                        refine WH.tk 2 ?_; simp only [setL]
                        refine WH.tk 3 ?_; simp only [setL]
                        refine WH.tk 4 ?_; simp only [setL]
                        refine WH.tk 5 ?_; simp only [setL]
                        refine WH.tk 6 ?_; simp only [setL]
                        refine WH.tk 7 ?_; simp only [setL]
                        refine WH.skip 8 _ rfl (by kernel_rfl) (fun _ _ _ h => h) rfl (by assumption) ?_; simp only [setL]
                        refine WH.skip 9 _ rfl (by kernel_rfl) (fun _ _ _ h => h) rfl (by assumption) ?_; simp only [setL]
                        refine WH.skip 10 _ rfl (by kernel_rfl) (fun _ _ _ h => h) rfl (by assumption) ?_; simp only [setL]
                        refine WH.skip 11 _ rfl (by kernel_rfl) (fun _ _ _ h => h) rfl (by assumption) ?_; simp only [setL]
                        refine WH.skip 12 _ rfl (by kernel_rfl) (fun _ _ _ h => h) rfl (by assumption) ?_; simp only [setL]
                        refine WH.skip 13 _ rfl (by kernel_rfl) (fun _ _ _ h => h) rfl (by assumption) ?_; simp only [setL]
                        refine WH.skip 14 _ rfl (by kernel_rfl) (fun _ _ _ h => h) rfl (by assumption) ?_; simp only [setL]
                        refine WH.tk 15 ?_; simp only [setL]
                        refine WH.tk 16 ?_; simp only [setL]
                        refine WH.done (by kernel_rfl) ?_
                        have Vz := Lib.hid (bt Vq.out HE.out)
                        clear HE hSn HFq HRq Vq
                        go_wp2_with fail
                        go_roundw
                        case rel => exact ⟨k + 1, by have := Hlt.out; omega, by go_num, Vz.out⟩
                        case measure => have := Hlt.out; simp [intOf]; omega
                      · have hz := HIs.out
                        rw [HCx.out.1, if_neg hkj] at hz
                        obtain rfl : is = true := hz.symm
                        have hf := HF.out
                        rw [fndC_at (by rw [HCx.out.1, if_neg hkj]) (HCx.out.2 hkj)] at hf
                        injection hf with hf
                        injection hf with q1 hf
                        injection hf with q2 hf
                        injection hf with q3 _
                        injection q1 with _ q1
                        injection q2 with q2
                        injection q3 with _ q3
                        subst q1; subst q2; subst q3
                        have f3 : ((k : Int) != (j : Int)) = true := by simp; omega
                        have f4 : (k != j) = true := by simpa using hkj
                        clear hz HIs HCx HF hkj
                        refine WH.start (S := fun w' : World => Blk w' gN 43 #[.int .i64 (k : Int), .string x.name, .int .i64 x.ino] ∧ RN w' (some ad) 2 (erows l)) [false, false, false, false, false, false, false, false, false, false, false, false, false, false, false, false, false] 17 rfl rfl (by kernel_rfl) ⟨HFq.out.ext (bdrew wq 1), HRq.out.below (bdrew wq 1)⟩ (fun hSn => ?_); obtain ⟨wT, hwS⟩ : ∃ x, (wq).drew = x := ⟨_, rfl⟩; have HE := Lib.hid (show Below (wq).heap.size (wq) wT from hwS ▸ bdrew wq 1); rw [hwS] at hSn ⊢; clear hwS
                        refine WH.tk 0 ?_; simp only [setL]
                        refine WH.tk 1 ?_; simp only [setL]
                        refine WH.tk 2 ?_; simp only [setL]
                        refine WH.tk 3 ?_; simp only [setL]
                        refine WH.tk 4 ?_; simp only [setL]
                        refine WH.tk 5 ?_; simp only [setL]
                        refine WH.tk 6 ?_; simp only [setL]
                        refine WH.tk 7 ?_; simp only [setL]
                        refine WH.tk 8 ?_; simp only [setL]
                        refine WH.tv 9 rfl (fun w' hSw => exec_load_cells _ _ rfl ⟨gN, 1, none⟩ rfl _ Try.underlying39 [.string x.name, .int .i64 x.ino] Try.entSize hSw.1.slot1) ?_; simp only [setL]
                        refine WH.tk 10 ?_; simp only [setL]
                        refine WH.tk 11 ?_; simp only [setL]
                        refine WH.tk 12 ?_; simp only [setL]
                        refine WH.tv 13 rfl (fun w' hSw => exec_load_cells _ _ rfl (ad.add (k * 2)) rfl _ Try.underlying39 [.string x.name, .int .i64 x.ino] Try.entSize (hSw.2.row HG.out rfl)) ?_; simp only [setL]
                        refine WH.tv 14 rfl (fun w' hSw => exec_eql_agg _ _ _ _ _ rfl (by kernel_rfl) _ _ rfl rfl _ (neq_ent_same x.ino x.name _)) ?_; simp only [setL]
                        refine WH.tk 15 ?_; simp only [setL]
                        refine WH.tk 16 ?_; simp only [setL]
                        refine WH.done (by kernel_rfl) ?_
                        have Vz := Lib.hid (bt Vq.out HE.out)
                        clear HE hSn HFq HRq Vq
                        go_wp2_with fail
                        go_roundw
                        case rel => exact ⟨k + 1, by have := Hlt.out; omega, by go_num, Vz.out⟩
                        case measure => have := Hlt.out; simp [intOf]; omega
                  · have hkn : k = n := by omega
                    subst hkn
                    have e1 : decide (k < k) = false := by simp
                    have e2 : decide ((k : Int) < k) = false := by simp
                    have HCw := Lib.hid (Hbg.out.ext HV.out)
                    have Ew := Lib.hid (bt Eg.out HV.out)
                    clear hk hlt
                    go_wp2_with (refine wpList_load_arr rfl _ _ rfl _ rfl _ _ HCw.out _ _ Try.underlying26 (Try.blockFits HCL.out) ?_)
                    refine (bright_any C HCL.out _).mono ?_; rintro e wx ⟨rfl, hbx⟩
                    rw [HCR.out]
                    go_wp2_with fail
                    refine (works18_any _).mono ?_; rintro e wu ⟨rfl, hbu⟩
                    go_wp2_with fail
                    go_ret
                    exact ⟨rfl, bt (bt Ew.out hbx) hbu⟩
            · have hq := (HPt.out (n : Int)).1 hsl hme
              have hr := Hr1.out
              have hp := Hp1.out
              rw [hq.2] at hr
              rw [hq.1] at hp
              injection hp with hp hp'
              subst hr; subst hp; subst hp'
              obtain ⟨X2, hL2, hXL2, hf2, he2, hr2, hl2⟩ := HAd.out h7 Hh.out hme
              have HL2 := Lib.hid hL2
              have HXL2 := Lib.hid hXL2
              have Hf2 := Lib.hid (show (findS X2 s).isSome = true by rw [show findS X2 s = some n from hf2]; rfl)
              have HF2 := Lib.hid (show fndC X2 s = #[.int .i64 (n : Int), .string s, .int .i64 i] from fndC_at hf2 he2)
              have HR2 := Lib.hid hr2
              have Hl2 := Lib.hid hl2
              clear hq hme hsl x0 hL2 hXL2 hf2 he2 hr2 hl2
              go_wp2_with (first | refine wpList_load_arr rfl _ _ rfl _ rfl _ _ HXc.out _ _ Try.underlying26 (Try.blockFits HNL.out) ?_ | refine wpList_load_blk rfl _ _ rfl _ rfl _ _ Hbc.out _ Try.underlying55 rfl Try.patchSize ?_)
              refine (play_any X HNL.out ⟨32 + 32 * (n : Int), bytesE ⟨s, i⟩⟩ A1 n1 c1 _ HPc.out).mono ?_; rintro e wd ⟨rfl, hbd⟩
              rw [HL2.out]
              have HEd := Lib.hid (HEc.out.ext hbd)
              have HXd := Lib.hid (HXc.out.ext hbd)
              have Ed := Lib.hid (bt Ec.out hbd)
              have zd := Lib.hid (show w.heap.size < wd.heap.size from HEd.out.lt)
              clear hbd HEc HXc HPc Hbc Ec HL2 HAd HPt Hp1 Hr1 HRv Hh
              go_wp2_with (refine wpList_alloc_row rfl _ rfl _ Try.blockZero ?_)
              apply Stop.go; intro we Hge Hbe
              go_wp2_with (refine wpList_store_arr rfl _ _ _ rfl _ _ rfl rfl _ _ Hbe.out (Try.blockFits HXL2.out) (by rw [bcells_size, bcells_size, HXL2.out, HzL.out]) (oneCell_bcells _) ?_)
              apply Stop.go; intro wf Hof Hbf
              have Df := Lib.hid (bonly Hge.out.1 Hof.out (Nat.le_refl _))
              have HEf := Lib.hid (HEd.out.ext Df.out)
              have HXf := Lib.hid (HXd.out.ext Df.out)
              have Ef := Lib.hid (bt Ed.out Df.out)
              generalize wd.heap.size = gd at *
              clear Hge Hbe Hof Df HEd HXd Ed zd
              have c0 : wf.cell? ⟨w.heap.size, 0, none⟩ = some (.string s) := HEf.out.cell 0
              go_wp2_with (refine wpList_load_arr rfl _ _ rfl _ rfl _ _ Hbf.out _ _ Try.underlying26 (Try.blockFits HXL2.out) ?_)
              refine (bfind_any X2 HXL2.out s _).mono ?_; rintro e wg ⟨rfl, hbg⟩
              rw [HF2.out, Hf2.out]
              have HEg := Lib.hid (HEf.out.ext hbg)
              have HXg := Lib.hid (HXf.out.ext hbg)
              have HYg := Lib.hid (Hbf.out.ext hbg)
              have Eg := Lib.hid (bt Ef.out hbg)
              have zg := Lib.hid (show w.heap.size < wg.heap.size from HEg.out.lt)
              clear hbg HEf HXf Hbf Ef c0 HF2 Hf2
              go_wp2_with (refine wpList_alloc_row rfl _ rfl _ Try.slotZero ?_)
              apply Stop.go; intro wh Hgh Hbh
              go_wp2_with (refine wpList_store_arr rfl _ _ _ rfl _ #[.int .i64 (n : Int), .string s, .int .i64 i] rfl rfl _ _ Hbh.out Try.slotSize rfl (by simp [Value.oneCell']) ?_)
              apply Stop.go; intro wi Hoi Hbi
              have Di := Lib.hid (bonly Hgh.out.1 Hoi.out (Nat.le_refl _))
              have HEi := Lib.hid (HEg.out.ext Di.out)
              have HXi := Lib.hid (HXg.out.ext Di.out)
              have HYi := Lib.hid (HYg.out.ext Di.out)
              have Ei := Lib.hid (bt Eg.out Di.out)
              generalize wg.heap.size = gg at *
              clear Hgh Hbh Hoi Di HEg HXg HYg Eg zg
              have c0 : wi.cell? ⟨gg, 0, none⟩ = some (.int .i64 (n : Int)) := Hbi.out.cell 0
              have f1 : ((n : Int) != (n : Int)) = false := by simp
              go_wp2_with (first | refine wpList_load_arr rfl _ _ rfl _ rfl _ _ HYi.out _ _ Try.underlying26 (Try.blockFits HXL2.out) ?_ | refine wpList_load_blk rfl _ _ rfl _ rfl _ _ HEi.out _ Try.underlying39 rfl Try.entSize ?_ | refine wpList_load_cells rfl _ _ rfl ⟨gg, 1, none⟩ rfl _ Try.underlying39 [.string s, .int .i64 i] Try.entSize Hbi.out.slot1 ?_ | refine wpList_eql_agg rfl .neq _ _ _ _ rfl (by kernel_rfl) _ _ rfl rfl _ (neq_ent_same i s _) ?_)
              refine (bright_any X2 HXL2.out _).mono ?_; rintro e wj ⟨rfl, hbj⟩
              rw [HR2.out]
              have HXj := Lib.hid (HXi.out.ext hbj)
              have HYj := Lib.hid (HYi.out.ext hbj)
              have Ej := Lib.hid (bt Ei.out hbj)
              clear hbj HEi HXi HYi Hbi Ei c0 HR2
              go_wp2_with (refine wpList_load_arr rfl _ _ rfl _ rfl _ _ HYj.out _ _ Try.underlying26 (Try.blockFits HXL2.out) ?_)
              refine (blist_any X2 HXL2.out _).mono ?_; rintro e wk ⟨vk, rfl, hvk, hbk⟩
              obtain ⟨Ak, ck, rfl, _, _, _⟩ := hvk.read
              rw [srows_len, Hl2.out]
              have HXy := Lib.hid (HXj.out.ext hbk)
              have Ey := Lib.hid (bt Ej.out hbk)
              have hw1 : IntKind.i64.wrap ((n : Int) + 1) = ((n + 1 : Nat) : Int) := by rw [IntWalk.i64_in _ (by omega)]; omega
              obtain ⟨r2, hr2⟩ : ∃ r, n + 1 = r := ⟨_, rfl⟩
              rw [hr2] at hw1 ⊢
              have f2 : ((r2 : Int) != (r2 : Int)) = false := by simp
              clear hvk hbk HXj HYj Ej Hl2 hr2 h7
              go_upto_region 14 with fail
              clear hw1 f1 f2
              generalize wk = wy at *
              by_cases hn0 : n = 0
              · subst hn0
                have f0 : ((0 : Int) == 0) = true := rfl
                go_wp2_with fail
                refine (works18_any _).mono ?_; rintro e wz ⟨rfl, hbz⟩
                go_wp2_with fail
                go_ret
                exact ⟨rfl, bt Ey.out hbz⟩
              · have f0 : ((n : Int) == 0) = false := by simpa using hn0
                have f1 : (n == 0) = false := by simpa using hn0
                obtain ⟨j, hjn, j1, j2, j3, j4⟩ := mod_some gone (n := n) (by omega) Hn7.out
                obtain ⟨C, hC, hCL, hCR, hCf⟩ := HGn.out j hjn
                have hn0z : (n : Int) ≠ 0 := by omega
                have hjs : slotB (j : Int) = true := decide_eq_true (by have := Hn7.out; omega)
                have hct := clrT_yes hjs
                have HC := Lib.hid hC
                have HCL := Lib.hid hCL
                have HCR := Lib.hid hCR
                have HCf := Lib.hid hCf
                have HCt := Lib.hid hct
                clear hC hCL hCR hCf hct hjs HGn
                go_wp2_with fail
                refine (bclear_any (j : Int) _).mono ?_; rintro e wz ⟨A2, n2, c2, rfl, hp2, hbz⟩
                rw [HCt.out.1] at hp2 ⊢
                rw [HCt.out.2]
                have HQ := Lib.hid hp2
                have HXz := Lib.hid (HXy.out.ext hbz)
                have Ez := Lib.hid (bt Ey.out hbz)
                have zz := Lib.hid (show w.heap.size ≤ wz.heap.size from Ez.out.size)
                clear hbz hp2 HXy Ey HCt
                go_wp2_with (refine wpList_alloc_row rfl _ rfl _ Try.patchZero ?_)
                apply Stop.go; intro wb Hgb Hbb
                go_wp2_with (refine wpList_store_arr rfl _ _ _ rfl _ #[.int .i64 (32 + 32 * (j : Int)), .slice A2 n2 c2] rfl rfl _ _ Hbb.out Try.patchSize rfl (by simp [Value.oneCell']) ?_)
                apply Stop.go; intro wd Hod Hbd
                have Dd := Lib.hid (bonly Hgb.out.1 Hod.out (Nat.le_refl _))
                have HXd := Lib.hid (HXz.out.ext Dd.out)
                have HQd := Lib.hid (HQ.out.below Dd.out)
                have Ed := Lib.hid (bt Ez.out Dd.out)
                generalize wz.heap.size = gz at *
                clear Hgb Hbb Hod Dd HXz HQ Ez zz
                go_wp2_with (first | refine wpList_load_arr rfl _ _ rfl _ rfl _ _ HXd.out _ _ Try.underlying26 (Try.blockFits HNL.out) ?_ | refine wpList_load_blk rfl _ _ rfl _ rfl _ _ Hbd.out _ Try.underlying55 rfl Try.patchSize ?_)
                refine (play_any X HNL.out ⟨32 + 32 * (j : Int), zeros 32⟩ A2 n2 c2 _ HQd.out).mono ?_; rintro e we ⟨rfl, hbe⟩
                rw [HC.out]
                have Ee := Lib.hid (bt Ed.out hbe)
                have ze := Lib.hid (show w.heap.size ≤ we.heap.size from Ee.out.size)
                clear hbe HXd HQd Hbd Ed HC
                go_wp2_with (refine wpList_alloc_row rfl _ rfl _ Try.blockZero ?_)
                apply Stop.go; intro wf Hgf Hbf
                go_wp2_with (refine wpList_store_arr rfl _ _ _ rfl _ _ rfl rfl _ _ Hbf.out (Try.blockFits HCL.out) (by rw [bcells_size, bcells_size, HCL.out, HzL.out]) (oneCell_bcells _) ?_)
                apply Stop.go; intro wg Hog Hbg
                have Eg := Lib.hid (bonly (bt Ee.out Hgf.out.1) Hog.out ze.out)
                generalize we.heap.size = ge at *
                clear Hgf Hbf Hog Ee ze
                go_wp2_with fail
                go_loopw [22] (fun q wr => ∃ k : Nat, k ≤ n ∧ q = .int .i64 k ∧ Below wg.heap.size wg wr) (fun q _ => n - (intOf q).toNat)
                case atStart => exact ⟨0, Nat.zero_le _, rfl, Below.refl _ _⟩
                case round =>
                  obtain ⟨k, hk, rfl, hv⟩ := hrel
                  have HV := Lib.hid hv
                  clear hv
                  by_cases hlt : k < n
                  · have hkl : k < l.length := by rw [Hn.out]; exact hlt
                    obtain ⟨x, hxk⟩ : ∃ x, l[k]? = some x := ⟨_, List.getElem?_eq_getElem hkl⟩
                    have hR := Hr.out.below (bt Eg.out HV.out)
                    obtain ⟨ad, rfl⟩ := hR.adr (k := k) (by rw [erows_len]; exact hkl) (by decide)
                    have HR := Lib.hid hR
                    have HG := Lib.hid (erow_at hxk)
                    have HCx := Lib.hid (HCf.out k x hxk)
                    have e1 : decide (k < n) = true := decide_eq_true hlt
                    have e2 : decide ((k : Int) < (n : Int)) = true := by simp; omega
                    have e3 : (k : Int) < n := by omega
                    have hwk : IntKind.i64.wrap ((k : Int) + 1) = (k : Int) + 1 := IntWalk.i64_in _ (by have := Hn7.out; omega)
                    have Hlt := Lib.hid hlt
                    have HCw := Lib.hid (Hbg.out.ext HV.out)
                    obtain ⟨fa, ft, fc, hF⟩ := fndC_form C x.name
                    have HF := Lib.hid hF
                    obtain ⟨is, his⟩ : ∃ r, (findS C x.name).isSome = r := ⟨_, rfl⟩
                    have HIs := Lib.hid his
                    have HFn := Lib.hid (fun w => bfind_any C HCL.out x.name w)
                    rw [hF, his] at HFn
                    have zr := Lib.hid (show w.heap.size ≤ wr.heap.size from (bt Eg.out HV.out).size)
                    clear hxk hR hkl hlt hk hF his
                    go_wp2_with fail
                    refine WH.start (S := fun w' : World => Blk w' ge 26 (bcells C) ∧ RN w' (some ad) 2 (erows l)) [false, false, false, false, false, false, false, false, false, false, false, false, false] 13 rfl rfl (by kernel_rfl) ⟨HCw.out.ext (bdrew wr 1), HR.out.below (bdrew wr 1)⟩ (fun hSn => ?_); obtain ⟨wS, hwS⟩ : ∃ x, (wr).drew = x := ⟨_, rfl⟩; have HE := Lib.hid (show Below (wr).heap.size (wr) wS from hwS ▸ bdrew wr 1); rw [hwS] at hSn ⊢; clear hwS
                    refine WH.tv 0 rfl (fun w' hSw => exec_load_blk _ _ rfl _ rfl _ _ (hSw.1) _ (Try.underlying26) rfl (Try.blockFits HCL.out)) ?_; simp only [setL]
                    refine WH.tk 1 ?_; simp only [setL]
                    refine WH.tk 2 ?_; simp only [setL]
                    refine WH.tk 3 ?_; simp only [setL]
                    refine WH.tk 4 ?_; simp only [setL]
                    refine WH.tv 5 rfl (fun w' hSw => exec_load_cell _ _ rfl _ rfl (.string x.name) (by have := hSw.2.row HG.out rfl 0 _ rfl; rwa [add_of_add] at this) _ Try.underlying9 rfl) ?_; simp only [setL]
                    refine WH.two 6 10 _ _ rfl rfl (by kernel_rfl) rfl rfl (fun K hK => ?_) (fun K hK => ?_)
                    · go_simp; refine (HFn.out _).mono ?_; rintro e wh ⟨rfl, hbh⟩; go_simp
                      have HE := Lib.hid (bt HE.out hbh)
                      have hSn := And.intro (hSn.1.ext hbh) (hSn.2.below hbh); refine hK _ _ hSn ?_; clear hK; clear K; simp only [setL]
                      refine WH.tk 7 ?_; simp only [setL]
                      refine WH.tk 8 ?_; simp only [setL]
                      refine WH.tk 9 ?_; simp only [setL]
                      have zN := Lib.hid (show wr.heap.size ≤ wh.heap.size ∧ ge < wh.heap.size from ⟨HE.out.size, hSn.1.lt⟩)
                      refine WH.only 10 _ rfl (by kernel_rfl) rfl (fun K hK => ?_)
                      refine ow_alloc _ rfl _ Try.slotZero ?_
                      apply Stop.go; intro wi Hgi Hbi
                      have HE := Lib.hid (bt HE.out Hgi.out.1)
                      have hSn := And.intro (hSn.1.ext Hgi.out.1) (hSn.2.below Hgi.out.1); refine hK _ _ hSn ?_; clear hK; clear K; simp only [setL]
                      refine WH.only 11 _ rfl (by kernel_rfl) rfl (fun K hK => ?_)
                      refine ow_store _ _ _ rfl _ #[.int .i64 fa, .string ft, .int .i64 fc] rfl rfl _ _ Hbi.out Try.slotSize rfl (by simp [Value.oneCell']) ?_
                      apply Stop.go; intro wq Hoq Hbq
                      have hDq : Below wh.heap.size wh wq := bonly Hgi.out.1 Hoq.out (Nat.le_refl _)
                      have hRq : RN wq (some ad) 2 (erows l) := HR.out.below (bonly HE.out Hoq.out zN.out.1)
                      have hVq : Below wr.heap.size wr wq := bonly HE.out Hoq.out zN.out.1
                      have hSn := And.intro (hSn.1.only Hoq.out (by have := zN.out; omega)) hRq; refine hK _ _ hSn ?_; clear hK; clear K; simp only [setL]
                      refine WH.tk 12 ?_; simp only [setL]
                      refine WH.done (by kernel_rfl) ?_
                      have HFq := Lib.hid Hbq.out
                      have HRq := Lib.hid hRq
                      have Vq := Lib.hid (bt HV.out hVq)
                      generalize wh.heap.size = gN at *
                      clear HE hSn hbh Hgi Hbi Hoq Hbq hDq hRq hVq HCw HR HV HFn
                      go_wp2_with fail
                      by_cases hkj : k = j
                      · subst hkj
                        have hz := HIs.out
                        rw [HCx.out.1, if_pos rfl] at hz
                        obtain rfl : is = false := hz.symm
                        have f3 : ((k : Int) != (k : Int)) = false := by simp
                        clear hz HIs HCx HF
                        refine WH.start (S := fun w' : World => Blk w' gN 43 #[.int .i64 fa, .string ft, .int .i64 fc]) [false, false, false, false, false, false, false, false, false, false, false, false, false, false, false, false, false] 17 rfl rfl (by kernel_rfl) (HFq.out.ext (bdrew wq 1)) (fun hSn => ?_); obtain ⟨wT, hwS⟩ : ∃ x, (wq).drew = x := ⟨_, rfl⟩; have HE := Lib.hid (show Below (wq).heap.size (wq) wT from hwS ▸ bdrew wq 1); rw [hwS] at hSn ⊢; clear hwS
                        refine WH.tk 0 ?_; simp only [setL]
                        refine WH.tk 1 ?_; simp only [setL]
                        refine WH.tk 2 ?_; simp only [setL]
                        refine WH.tk 3 ?_; simp only [setL]
                        refine WH.tk 4 ?_; simp only [setL]
                        refine WH.tk 5 ?_; simp only [setL]
                        refine WH.tk 6 ?_; simp only [setL]
                        refine WH.tk 7 ?_; simp only [setL]
                        refine WH.skip 8 _ rfl (by kernel_rfl) (fun _ _ _ h => h) rfl (by assumption) ?_; simp only [setL]
                        refine WH.skip 9 _ rfl (by kernel_rfl) (fun _ _ _ h => h) rfl (by assumption) ?_; simp only [setL]
                        refine WH.skip 10 _ rfl (by kernel_rfl) (fun _ _ _ h => h) rfl (by assumption) ?_; simp only [setL]
                        refine WH.skip 11 _ rfl (by kernel_rfl) (fun _ _ _ h => h) rfl (by assumption) ?_; simp only [setL]
                        refine WH.skip 12 _ rfl (by kernel_rfl) (fun _ _ _ h => h) rfl (by assumption) ?_; simp only [setL]
                        refine WH.skip 13 _ rfl (by kernel_rfl) (fun _ _ _ h => h) rfl (by assumption) ?_; simp only [setL]
                        refine WH.skip 14 _ rfl (by kernel_rfl) (fun _ _ _ h => h) rfl (by assumption) ?_; simp only [setL]
                        refine WH.tk 15 ?_; simp only [setL]
                        refine WH.tk 16 ?_; simp only [setL]
                        refine WH.done (by kernel_rfl) ?_
                        have Vz := Lib.hid (bt Vq.out HE.out)
                        clear HE hSn HFq HRq Vq
                        go_wp2_with fail
                        go_roundw
                        case rel => exact ⟨k + 1, by have := Hlt.out; omega, by go_num, Vz.out⟩
                        case measure => have := Hlt.out; simp [intOf]; omega
                      · have hz := HIs.out
                        rw [HCx.out.1, if_neg hkj] at hz
                        obtain rfl : is = true := hz.symm
                        have hf := HF.out
                        rw [fndC_at (by rw [HCx.out.1, if_neg hkj]) (HCx.out.2 hkj)] at hf
                        injection hf with hf
                        injection hf with q1 hf
                        injection hf with q2 hf
                        injection hf with q3 _
                        injection q1 with _ q1
                        injection q2 with q2
                        injection q3 with _ q3
                        subst q1; subst q2; subst q3
                        have f3 : ((k : Int) != (j : Int)) = true := by simp; omega
                        have f4 : (k != j) = true := by simpa using hkj
                        clear hz HIs HCx HF hkj
                        refine WH.start (S := fun w' : World => Blk w' gN 43 #[.int .i64 (k : Int), .string x.name, .int .i64 x.ino] ∧ RN w' (some ad) 2 (erows l)) [false, false, false, false, false, false, false, false, false, false, false, false, false, false, false, false, false] 17 rfl rfl (by kernel_rfl) ⟨HFq.out.ext (bdrew wq 1), HRq.out.below (bdrew wq 1)⟩ (fun hSn => ?_); obtain ⟨wT, hwS⟩ : ∃ x, (wq).drew = x := ⟨_, rfl⟩; have HE := Lib.hid (show Below (wq).heap.size (wq) wT from hwS ▸ bdrew wq 1); rw [hwS] at hSn ⊢; clear hwS
                        refine WH.tk 0 ?_; simp only [setL]
                        refine WH.tk 1 ?_; simp only [setL]
                        refine WH.tk 2 ?_; simp only [setL]
                        refine WH.tk 3 ?_; simp only [setL]
                        refine WH.tk 4 ?_; simp only [setL]
                        refine WH.tk 5 ?_; simp only [setL]
                        refine WH.tk 6 ?_; simp only [setL]
                        refine WH.tk 7 ?_; simp only [setL]
                        refine WH.tk 8 ?_; simp only [setL]
                        refine WH.tv 9 rfl (fun w' hSw => exec_load_cells _ _ rfl ⟨gN, 1, none⟩ rfl _ Try.underlying39 [.string x.name, .int .i64 x.ino] Try.entSize hSw.1.slot1) ?_; simp only [setL]
                        refine WH.tk 10 ?_; simp only [setL]
                        refine WH.tk 11 ?_; simp only [setL]
                        refine WH.tk 12 ?_; simp only [setL]
                        refine WH.tv 13 rfl (fun w' hSw => exec_load_cells _ _ rfl (ad.add (k * 2)) rfl _ Try.underlying39 [.string x.name, .int .i64 x.ino] Try.entSize (hSw.2.row HG.out rfl)) ?_; simp only [setL]
                        refine WH.tv 14 rfl (fun w' hSw => exec_eql_agg _ _ _ _ _ rfl (by kernel_rfl) _ _ rfl rfl _ (neq_ent_same x.ino x.name _)) ?_; simp only [setL]
                        refine WH.tk 15 ?_; simp only [setL]
                        refine WH.tk 16 ?_; simp only [setL]
                        refine WH.done (by kernel_rfl) ?_
                        have Vz := Lib.hid (bt Vq.out HE.out)
                        clear HE hSn HFq HRq Vq
                        go_wp2_with fail
                        go_roundw
                        case rel => exact ⟨k + 1, by have := Hlt.out; omega, by go_num, Vz.out⟩
                        case measure => have := Hlt.out; simp [intOf]; omega
                    · refine ow_alloc _ rfl _ Try.slotZero ?_
                      apply Stop.go; intro wi Hgi Hbi
                      have zS := Lib.hid (show wr.heap.size ≤ wS.heap.size ∧ ge < wS.heap.size from ⟨HE.out.size, hSn.1.lt⟩)
                      have HE := Lib.hid (bt HE.out Hgi.out.1)
                      have hSn := And.intro (hSn.1.ext Hgi.out.1) (hSn.2.below Hgi.out.1); refine hK _ _ hSn ?_; clear hK; clear K; simp only [setL]
                      refine WH.only 6 _ rfl (by kernel_rfl) rfl (fun K hK => ?_)
                      go_simp; refine (HFn.out _).mono ?_; rintro e wh ⟨rfl, hbh⟩; go_simp
                      have HE := Lib.hid (bt HE.out hbh)
                      have HBi := Lib.hid (Hbi.out.ext hbh)
                      have hSn := And.intro (hSn.1.ext hbh) (hSn.2.below hbh); refine hK _ _ hSn ?_; clear hK; clear K; simp only [setL]
                      refine WH.tk 7 ?_; simp only [setL]
                      refine WH.tk 8 ?_; simp only [setL]
                      refine WH.tk 9 ?_; simp only [setL]
                      refine WH.only 11 _ rfl (by kernel_rfl) rfl (fun K hK => ?_)
                      refine ow_store _ _ _ rfl _ #[.int .i64 fa, .string ft, .int .i64 fc] rfl rfl _ _ HBi.out Try.slotSize rfl (by simp [Value.oneCell']) ?_
                      apply Stop.go; intro wq Hoq Hbq
                      have hVq : Below wr.heap.size wr wq := bonly HE.out Hoq.out zS.out.1
                      have hRq : RN wq (some ad) 2 (erows l) := HR.out.below hVq
                      have hSn := And.intro (hSn.1.only Hoq.out (by have := zS.out; omega)) hRq; refine hK _ _ hSn ?_; clear hK; clear K; simp only [setL]
                      refine WH.tk 12 ?_; simp only [setL]
                      refine WH.done (by kernel_rfl) ?_
                      have HFq := Lib.hid Hbq.out
                      have HRq := Lib.hid hRq
                      have Vq := Lib.hid (bt HV.out hVq)
                      generalize wS.heap.size = gN at *
                      clear HE hSn hbh Hgi Hbi HBi Hoq Hbq hRq hVq HCw HR HV HFn
                      go_wp2_with fail
                      by_cases hkj : k = j
                      · subst hkj
                        have hz := HIs.out
                        rw [HCx.out.1, if_pos rfl] at hz
                        obtain rfl : is = false := hz.symm
                        have f3 : ((k : Int) != (k : Int)) = false := by simp
                        clear hz HIs HCx HF
                        refine WH.start (S := fun w' : World => Blk w' gN 43 #[.int .i64 fa, .string ft, .int .i64 fc]) [false, false, false, false, false, false, false, false, false, false, false, false, false, false, false, false, false] 17 rfl rfl (by kernel_rfl) (HFq.out.ext (bdrew wq 1)) (fun hSn => ?_); obtain ⟨wT, hwS⟩ : ∃ x, (wq).drew = x := ⟨_, rfl⟩; have HE := Lib.hid (show Below (wq).heap.size (wq) wT from hwS ▸ bdrew wq 1); rw [hwS] at hSn ⊢; clear hwS
                        refine WH.tk 0 ?_; simp only [setL]
                        refine WH.tk 1 ?_; simp only [setL]
                        refine WH.tk 2 ?_; simp only [setL]
                        refine WH.tk 3 ?_; simp only [setL]
                        refine WH.tk 4 ?_; simp only [setL]
                        refine WH.tk 5 ?_; simp only [setL]
                        refine WH.tk 6 ?_; simp only [setL]
                        refine WH.tk 7 ?_; simp only [setL]
                        refine WH.skip 8 _ rfl (by kernel_rfl) (fun _ _ _ h => h) rfl (by assumption) ?_; simp only [setL]
                        refine WH.skip 9 _ rfl (by kernel_rfl) (fun _ _ _ h => h) rfl (by assumption) ?_; simp only [setL]
                        refine WH.skip 10 _ rfl (by kernel_rfl) (fun _ _ _ h => h) rfl (by assumption) ?_; simp only [setL]
                        refine WH.skip 11 _ rfl (by kernel_rfl) (fun _ _ _ h => h) rfl (by assumption) ?_; simp only [setL]
                        refine WH.skip 12 _ rfl (by kernel_rfl) (fun _ _ _ h => h) rfl (by assumption) ?_; simp only [setL]
                        refine WH.skip 13 _ rfl (by kernel_rfl) (fun _ _ _ h => h) rfl (by assumption) ?_; simp only [setL]
                        refine WH.skip 14 _ rfl (by kernel_rfl) (fun _ _ _ h => h) rfl (by assumption) ?_; simp only [setL]
                        refine WH.tk 15 ?_; simp only [setL]
                        refine WH.tk 16 ?_; simp only [setL]
                        refine WH.done (by kernel_rfl) ?_
                        have Vz := Lib.hid (bt Vq.out HE.out)
                        clear HE hSn HFq HRq Vq
                        go_wp2_with fail
                        go_roundw
                        case rel => exact ⟨k + 1, by have := Hlt.out; omega, by go_num, Vz.out⟩
                        case measure => have := Hlt.out; simp [intOf]; omega
                      · have hz := HIs.out
                        rw [HCx.out.1, if_neg hkj] at hz
                        obtain rfl : is = true := hz.symm
                        have hf := HF.out
                        rw [fndC_at (by rw [HCx.out.1, if_neg hkj]) (HCx.out.2 hkj)] at hf
                        injection hf with hf
                        injection hf with q1 hf
                        injection hf with q2 hf
                        injection hf with q3 _
                        injection q1 with _ q1
                        injection q2 with q2
                        injection q3 with _ q3
                        subst q1; subst q2; subst q3
                        have f3 : ((k : Int) != (j : Int)) = true := by simp; omega
                        have f4 : (k != j) = true := by simpa using hkj
                        clear hz HIs HCx HF hkj
                        refine WH.start (S := fun w' : World => Blk w' gN 43 #[.int .i64 (k : Int), .string x.name, .int .i64 x.ino] ∧ RN w' (some ad) 2 (erows l)) [false, false, false, false, false, false, false, false, false, false, false, false, false, false, false, false, false] 17 rfl rfl (by kernel_rfl) ⟨HFq.out.ext (bdrew wq 1), HRq.out.below (bdrew wq 1)⟩ (fun hSn => ?_); obtain ⟨wT, hwS⟩ : ∃ x, (wq).drew = x := ⟨_, rfl⟩; have HE := Lib.hid (show Below (wq).heap.size (wq) wT from hwS ▸ bdrew wq 1); rw [hwS] at hSn ⊢; clear hwS
                        refine WH.tk 0 ?_; simp only [setL]
                        refine WH.tk 1 ?_; simp only [setL]
                        refine WH.tk 2 ?_; simp only [setL]
                        refine WH.tk 3 ?_; simp only [setL]
                        refine WH.tk 4 ?_; simp only [setL]
                        refine WH.tk 5 ?_; simp only [setL]
                        refine WH.tk 6 ?_; simp only [setL]
                        refine WH.tk 7 ?_; simp only [setL]
                        refine WH.tk 8 ?_; simp only [setL]
                        refine WH.tv 9 rfl (fun w' hSw => exec_load_cells _ _ rfl ⟨gN, 1, none⟩ rfl _ Try.underlying39 [.string x.name, .int .i64 x.ino] Try.entSize hSw.1.slot1) ?_; simp only [setL]
                        refine WH.tk 10 ?_; simp only [setL]
                        refine WH.tk 11 ?_; simp only [setL]
                        refine WH.tk 12 ?_; simp only [setL]
                        refine WH.tv 13 rfl (fun w' hSw => exec_load_cells _ _ rfl (ad.add (k * 2)) rfl _ Try.underlying39 [.string x.name, .int .i64 x.ino] Try.entSize (hSw.2.row HG.out rfl)) ?_; simp only [setL]
                        refine WH.tv 14 rfl (fun w' hSw => exec_eql_agg _ _ _ _ _ rfl (by kernel_rfl) _ _ rfl rfl _ (neq_ent_same x.ino x.name _)) ?_; simp only [setL]
                        refine WH.tk 15 ?_; simp only [setL]
                        refine WH.tk 16 ?_; simp only [setL]
                        refine WH.done (by kernel_rfl) ?_
                        have Vz := Lib.hid (bt Vq.out HE.out)
                        clear HE hSn HFq HRq Vq
                        go_wp2_with fail
                        go_roundw
                        case rel => exact ⟨k + 1, by have := Hlt.out; omega, by go_num, Vz.out⟩
                        case measure => have := Hlt.out; simp [intOf]; omega
                  · have hkn : k = n := by omega
                    subst hkn
                    have e1 : decide (k < k) = false := by simp
                    have e2 : decide ((k : Int) < k) = false := by simp
                    have HCw := Lib.hid (Hbg.out.ext HV.out)
                    have Ew := Lib.hid (bt Eg.out HV.out)
                    clear hk hlt
                    go_wp2_with (refine wpList_load_arr rfl _ _ rfl _ rfl _ _ HCw.out _ _ Try.underlying26 (Try.blockFits HCL.out) ?_)
                    refine (bright_any C HCL.out _).mono ?_; rintro e wx ⟨rfl, hbx⟩
                    rw [HCR.out]
                    go_wp2_with fail
                    refine (works18_any _).mono ?_; rintro e wu ⟨rfl, hbu⟩
                    go_wp2_with fail
                    go_ret
                    exact ⟨rfl, bt (bt Ew.out hbx) hbu⟩
          · clear hsl h7 x0
            go_upto_region 14 with fail
            have HXy := HXc
            have Ey := Ec
            clear HXc Ec HEc HPc Hbc HAd HPt Hp1 Hr1 HRv Hh
            generalize wc = wy at *
            by_cases hn0 : n = 0
            · subst hn0
              have f0 : ((0 : Int) == 0) = true := rfl
              go_wp2_with fail
              refine (works18_any _).mono ?_; rintro e wz ⟨rfl, hbz⟩
              go_wp2_with fail
              go_ret
              exact ⟨rfl, bt Ey.out hbz⟩
            · have f0 : ((n : Int) == 0) = false := by simpa using hn0
              have f1 : (n == 0) = false := by simpa using hn0
              obtain ⟨j, hjn, j1, j2, j3, j4⟩ := mod_some gone (n := n) (by omega) Hn7.out
              obtain ⟨C, hC, hCL, hCR, hCf⟩ := HGn.out j hjn
              have hn0z : (n : Int) ≠ 0 := by omega
              have hjs : slotB (j : Int) = true := decide_eq_true (by have := Hn7.out; omega)
              have hct := clrT_yes hjs
              have HC := Lib.hid hC
              have HCL := Lib.hid hCL
              have HCR := Lib.hid hCR
              have HCf := Lib.hid hCf
              have HCt := Lib.hid hct
              clear hC hCL hCR hCf hct hjs HGn
              go_wp2_with fail
              refine (bclear_any (j : Int) _).mono ?_; rintro e wz ⟨A2, n2, c2, rfl, hp2, hbz⟩
              rw [HCt.out.1] at hp2 ⊢
              rw [HCt.out.2]
              have HQ := Lib.hid hp2
              have HXz := Lib.hid (HXy.out.ext hbz)
              have Ez := Lib.hid (bt Ey.out hbz)
              have zz := Lib.hid (show w.heap.size ≤ wz.heap.size from Ez.out.size)
              clear hbz hp2 HXy Ey HCt
              go_wp2_with (refine wpList_alloc_row rfl _ rfl _ Try.patchZero ?_)
              apply Stop.go; intro wb Hgb Hbb
              go_wp2_with (refine wpList_store_arr rfl _ _ _ rfl _ #[.int .i64 (32 + 32 * (j : Int)), .slice A2 n2 c2] rfl rfl _ _ Hbb.out Try.patchSize rfl (by simp [Value.oneCell']) ?_)
              apply Stop.go; intro wd Hod Hbd
              have Dd := Lib.hid (bonly Hgb.out.1 Hod.out (Nat.le_refl _))
              have HXd := Lib.hid (HXz.out.ext Dd.out)
              have HQd := Lib.hid (HQ.out.below Dd.out)
              have Ed := Lib.hid (bt Ez.out Dd.out)
              generalize wz.heap.size = gz at *
              clear Hgb Hbb Hod Dd HXz HQ Ez zz
              go_wp2_with (first | refine wpList_load_arr rfl _ _ rfl _ rfl _ _ HXd.out _ _ Try.underlying26 (Try.blockFits HNL.out) ?_ | refine wpList_load_blk rfl _ _ rfl _ rfl _ _ Hbd.out _ Try.underlying55 rfl Try.patchSize ?_)
              refine (play_any X HNL.out ⟨32 + 32 * (j : Int), zeros 32⟩ A2 n2 c2 _ HQd.out).mono ?_; rintro e we ⟨rfl, hbe⟩
              rw [HC.out]
              have Ee := Lib.hid (bt Ed.out hbe)
              have ze := Lib.hid (show w.heap.size ≤ we.heap.size from Ee.out.size)
              clear hbe HXd HQd Hbd Ed HC
              go_wp2_with (refine wpList_alloc_row rfl _ rfl _ Try.blockZero ?_)
              apply Stop.go; intro wf Hgf Hbf
              go_wp2_with (refine wpList_store_arr rfl _ _ _ rfl _ _ rfl rfl _ _ Hbf.out (Try.blockFits HCL.out) (by rw [bcells_size, bcells_size, HCL.out, HzL.out]) (oneCell_bcells _) ?_)
              apply Stop.go; intro wg Hog Hbg
              have Eg := Lib.hid (bonly (bt Ee.out Hgf.out.1) Hog.out ze.out)
              generalize we.heap.size = ge at *
              clear Hgf Hbf Hog Ee ze
              go_wp2_with fail
              go_loopw [22] (fun q wr => ∃ k : Nat, k ≤ n ∧ q = .int .i64 k ∧ Below wg.heap.size wg wr) (fun q _ => n - (intOf q).toNat)
              case atStart => exact ⟨0, Nat.zero_le _, rfl, Below.refl _ _⟩
              case round =>
                obtain ⟨k, hk, rfl, hv⟩ := hrel
                have HV := Lib.hid hv
                clear hv
                by_cases hlt : k < n
                · have hkl : k < l.length := by rw [Hn.out]; exact hlt
                  obtain ⟨x, hxk⟩ : ∃ x, l[k]? = some x := ⟨_, List.getElem?_eq_getElem hkl⟩
                  have hR := Hr.out.below (bt Eg.out HV.out)
                  obtain ⟨ad, rfl⟩ := hR.adr (k := k) (by rw [erows_len]; exact hkl) (by decide)
                  have HR := Lib.hid hR
                  have HG := Lib.hid (erow_at hxk)
                  have HCx := Lib.hid (HCf.out k x hxk)
                  have e1 : decide (k < n) = true := decide_eq_true hlt
                  have e2 : decide ((k : Int) < (n : Int)) = true := by simp; omega
                  have e3 : (k : Int) < n := by omega
                  have hwk : IntKind.i64.wrap ((k : Int) + 1) = (k : Int) + 1 := IntWalk.i64_in _ (by have := Hn7.out; omega)
                  have Hlt := Lib.hid hlt
                  have HCw := Lib.hid (Hbg.out.ext HV.out)
                  obtain ⟨fa, ft, fc, hF⟩ := fndC_form C x.name
                  have HF := Lib.hid hF
                  obtain ⟨is, his⟩ : ∃ r, (findS C x.name).isSome = r := ⟨_, rfl⟩
                  have HIs := Lib.hid his
                  have HFn := Lib.hid (fun w => bfind_any C HCL.out x.name w)
                  rw [hF, his] at HFn
                  have zr := Lib.hid (show w.heap.size ≤ wr.heap.size from (bt Eg.out HV.out).size)
                  clear hxk hR hkl hlt hk hF his
                  go_wp2_with fail
                  refine WH.start (S := fun w' : World => Blk w' ge 26 (bcells C) ∧ RN w' (some ad) 2 (erows l)) [false, false, false, false, false, false, false, false, false, false, false, false, false] 13 rfl rfl (by kernel_rfl) ⟨HCw.out.ext (bdrew wr 1), HR.out.below (bdrew wr 1)⟩ (fun hSn => ?_); obtain ⟨wS, hwS⟩ : ∃ x, (wr).drew = x := ⟨_, rfl⟩; have HE := Lib.hid (show Below (wr).heap.size (wr) wS from hwS ▸ bdrew wr 1); rw [hwS] at hSn ⊢; clear hwS
                  refine WH.tv 0 rfl (fun w' hSw => exec_load_blk _ _ rfl _ rfl _ _ (hSw.1) _ (Try.underlying26) rfl (Try.blockFits HCL.out)) ?_; simp only [setL]
                  refine WH.tk 1 ?_; simp only [setL]
                  refine WH.tk 2 ?_; simp only [setL]
                  refine WH.tk 3 ?_; simp only [setL]
                  refine WH.tk 4 ?_; simp only [setL]
                  refine WH.tv 5 rfl (fun w' hSw => exec_load_cell _ _ rfl _ rfl (.string x.name) (by have := hSw.2.row HG.out rfl 0 _ rfl; rwa [add_of_add] at this) _ Try.underlying9 rfl) ?_; simp only [setL]
                  refine WH.two 6 10 _ _ rfl rfl (by kernel_rfl) rfl rfl (fun K hK => ?_) (fun K hK => ?_)
                  · go_simp; refine (HFn.out _).mono ?_; rintro e wh ⟨rfl, hbh⟩; go_simp
                    have HE := Lib.hid (bt HE.out hbh)
                    have hSn := And.intro (hSn.1.ext hbh) (hSn.2.below hbh); refine hK _ _ hSn ?_; clear hK; clear K; simp only [setL]
                    refine WH.tk 7 ?_; simp only [setL]
                    refine WH.tk 8 ?_; simp only [setL]
                    refine WH.tk 9 ?_; simp only [setL]
                    have zN := Lib.hid (show wr.heap.size ≤ wh.heap.size ∧ ge < wh.heap.size from ⟨HE.out.size, hSn.1.lt⟩)
                    refine WH.only 10 _ rfl (by kernel_rfl) rfl (fun K hK => ?_)
                    refine ow_alloc _ rfl _ Try.slotZero ?_
                    apply Stop.go; intro wi Hgi Hbi
                    have HE := Lib.hid (bt HE.out Hgi.out.1)
                    have hSn := And.intro (hSn.1.ext Hgi.out.1) (hSn.2.below Hgi.out.1); refine hK _ _ hSn ?_; clear hK; clear K; simp only [setL]
                    refine WH.only 11 _ rfl (by kernel_rfl) rfl (fun K hK => ?_)
                    refine ow_store _ _ _ rfl _ #[.int .i64 fa, .string ft, .int .i64 fc] rfl rfl _ _ Hbi.out Try.slotSize rfl (by simp [Value.oneCell']) ?_
                    apply Stop.go; intro wq Hoq Hbq
                    have hDq : Below wh.heap.size wh wq := bonly Hgi.out.1 Hoq.out (Nat.le_refl _)
                    have hRq : RN wq (some ad) 2 (erows l) := HR.out.below (bonly HE.out Hoq.out zN.out.1)
                    have hVq : Below wr.heap.size wr wq := bonly HE.out Hoq.out zN.out.1
                    have hSn := And.intro (hSn.1.only Hoq.out (by have := zN.out; omega)) hRq; refine hK _ _ hSn ?_; clear hK; clear K; simp only [setL]
                    refine WH.tk 12 ?_; simp only [setL]
                    refine WH.done (by kernel_rfl) ?_
                    have HFq := Lib.hid Hbq.out
                    have HRq := Lib.hid hRq
                    have Vq := Lib.hid (bt HV.out hVq)
                    generalize wh.heap.size = gN at *
                    clear HE hSn hbh Hgi Hbi Hoq Hbq hDq hRq hVq HCw HR HV HFn
                    go_wp2_with fail
                    by_cases hkj : k = j
                    · subst hkj
                      have hz := HIs.out
                      rw [HCx.out.1, if_pos rfl] at hz
                      obtain rfl : is = false := hz.symm
                      have f3 : ((k : Int) != (k : Int)) = false := by simp
                      clear hz HIs HCx HF
                      refine WH.start (S := fun w' : World => Blk w' gN 43 #[.int .i64 fa, .string ft, .int .i64 fc]) [false, false, false, false, false, false, false, false, false, false, false, false, false, false, false, false, false] 17 rfl rfl (by kernel_rfl) (HFq.out.ext (bdrew wq 1)) (fun hSn => ?_); obtain ⟨wT, hwS⟩ : ∃ x, (wq).drew = x := ⟨_, rfl⟩; have HE := Lib.hid (show Below (wq).heap.size (wq) wT from hwS ▸ bdrew wq 1); rw [hwS] at hSn ⊢; clear hwS
                      refine WH.tk 0 ?_; simp only [setL]
                      refine WH.tk 1 ?_; simp only [setL]
                      refine WH.tk 2 ?_; simp only [setL]
                      refine WH.tk 3 ?_; simp only [setL]
                      refine WH.tk 4 ?_; simp only [setL]
                      refine WH.tk 5 ?_; simp only [setL]
                      refine WH.tk 6 ?_; simp only [setL]
                      refine WH.tk 7 ?_; simp only [setL]
                      refine WH.skip 8 _ rfl (by kernel_rfl) (fun _ _ _ h => h) rfl (by assumption) ?_; simp only [setL]
                      refine WH.skip 9 _ rfl (by kernel_rfl) (fun _ _ _ h => h) rfl (by assumption) ?_; simp only [setL]
                      refine WH.skip 10 _ rfl (by kernel_rfl) (fun _ _ _ h => h) rfl (by assumption) ?_; simp only [setL]
                      refine WH.skip 11 _ rfl (by kernel_rfl) (fun _ _ _ h => h) rfl (by assumption) ?_; simp only [setL]
                      refine WH.skip 12 _ rfl (by kernel_rfl) (fun _ _ _ h => h) rfl (by assumption) ?_; simp only [setL]
                      refine WH.skip 13 _ rfl (by kernel_rfl) (fun _ _ _ h => h) rfl (by assumption) ?_; simp only [setL]
                      refine WH.skip 14 _ rfl (by kernel_rfl) (fun _ _ _ h => h) rfl (by assumption) ?_; simp only [setL]
                      refine WH.tk 15 ?_; simp only [setL]
                      refine WH.tk 16 ?_; simp only [setL]
                      refine WH.done (by kernel_rfl) ?_
                      have Vz := Lib.hid (bt Vq.out HE.out)
                      clear HE hSn HFq HRq Vq
                      go_wp2_with fail
                      go_roundw
                      case rel => exact ⟨k + 1, by have := Hlt.out; omega, by go_num, Vz.out⟩
                      case measure => have := Hlt.out; simp [intOf]; omega
                    · have hz := HIs.out
                      rw [HCx.out.1, if_neg hkj] at hz
                      obtain rfl : is = true := hz.symm
                      have hf := HF.out
                      rw [fndC_at (by rw [HCx.out.1, if_neg hkj]) (HCx.out.2 hkj)] at hf
                      injection hf with hf
                      injection hf with q1 hf
                      injection hf with q2 hf
                      injection hf with q3 _
                      injection q1 with _ q1
                      injection q2 with q2
                      injection q3 with _ q3
                      subst q1; subst q2; subst q3
                      have f3 : ((k : Int) != (j : Int)) = true := by simp; omega
                      have f4 : (k != j) = true := by simpa using hkj
                      clear hz HIs HCx HF hkj
                      refine WH.start (S := fun w' : World => Blk w' gN 43 #[.int .i64 (k : Int), .string x.name, .int .i64 x.ino] ∧ RN w' (some ad) 2 (erows l)) [false, false, false, false, false, false, false, false, false, false, false, false, false, false, false, false, false] 17 rfl rfl (by kernel_rfl) ⟨HFq.out.ext (bdrew wq 1), HRq.out.below (bdrew wq 1)⟩ (fun hSn => ?_); obtain ⟨wT, hwS⟩ : ∃ x, (wq).drew = x := ⟨_, rfl⟩; have HE := Lib.hid (show Below (wq).heap.size (wq) wT from hwS ▸ bdrew wq 1); rw [hwS] at hSn ⊢; clear hwS
                      refine WH.tk 0 ?_; simp only [setL]
                      refine WH.tk 1 ?_; simp only [setL]
                      refine WH.tk 2 ?_; simp only [setL]
                      refine WH.tk 3 ?_; simp only [setL]
                      refine WH.tk 4 ?_; simp only [setL]
                      refine WH.tk 5 ?_; simp only [setL]
                      refine WH.tk 6 ?_; simp only [setL]
                      refine WH.tk 7 ?_; simp only [setL]
                      refine WH.tk 8 ?_; simp only [setL]
                      refine WH.tv 9 rfl (fun w' hSw => exec_load_cells _ _ rfl ⟨gN, 1, none⟩ rfl _ Try.underlying39 [.string x.name, .int .i64 x.ino] Try.entSize hSw.1.slot1) ?_; simp only [setL]
                      refine WH.tk 10 ?_; simp only [setL]
                      refine WH.tk 11 ?_; simp only [setL]
                      refine WH.tk 12 ?_; simp only [setL]
                      refine WH.tv 13 rfl (fun w' hSw => exec_load_cells _ _ rfl (ad.add (k * 2)) rfl _ Try.underlying39 [.string x.name, .int .i64 x.ino] Try.entSize (hSw.2.row HG.out rfl)) ?_; simp only [setL]
                      refine WH.tv 14 rfl (fun w' hSw => exec_eql_agg _ _ _ _ _ rfl (by kernel_rfl) _ _ rfl rfl _ (neq_ent_same x.ino x.name _)) ?_; simp only [setL]
                      refine WH.tk 15 ?_; simp only [setL]
                      refine WH.tk 16 ?_; simp only [setL]
                      refine WH.done (by kernel_rfl) ?_
                      have Vz := Lib.hid (bt Vq.out HE.out)
                      clear HE hSn HFq HRq Vq
                      go_wp2_with fail
                      go_roundw
                      case rel => exact ⟨k + 1, by have := Hlt.out; omega, by go_num, Vz.out⟩
                      case measure => have := Hlt.out; simp [intOf]; omega
                  · refine ow_alloc _ rfl _ Try.slotZero ?_
                    apply Stop.go; intro wi Hgi Hbi
                    have zS := Lib.hid (show wr.heap.size ≤ wS.heap.size ∧ ge < wS.heap.size from ⟨HE.out.size, hSn.1.lt⟩)
                    have HE := Lib.hid (bt HE.out Hgi.out.1)
                    have hSn := And.intro (hSn.1.ext Hgi.out.1) (hSn.2.below Hgi.out.1); refine hK _ _ hSn ?_; clear hK; clear K; simp only [setL]
                    refine WH.only 6 _ rfl (by kernel_rfl) rfl (fun K hK => ?_)
                    go_simp; refine (HFn.out _).mono ?_; rintro e wh ⟨rfl, hbh⟩; go_simp
                    have HE := Lib.hid (bt HE.out hbh)
                    have HBi := Lib.hid (Hbi.out.ext hbh)
                    have hSn := And.intro (hSn.1.ext hbh) (hSn.2.below hbh); refine hK _ _ hSn ?_; clear hK; clear K; simp only [setL]
                    refine WH.tk 7 ?_; simp only [setL]
                    refine WH.tk 8 ?_; simp only [setL]
                    refine WH.tk 9 ?_; simp only [setL]
                    refine WH.only 11 _ rfl (by kernel_rfl) rfl (fun K hK => ?_)
                    refine ow_store _ _ _ rfl _ #[.int .i64 fa, .string ft, .int .i64 fc] rfl rfl _ _ HBi.out Try.slotSize rfl (by simp [Value.oneCell']) ?_
                    apply Stop.go; intro wq Hoq Hbq
                    have hVq : Below wr.heap.size wr wq := bonly HE.out Hoq.out zS.out.1
                    have hRq : RN wq (some ad) 2 (erows l) := HR.out.below hVq
                    have hSn := And.intro (hSn.1.only Hoq.out (by have := zS.out; omega)) hRq; refine hK _ _ hSn ?_; clear hK; clear K; simp only [setL]
                    refine WH.tk 12 ?_; simp only [setL]
                    refine WH.done (by kernel_rfl) ?_
                    have HFq := Lib.hid Hbq.out
                    have HRq := Lib.hid hRq
                    have Vq := Lib.hid (bt HV.out hVq)
                    generalize wS.heap.size = gN at *
                    clear HE hSn hbh Hgi Hbi HBi Hoq Hbq hRq hVq HCw HR HV HFn
                    go_wp2_with fail
                    by_cases hkj : k = j
                    · subst hkj
                      have hz := HIs.out
                      rw [HCx.out.1, if_pos rfl] at hz
                      obtain rfl : is = false := hz.symm
                      have f3 : ((k : Int) != (k : Int)) = false := by simp
                      clear hz HIs HCx HF
                      refine WH.start (S := fun w' : World => Blk w' gN 43 #[.int .i64 fa, .string ft, .int .i64 fc]) [false, false, false, false, false, false, false, false, false, false, false, false, false, false, false, false, false] 17 rfl rfl (by kernel_rfl) (HFq.out.ext (bdrew wq 1)) (fun hSn => ?_); obtain ⟨wT, hwS⟩ : ∃ x, (wq).drew = x := ⟨_, rfl⟩; have HE := Lib.hid (show Below (wq).heap.size (wq) wT from hwS ▸ bdrew wq 1); rw [hwS] at hSn ⊢; clear hwS
                      refine WH.tk 0 ?_; simp only [setL]
                      refine WH.tk 1 ?_; simp only [setL]
                      refine WH.tk 2 ?_; simp only [setL]
                      refine WH.tk 3 ?_; simp only [setL]
                      refine WH.tk 4 ?_; simp only [setL]
                      refine WH.tk 5 ?_; simp only [setL]
                      refine WH.tk 6 ?_; simp only [setL]
                      refine WH.tk 7 ?_; simp only [setL]
                      refine WH.skip 8 _ rfl (by kernel_rfl) (fun _ _ _ h => h) rfl (by assumption) ?_; simp only [setL]
                      refine WH.skip 9 _ rfl (by kernel_rfl) (fun _ _ _ h => h) rfl (by assumption) ?_; simp only [setL]
                      refine WH.skip 10 _ rfl (by kernel_rfl) (fun _ _ _ h => h) rfl (by assumption) ?_; simp only [setL]
                      refine WH.skip 11 _ rfl (by kernel_rfl) (fun _ _ _ h => h) rfl (by assumption) ?_; simp only [setL]
                      refine WH.skip 12 _ rfl (by kernel_rfl) (fun _ _ _ h => h) rfl (by assumption) ?_; simp only [setL]
                      refine WH.skip 13 _ rfl (by kernel_rfl) (fun _ _ _ h => h) rfl (by assumption) ?_; simp only [setL]
                      refine WH.skip 14 _ rfl (by kernel_rfl) (fun _ _ _ h => h) rfl (by assumption) ?_; simp only [setL]
                      refine WH.tk 15 ?_; simp only [setL]
                      refine WH.tk 16 ?_; simp only [setL]
                      refine WH.done (by kernel_rfl) ?_
                      have Vz := Lib.hid (bt Vq.out HE.out)
                      clear HE hSn HFq HRq Vq
                      go_wp2_with fail
                      go_roundw
                      case rel => exact ⟨k + 1, by have := Hlt.out; omega, by go_num, Vz.out⟩
                      case measure => have := Hlt.out; simp [intOf]; omega
                    · have hz := HIs.out
                      rw [HCx.out.1, if_neg hkj] at hz
                      obtain rfl : is = true := hz.symm
                      have hf := HF.out
                      rw [fndC_at (by rw [HCx.out.1, if_neg hkj]) (HCx.out.2 hkj)] at hf
                      injection hf with hf
                      injection hf with q1 hf
                      injection hf with q2 hf
                      injection hf with q3 _
                      injection q1 with _ q1
                      injection q2 with q2
                      injection q3 with _ q3
                      subst q1; subst q2; subst q3
                      have f3 : ((k : Int) != (j : Int)) = true := by simp; omega
                      have f4 : (k != j) = true := by simpa using hkj
                      clear hz HIs HCx HF hkj
                      refine WH.start (S := fun w' : World => Blk w' gN 43 #[.int .i64 (k : Int), .string x.name, .int .i64 x.ino] ∧ RN w' (some ad) 2 (erows l)) [false, false, false, false, false, false, false, false, false, false, false, false, false, false, false, false, false] 17 rfl rfl (by kernel_rfl) ⟨HFq.out.ext (bdrew wq 1), HRq.out.below (bdrew wq 1)⟩ (fun hSn => ?_); obtain ⟨wT, hwS⟩ : ∃ x, (wq).drew = x := ⟨_, rfl⟩; have HE := Lib.hid (show Below (wq).heap.size (wq) wT from hwS ▸ bdrew wq 1); rw [hwS] at hSn ⊢; clear hwS
                      refine WH.tk 0 ?_; simp only [setL]
                      refine WH.tk 1 ?_; simp only [setL]
                      refine WH.tk 2 ?_; simp only [setL]
                      refine WH.tk 3 ?_; simp only [setL]
                      refine WH.tk 4 ?_; simp only [setL]
                      refine WH.tk 5 ?_; simp only [setL]
                      refine WH.tk 6 ?_; simp only [setL]
                      refine WH.tk 7 ?_; simp only [setL]
                      refine WH.tk 8 ?_; simp only [setL]
                      refine WH.tv 9 rfl (fun w' hSw => exec_load_cells _ _ rfl ⟨gN, 1, none⟩ rfl _ Try.underlying39 [.string x.name, .int .i64 x.ino] Try.entSize hSw.1.slot1) ?_; simp only [setL]
                      refine WH.tk 10 ?_; simp only [setL]
                      refine WH.tk 11 ?_; simp only [setL]
                      refine WH.tk 12 ?_; simp only [setL]
                      refine WH.tv 13 rfl (fun w' hSw => exec_load_cells _ _ rfl (ad.add (k * 2)) rfl _ Try.underlying39 [.string x.name, .int .i64 x.ino] Try.entSize (hSw.2.row HG.out rfl)) ?_; simp only [setL]
                      refine WH.tv 14 rfl (fun w' hSw => exec_eql_agg _ _ _ _ _ rfl (by kernel_rfl) _ _ rfl rfl _ (neq_ent_same x.ino x.name _)) ?_; simp only [setL]
                      refine WH.tk 15 ?_; simp only [setL]
                      refine WH.tk 16 ?_; simp only [setL]
                      refine WH.done (by kernel_rfl) ?_
                      have Vz := Lib.hid (bt Vq.out HE.out)
                      clear HE hSn HFq HRq Vq
                      go_wp2_with fail
                      go_roundw
                      case rel => exact ⟨k + 1, by have := Hlt.out; omega, by go_num, Vz.out⟩
                      case measure => have := Hlt.out; simp [intOf]; omega
                · have hkn : k = n := by omega
                  subst hkn
                  have e1 : decide (k < k) = false := by simp
                  have e2 : decide ((k : Int) < k) = false := by simp
                  have HCw := Lib.hid (Hbg.out.ext HV.out)
                  have Ew := Lib.hid (bt Eg.out HV.out)
                  clear hk hlt
                  go_wp2_with (refine wpList_load_arr rfl _ _ rfl _ rfl _ _ HCw.out _ _ Try.underlying26 (Try.blockFits HCL.out) ?_)
                  refine (bright_any C HCL.out _).mono ?_; rintro e wx ⟨rfl, hbx⟩
                  rw [HCR.out]
                  go_wp2_with fail
                  refine (works18_any _).mono ?_; rintro e wu ⟨rfl, hbu⟩
                  go_wp2_with fail
                  go_ret
                  exact ⟨rfl, bt (bt Ew.out hbx) hbu⟩
        · have x0 : decide (n < 7) = false := decide_eq_false h7
          rw [x0]
          clear h7 x0
          go_upto_region 14 with fail
          have HXy := HXc
          have Ey := Ec
          clear HXc Ec HEc HPc Hbc HAd HPt Hp1 Hr1 HRv Hh
          generalize wc = wy at *
          by_cases hn0 : n = 0
          · subst hn0
            have f0 : ((0 : Int) == 0) = true := rfl
            go_wp2_with fail
            refine (works18_any _).mono ?_; rintro e wz ⟨rfl, hbz⟩
            go_wp2_with fail
            go_ret
            exact ⟨rfl, bt Ey.out hbz⟩
          · have f0 : ((n : Int) == 0) = false := by simpa using hn0
            have f1 : (n == 0) = false := by simpa using hn0
            obtain ⟨j, hjn, j1, j2, j3, j4⟩ := mod_some gone (n := n) (by omega) Hn7.out
            obtain ⟨C, hC, hCL, hCR, hCf⟩ := HGn.out j hjn
            have hn0z : (n : Int) ≠ 0 := by omega
            have hjs : slotB (j : Int) = true := decide_eq_true (by have := Hn7.out; omega)
            have hct := clrT_yes hjs
            have HC := Lib.hid hC
            have HCL := Lib.hid hCL
            have HCR := Lib.hid hCR
            have HCf := Lib.hid hCf
            have HCt := Lib.hid hct
            clear hC hCL hCR hCf hct hjs HGn
            go_wp2_with fail
            refine (bclear_any (j : Int) _).mono ?_; rintro e wz ⟨A2, n2, c2, rfl, hp2, hbz⟩
            rw [HCt.out.1] at hp2 ⊢
            rw [HCt.out.2]
            have HQ := Lib.hid hp2
            have HXz := Lib.hid (HXy.out.ext hbz)
            have Ez := Lib.hid (bt Ey.out hbz)
            have zz := Lib.hid (show w.heap.size ≤ wz.heap.size from Ez.out.size)
            clear hbz hp2 HXy Ey HCt
            go_wp2_with (refine wpList_alloc_row rfl _ rfl _ Try.patchZero ?_)
            apply Stop.go; intro wb Hgb Hbb
            go_wp2_with (refine wpList_store_arr rfl _ _ _ rfl _ #[.int .i64 (32 + 32 * (j : Int)), .slice A2 n2 c2] rfl rfl _ _ Hbb.out Try.patchSize rfl (by simp [Value.oneCell']) ?_)
            apply Stop.go; intro wd Hod Hbd
            have Dd := Lib.hid (bonly Hgb.out.1 Hod.out (Nat.le_refl _))
            have HXd := Lib.hid (HXz.out.ext Dd.out)
            have HQd := Lib.hid (HQ.out.below Dd.out)
            have Ed := Lib.hid (bt Ez.out Dd.out)
            generalize wz.heap.size = gz at *
            clear Hgb Hbb Hod Dd HXz HQ Ez zz
            go_wp2_with (first | refine wpList_load_arr rfl _ _ rfl _ rfl _ _ HXd.out _ _ Try.underlying26 (Try.blockFits HNL.out) ?_ | refine wpList_load_blk rfl _ _ rfl _ rfl _ _ Hbd.out _ Try.underlying55 rfl Try.patchSize ?_)
            refine (play_any X HNL.out ⟨32 + 32 * (j : Int), zeros 32⟩ A2 n2 c2 _ HQd.out).mono ?_; rintro e we ⟨rfl, hbe⟩
            rw [HC.out]
            have Ee := Lib.hid (bt Ed.out hbe)
            have ze := Lib.hid (show w.heap.size ≤ we.heap.size from Ee.out.size)
            clear hbe HXd HQd Hbd Ed HC
            go_wp2_with (refine wpList_alloc_row rfl _ rfl _ Try.blockZero ?_)
            apply Stop.go; intro wf Hgf Hbf
            go_wp2_with (refine wpList_store_arr rfl _ _ _ rfl _ _ rfl rfl _ _ Hbf.out (Try.blockFits HCL.out) (by rw [bcells_size, bcells_size, HCL.out, HzL.out]) (oneCell_bcells _) ?_)
            apply Stop.go; intro wg Hog Hbg
            have Eg := Lib.hid (bonly (bt Ee.out Hgf.out.1) Hog.out ze.out)
            generalize we.heap.size = ge at *
            clear Hgf Hbf Hog Ee ze
            go_wp2_with fail
            go_loopw [22] (fun q wr => ∃ k : Nat, k ≤ n ∧ q = .int .i64 k ∧ Below wg.heap.size wg wr) (fun q _ => n - (intOf q).toNat)
            case atStart => exact ⟨0, Nat.zero_le _, rfl, Below.refl _ _⟩
            case round =>
              obtain ⟨k, hk, rfl, hv⟩ := hrel
              have HV := Lib.hid hv
              clear hv
              by_cases hlt : k < n
              · have hkl : k < l.length := by rw [Hn.out]; exact hlt
                obtain ⟨x, hxk⟩ : ∃ x, l[k]? = some x := ⟨_, List.getElem?_eq_getElem hkl⟩
                have hR := Hr.out.below (bt Eg.out HV.out)
                obtain ⟨ad, rfl⟩ := hR.adr (k := k) (by rw [erows_len]; exact hkl) (by decide)
                have HR := Lib.hid hR
                have HG := Lib.hid (erow_at hxk)
                have HCx := Lib.hid (HCf.out k x hxk)
                have e1 : decide (k < n) = true := decide_eq_true hlt
                have e2 : decide ((k : Int) < (n : Int)) = true := by simp; omega
                have e3 : (k : Int) < n := by omega
                have hwk : IntKind.i64.wrap ((k : Int) + 1) = (k : Int) + 1 := IntWalk.i64_in _ (by have := Hn7.out; omega)
                have Hlt := Lib.hid hlt
                have HCw := Lib.hid (Hbg.out.ext HV.out)
                obtain ⟨fa, ft, fc, hF⟩ := fndC_form C x.name
                have HF := Lib.hid hF
                obtain ⟨is, his⟩ : ∃ r, (findS C x.name).isSome = r := ⟨_, rfl⟩
                have HIs := Lib.hid his
                have HFn := Lib.hid (fun w => bfind_any C HCL.out x.name w)
                rw [hF, his] at HFn
                have zr := Lib.hid (show w.heap.size ≤ wr.heap.size from (bt Eg.out HV.out).size)
                clear hxk hR hkl hlt hk hF his
                go_wp2_with fail
                refine WH.start (S := fun w' : World => Blk w' ge 26 (bcells C) ∧ RN w' (some ad) 2 (erows l)) [false, false, false, false, false, false, false, false, false, false, false, false, false] 13 rfl rfl (by kernel_rfl) ⟨HCw.out.ext (bdrew wr 1), HR.out.below (bdrew wr 1)⟩ (fun hSn => ?_); obtain ⟨wS, hwS⟩ : ∃ x, (wr).drew = x := ⟨_, rfl⟩; have HE := Lib.hid (show Below (wr).heap.size (wr) wS from hwS ▸ bdrew wr 1); rw [hwS] at hSn ⊢; clear hwS
                refine WH.tv 0 rfl (fun w' hSw => exec_load_blk _ _ rfl _ rfl _ _ (hSw.1) _ (Try.underlying26) rfl (Try.blockFits HCL.out)) ?_; simp only [setL]
                refine WH.tk 1 ?_; simp only [setL]
                refine WH.tk 2 ?_; simp only [setL]
                refine WH.tk 3 ?_; simp only [setL]
                refine WH.tk 4 ?_; simp only [setL]
                refine WH.tv 5 rfl (fun w' hSw => exec_load_cell _ _ rfl _ rfl (.string x.name) (by have := hSw.2.row HG.out rfl 0 _ rfl; rwa [add_of_add] at this) _ Try.underlying9 rfl) ?_; simp only [setL]
                refine WH.two 6 10 _ _ rfl rfl (by kernel_rfl) rfl rfl (fun K hK => ?_) (fun K hK => ?_)
                · go_simp; refine (HFn.out _).mono ?_; rintro e wh ⟨rfl, hbh⟩; go_simp
                  have HE := Lib.hid (bt HE.out hbh)
                  have hSn := And.intro (hSn.1.ext hbh) (hSn.2.below hbh); refine hK _ _ hSn ?_; clear hK; clear K; simp only [setL]
                  refine WH.tk 7 ?_; simp only [setL]
                  refine WH.tk 8 ?_; simp only [setL]
                  refine WH.tk 9 ?_; simp only [setL]
                  have zN := Lib.hid (show wr.heap.size ≤ wh.heap.size ∧ ge < wh.heap.size from ⟨HE.out.size, hSn.1.lt⟩)
                  refine WH.only 10 _ rfl (by kernel_rfl) rfl (fun K hK => ?_)
                  refine ow_alloc _ rfl _ Try.slotZero ?_
                  apply Stop.go; intro wi Hgi Hbi
                  have HE := Lib.hid (bt HE.out Hgi.out.1)
                  have hSn := And.intro (hSn.1.ext Hgi.out.1) (hSn.2.below Hgi.out.1); refine hK _ _ hSn ?_; clear hK; clear K; simp only [setL]
                  refine WH.only 11 _ rfl (by kernel_rfl) rfl (fun K hK => ?_)
                  refine ow_store _ _ _ rfl _ #[.int .i64 fa, .string ft, .int .i64 fc] rfl rfl _ _ Hbi.out Try.slotSize rfl (by simp [Value.oneCell']) ?_
                  apply Stop.go; intro wq Hoq Hbq
                  have hDq : Below wh.heap.size wh wq := bonly Hgi.out.1 Hoq.out (Nat.le_refl _)
                  have hRq : RN wq (some ad) 2 (erows l) := HR.out.below (bonly HE.out Hoq.out zN.out.1)
                  have hVq : Below wr.heap.size wr wq := bonly HE.out Hoq.out zN.out.1
                  have hSn := And.intro (hSn.1.only Hoq.out (by have := zN.out; omega)) hRq; refine hK _ _ hSn ?_; clear hK; clear K; simp only [setL]
                  refine WH.tk 12 ?_; simp only [setL]
                  refine WH.done (by kernel_rfl) ?_
                  have HFq := Lib.hid Hbq.out
                  have HRq := Lib.hid hRq
                  have Vq := Lib.hid (bt HV.out hVq)
                  generalize wh.heap.size = gN at *
                  clear HE hSn hbh Hgi Hbi Hoq Hbq hDq hRq hVq HCw HR HV HFn
                  go_wp2_with fail
                  by_cases hkj : k = j
                  · subst hkj
                    have hz := HIs.out
                    rw [HCx.out.1, if_pos rfl] at hz
                    obtain rfl : is = false := hz.symm
                    have f3 : ((k : Int) != (k : Int)) = false := by simp
                    clear hz HIs HCx HF
                    refine WH.start (S := fun w' : World => Blk w' gN 43 #[.int .i64 fa, .string ft, .int .i64 fc]) [false, false, false, false, false, false, false, false, false, false, false, false, false, false, false, false, false] 17 rfl rfl (by kernel_rfl) (HFq.out.ext (bdrew wq 1)) (fun hSn => ?_); obtain ⟨wT, hwS⟩ : ∃ x, (wq).drew = x := ⟨_, rfl⟩; have HE := Lib.hid (show Below (wq).heap.size (wq) wT from hwS ▸ bdrew wq 1); rw [hwS] at hSn ⊢; clear hwS
                    refine WH.tk 0 ?_; simp only [setL]
                    refine WH.tk 1 ?_; simp only [setL]
                    refine WH.tk 2 ?_; simp only [setL]
                    refine WH.tk 3 ?_; simp only [setL]
                    refine WH.tk 4 ?_; simp only [setL]
                    refine WH.tk 5 ?_; simp only [setL]
                    refine WH.tk 6 ?_; simp only [setL]
                    refine WH.tk 7 ?_; simp only [setL]
                    refine WH.skip 8 _ rfl (by kernel_rfl) (fun _ _ _ h => h) rfl (by assumption) ?_; simp only [setL]
                    refine WH.skip 9 _ rfl (by kernel_rfl) (fun _ _ _ h => h) rfl (by assumption) ?_; simp only [setL]
                    refine WH.skip 10 _ rfl (by kernel_rfl) (fun _ _ _ h => h) rfl (by assumption) ?_; simp only [setL]
                    refine WH.skip 11 _ rfl (by kernel_rfl) (fun _ _ _ h => h) rfl (by assumption) ?_; simp only [setL]
                    refine WH.skip 12 _ rfl (by kernel_rfl) (fun _ _ _ h => h) rfl (by assumption) ?_; simp only [setL]
                    refine WH.skip 13 _ rfl (by kernel_rfl) (fun _ _ _ h => h) rfl (by assumption) ?_; simp only [setL]
                    refine WH.skip 14 _ rfl (by kernel_rfl) (fun _ _ _ h => h) rfl (by assumption) ?_; simp only [setL]
                    refine WH.tk 15 ?_; simp only [setL]
                    refine WH.tk 16 ?_; simp only [setL]
                    refine WH.done (by kernel_rfl) ?_
                    have Vz := Lib.hid (bt Vq.out HE.out)
                    clear HE hSn HFq HRq Vq
                    go_wp2_with fail
                    go_roundw
                    case rel => exact ⟨k + 1, by have := Hlt.out; omega, by go_num, Vz.out⟩
                    case measure => have := Hlt.out; simp [intOf]; omega
                  · have hz := HIs.out
                    rw [HCx.out.1, if_neg hkj] at hz
                    obtain rfl : is = true := hz.symm
                    have hf := HF.out
                    rw [fndC_at (by rw [HCx.out.1, if_neg hkj]) (HCx.out.2 hkj)] at hf
                    injection hf with hf
                    injection hf with q1 hf
                    injection hf with q2 hf
                    injection hf with q3 _
                    injection q1 with _ q1
                    injection q2 with q2
                    injection q3 with _ q3
                    subst q1; subst q2; subst q3
                    have f3 : ((k : Int) != (j : Int)) = true := by simp; omega
                    have f4 : (k != j) = true := by simpa using hkj
                    clear hz HIs HCx HF hkj
                    refine WH.start (S := fun w' : World => Blk w' gN 43 #[.int .i64 (k : Int), .string x.name, .int .i64 x.ino] ∧ RN w' (some ad) 2 (erows l)) [false, false, false, false, false, false, false, false, false, false, false, false, false, false, false, false, false] 17 rfl rfl (by kernel_rfl) ⟨HFq.out.ext (bdrew wq 1), HRq.out.below (bdrew wq 1)⟩ (fun hSn => ?_); obtain ⟨wT, hwS⟩ : ∃ x, (wq).drew = x := ⟨_, rfl⟩; have HE := Lib.hid (show Below (wq).heap.size (wq) wT from hwS ▸ bdrew wq 1); rw [hwS] at hSn ⊢; clear hwS
                    refine WH.tk 0 ?_; simp only [setL]
                    refine WH.tk 1 ?_; simp only [setL]
                    refine WH.tk 2 ?_; simp only [setL]
                    refine WH.tk 3 ?_; simp only [setL]
                    refine WH.tk 4 ?_; simp only [setL]
                    refine WH.tk 5 ?_; simp only [setL]
                    refine WH.tk 6 ?_; simp only [setL]
                    refine WH.tk 7 ?_; simp only [setL]
                    refine WH.tk 8 ?_; simp only [setL]
                    refine WH.tv 9 rfl (fun w' hSw => exec_load_cells _ _ rfl ⟨gN, 1, none⟩ rfl _ Try.underlying39 [.string x.name, .int .i64 x.ino] Try.entSize hSw.1.slot1) ?_; simp only [setL]
                    refine WH.tk 10 ?_; simp only [setL]
                    refine WH.tk 11 ?_; simp only [setL]
                    refine WH.tk 12 ?_; simp only [setL]
                    refine WH.tv 13 rfl (fun w' hSw => exec_load_cells _ _ rfl (ad.add (k * 2)) rfl _ Try.underlying39 [.string x.name, .int .i64 x.ino] Try.entSize (hSw.2.row HG.out rfl)) ?_; simp only [setL]
                    refine WH.tv 14 rfl (fun w' hSw => exec_eql_agg _ _ _ _ _ rfl (by kernel_rfl) _ _ rfl rfl _ (neq_ent_same x.ino x.name _)) ?_; simp only [setL]
                    refine WH.tk 15 ?_; simp only [setL]
                    refine WH.tk 16 ?_; simp only [setL]
                    refine WH.done (by kernel_rfl) ?_
                    have Vz := Lib.hid (bt Vq.out HE.out)
                    clear HE hSn HFq HRq Vq
                    go_wp2_with fail
                    go_roundw
                    case rel => exact ⟨k + 1, by have := Hlt.out; omega, by go_num, Vz.out⟩
                    case measure => have := Hlt.out; simp [intOf]; omega
                · refine ow_alloc _ rfl _ Try.slotZero ?_
                  apply Stop.go; intro wi Hgi Hbi
                  have zS := Lib.hid (show wr.heap.size ≤ wS.heap.size ∧ ge < wS.heap.size from ⟨HE.out.size, hSn.1.lt⟩)
                  have HE := Lib.hid (bt HE.out Hgi.out.1)
                  have hSn := And.intro (hSn.1.ext Hgi.out.1) (hSn.2.below Hgi.out.1); refine hK _ _ hSn ?_; clear hK; clear K; simp only [setL]
                  refine WH.only 6 _ rfl (by kernel_rfl) rfl (fun K hK => ?_)
                  go_simp; refine (HFn.out _).mono ?_; rintro e wh ⟨rfl, hbh⟩; go_simp
                  have HE := Lib.hid (bt HE.out hbh)
                  have HBi := Lib.hid (Hbi.out.ext hbh)
                  have hSn := And.intro (hSn.1.ext hbh) (hSn.2.below hbh); refine hK _ _ hSn ?_; clear hK; clear K; simp only [setL]
                  refine WH.tk 7 ?_; simp only [setL]
                  refine WH.tk 8 ?_; simp only [setL]
                  refine WH.tk 9 ?_; simp only [setL]
                  refine WH.only 11 _ rfl (by kernel_rfl) rfl (fun K hK => ?_)
                  refine ow_store _ _ _ rfl _ #[.int .i64 fa, .string ft, .int .i64 fc] rfl rfl _ _ HBi.out Try.slotSize rfl (by simp [Value.oneCell']) ?_
                  apply Stop.go; intro wq Hoq Hbq
                  have hVq : Below wr.heap.size wr wq := bonly HE.out Hoq.out zS.out.1
                  have hRq : RN wq (some ad) 2 (erows l) := HR.out.below hVq
                  have hSn := And.intro (hSn.1.only Hoq.out (by have := zS.out; omega)) hRq; refine hK _ _ hSn ?_; clear hK; clear K; simp only [setL]
                  refine WH.tk 12 ?_; simp only [setL]
                  refine WH.done (by kernel_rfl) ?_
                  have HFq := Lib.hid Hbq.out
                  have HRq := Lib.hid hRq
                  have Vq := Lib.hid (bt HV.out hVq)
                  generalize wS.heap.size = gN at *
                  clear HE hSn hbh Hgi Hbi HBi Hoq Hbq hRq hVq HCw HR HV HFn
                  go_wp2_with fail
                  by_cases hkj : k = j
                  · subst hkj
                    have hz := HIs.out
                    rw [HCx.out.1, if_pos rfl] at hz
                    obtain rfl : is = false := hz.symm
                    have f3 : ((k : Int) != (k : Int)) = false := by simp
                    clear hz HIs HCx HF
                    refine WH.start (S := fun w' : World => Blk w' gN 43 #[.int .i64 fa, .string ft, .int .i64 fc]) [false, false, false, false, false, false, false, false, false, false, false, false, false, false, false, false, false] 17 rfl rfl (by kernel_rfl) (HFq.out.ext (bdrew wq 1)) (fun hSn => ?_); obtain ⟨wT, hwS⟩ : ∃ x, (wq).drew = x := ⟨_, rfl⟩; have HE := Lib.hid (show Below (wq).heap.size (wq) wT from hwS ▸ bdrew wq 1); rw [hwS] at hSn ⊢; clear hwS
                    refine WH.tk 0 ?_; simp only [setL]
                    refine WH.tk 1 ?_; simp only [setL]
                    refine WH.tk 2 ?_; simp only [setL]
                    refine WH.tk 3 ?_; simp only [setL]
                    refine WH.tk 4 ?_; simp only [setL]
                    refine WH.tk 5 ?_; simp only [setL]
                    refine WH.tk 6 ?_; simp only [setL]
                    refine WH.tk 7 ?_; simp only [setL]
                    refine WH.skip 8 _ rfl (by kernel_rfl) (fun _ _ _ h => h) rfl (by assumption) ?_; simp only [setL]
                    refine WH.skip 9 _ rfl (by kernel_rfl) (fun _ _ _ h => h) rfl (by assumption) ?_; simp only [setL]
                    refine WH.skip 10 _ rfl (by kernel_rfl) (fun _ _ _ h => h) rfl (by assumption) ?_; simp only [setL]
                    refine WH.skip 11 _ rfl (by kernel_rfl) (fun _ _ _ h => h) rfl (by assumption) ?_; simp only [setL]
                    refine WH.skip 12 _ rfl (by kernel_rfl) (fun _ _ _ h => h) rfl (by assumption) ?_; simp only [setL]
                    refine WH.skip 13 _ rfl (by kernel_rfl) (fun _ _ _ h => h) rfl (by assumption) ?_; simp only [setL]
                    refine WH.skip 14 _ rfl (by kernel_rfl) (fun _ _ _ h => h) rfl (by assumption) ?_; simp only [setL]
                    refine WH.tk 15 ?_; simp only [setL]
                    refine WH.tk 16 ?_; simp only [setL]
                    refine WH.done (by kernel_rfl) ?_
                    have Vz := Lib.hid (bt Vq.out HE.out)
                    clear HE hSn HFq HRq Vq
                    go_wp2_with fail
                    go_roundw
                    case rel => exact ⟨k + 1, by have := Hlt.out; omega, by go_num, Vz.out⟩
                    case measure => have := Hlt.out; simp [intOf]; omega
                  · have hz := HIs.out
                    rw [HCx.out.1, if_neg hkj] at hz
                    obtain rfl : is = true := hz.symm
                    have hf := HF.out
                    rw [fndC_at (by rw [HCx.out.1, if_neg hkj]) (HCx.out.2 hkj)] at hf
                    injection hf with hf
                    injection hf with q1 hf
                    injection hf with q2 hf
                    injection hf with q3 _
                    injection q1 with _ q1
                    injection q2 with q2
                    injection q3 with _ q3
                    subst q1; subst q2; subst q3
                    have f3 : ((k : Int) != (j : Int)) = true := by simp; omega
                    have f4 : (k != j) = true := by simpa using hkj
                    clear hz HIs HCx HF hkj
                    refine WH.start (S := fun w' : World => Blk w' gN 43 #[.int .i64 (k : Int), .string x.name, .int .i64 x.ino] ∧ RN w' (some ad) 2 (erows l)) [false, false, false, false, false, false, false, false, false, false, false, false, false, false, false, false, false] 17 rfl rfl (by kernel_rfl) ⟨HFq.out.ext (bdrew wq 1), HRq.out.below (bdrew wq 1)⟩ (fun hSn => ?_); obtain ⟨wT, hwS⟩ : ∃ x, (wq).drew = x := ⟨_, rfl⟩; have HE := Lib.hid (show Below (wq).heap.size (wq) wT from hwS ▸ bdrew wq 1); rw [hwS] at hSn ⊢; clear hwS
                    refine WH.tk 0 ?_; simp only [setL]
                    refine WH.tk 1 ?_; simp only [setL]
                    refine WH.tk 2 ?_; simp only [setL]
                    refine WH.tk 3 ?_; simp only [setL]
                    refine WH.tk 4 ?_; simp only [setL]
                    refine WH.tk 5 ?_; simp only [setL]
                    refine WH.tk 6 ?_; simp only [setL]
                    refine WH.tk 7 ?_; simp only [setL]
                    refine WH.tk 8 ?_; simp only [setL]
                    refine WH.tv 9 rfl (fun w' hSw => exec_load_cells _ _ rfl ⟨gN, 1, none⟩ rfl _ Try.underlying39 [.string x.name, .int .i64 x.ino] Try.entSize hSw.1.slot1) ?_; simp only [setL]
                    refine WH.tk 10 ?_; simp only [setL]
                    refine WH.tk 11 ?_; simp only [setL]
                    refine WH.tk 12 ?_; simp only [setL]
                    refine WH.tv 13 rfl (fun w' hSw => exec_load_cells _ _ rfl (ad.add (k * 2)) rfl _ Try.underlying39 [.string x.name, .int .i64 x.ino] Try.entSize (hSw.2.row HG.out rfl)) ?_; simp only [setL]
                    refine WH.tv 14 rfl (fun w' hSw => exec_eql_agg _ _ _ _ _ rfl (by kernel_rfl) _ _ rfl rfl _ (neq_ent_same x.ino x.name _)) ?_; simp only [setL]
                    refine WH.tk 15 ?_; simp only [setL]
                    refine WH.tk 16 ?_; simp only [setL]
                    refine WH.done (by kernel_rfl) ?_
                    have Vz := Lib.hid (bt Vq.out HE.out)
                    clear HE hSn HFq HRq Vq
                    go_wp2_with fail
                    go_roundw
                    case rel => exact ⟨k + 1, by have := Hlt.out; omega, by go_num, Vz.out⟩
                    case measure => have := Hlt.out; simp [intOf]; omega
              · have hkn : k = n := by omega
                subst hkn
                have e1 : decide (k < k) = false := by simp
                have e2 : decide ((k : Int) < k) = false := by simp
                have HCw := Lib.hid (Hbg.out.ext HV.out)
                have Ew := Lib.hid (bt Eg.out HV.out)
                clear hk hlt
                go_wp2_with (refine wpList_load_arr rfl _ _ rfl _ rfl _ _ HCw.out _ _ Try.underlying26 (Try.blockFits HCL.out) ?_)
                refine (bright_any C HCL.out _).mono ?_; rintro e wx ⟨rfl, hbx⟩
                rw [HCR.out]
                go_wp2_with fail
                refine (works18_any _).mono ?_; rintro e wu ⟨rfl, hbu⟩
                go_wp2_with fail
                go_ret
                exact ⟨rfl, bt (bt Ew.out hbx) hbu⟩
      · have d2 : (errB l != 0) = true := by simpa using herr
        clear herr HAdd HGo
        go_wp2_with fail
        refine (works18_any _).mono ?_; rintro e w6 ⟨rfl, hb6⟩
        go_wp2_with fail
        go_ret
        exact ⟨rfl, bt E5.out hb6⟩
  · clear hmu
    go_wp2_with fail
    refine (works18_any _).mono ?_; rintro e w3 ⟨rfl, hb3⟩
    go_wp2_with fail
    go_ret
    exact ⟨rfl, bt E2.out hb3⟩

end Go.Proofs.Ytmojappbgghpbaa
