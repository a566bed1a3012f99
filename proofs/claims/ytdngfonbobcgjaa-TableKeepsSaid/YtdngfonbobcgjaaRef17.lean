/-
  Contracts of the document's answers of layer 17: Raw, Get, With, Nought.
-/
import Derived.Test.YtdngfonbobcgjaaTab1
import Derived.Test.YtdngfonbobcgjaaRef16b
import Derived.Test.YtdngfonbobcgjaaAppB
namespace Go.Proofs.Ytdngfonbobcgjaa
open Go.RowKit

set_option maxHeartbeats 800000 in
theorem rraw17_any (A : Option Addr) (cap : Nat) (b : List UInt8) (hb : b.length = 256) (q : Nat) (hq : q < 8) (w : World) (hr : RB w A b) :
    Calls Try.prog 15 #[.slice A 256 cap, .int .i64 q] w (RetB w (rawT b (q : Int))) := by
  have HC := Lib.hid (show rcutL b (32 * (q : Int)) 32 = rawT b (q : Int) by
    unfold rcutL
    rw [decide_eq_true (by omega), rawT_nat b hq, show (32 * (q : Int)).toNat = 32 * q from by omega]
    rfl)
  have d0 : decide ((q : Int) < 0) = false := decide_eq_false (by omega)
  have d1 : decide (7 < (q : Int)) = false := by simp; omega
  have d2 : decide (7 < q) = false := by simp; omega
  have hw : IntKind.i64.wrap (32 * (q : Int)) = 32 * (q : Int) := IntWalk.i64_in _ (by omega)
  go_enter Try.func15, Try.ntmps15
  go_wp2_with fail
  refine (rcut_any A 256 cap b hb (by omega) (32 * (q : Int)) 32 _ hr).mono ?_; rintro e w2 ⟨A2, n2, c2, rfl, hl2, hc2, hm2, hr2, hb2⟩
  rw [HC.out] at hl2 hr2
  have HL2 := Lib.hid hl2
  have HR2 := Lib.hid hr2
  clear hl2 hr2
  go_wp2_with fail
  go_ret
  exact ⟨A2, n2, c2, rfl, HL2.out, hc2, hm2, HR2.out, hb2⟩

set_option maxHeartbeats 1600000 in
theorem rget17_any (A : Option Addr) (cap : Nat) (b : List UInt8) (hb : b.length = 256) (k : Int) (w : World) (hr : RB w A b) :
    Calls Try.prog 13 #[.slice A 256 cap, .int .i64 k] w fun e w' => e = .returned (.tuple #[.agg (icells (getTV b k)), .bool (getT b k).isSome]) ∧ Below w.heap.size w w' := by
  have HbL := Lib.hid hb
  have HRL := Lib.hid (rawT_len hb k)
  have Hr := Lib.hid hr
  clear hb hr
  cases hp : placeB k
  · have H0 := Lib.hid (show getTV b k = freeI ∧ getT b k = none by unfold getTV; rw [getT_no b hp]; exact ⟨rfl, rfl⟩)
    rcases placeB_false hp with h | h
    focus (
      have d0 : decide (k < 0) = true := by simpa using h)
    rotate_left
    focus (
      have d0 : decide (k < 0) = false := by simp; omega
      have d1 : decide (7 < k) = true := by simp; omega)
    rotate_left
    all_goals
      clear hp h
      go_enter Try.func13, Try.ntmps13
      go_wp2_with (refine wpList_alloc_row rfl _ rfl _ Try.inoZero ?_)
      apply Stop.go; intro w1 Hg1 Hb1
      go_wp2_with (first | refine wpList_store_arr rfl _ _ _ rfl _ (icells freeI) rfl rfl _ _ Hb1.out Try.inoSize rfl (oneCell_icells _) ?_)
      apply Stop.go; intro wc Hoc Hbc
      go_wp2_with ((with_reducible show bodyPost _ _ _ _ _ _); refine bodyPost_struct_tmp rfl _ rfl _ _ Hbc.out _ Try.underlying25 rfl Try.inoSize rfl _ rfl ?_)
      apply Stop.go
      rw [H0.out.1]
      exact ⟨⟨rfl, H0.out.2⟩, bonly Hg1.out.1 Hoc.out (Nat.le_refl _)⟩
  · have H0 := Lib.hid (show getTV b k = cleanV (rawT b k) ∧ (getT b k).isSome = (cleanI (rawT b k)).isSome by unfold getTV cleanV getT; rw [hp]; exact ⟨rfl, rfl⟩)
    obtain ⟨q, hq, rfl⟩ := placeB_true hp
    have d0 : decide ((q : Int) < 0) = false := decide_eq_false (by omega)
    have d1 : decide (7 < (q : Int)) = false := by simp; omega
    have d2 : decide (7 < q) = false := by simp; omega
    clear hp
    go_enter Try.func13, Try.ntmps13
    go_wp2_with (refine wpList_alloc_row rfl _ rfl _ Try.inoZero ?_)
    apply Stop.go; intro w1 Hg1 Hb1
    go_wp2_with fail
    refine (rraw17_any A cap b HbL.out q hq _ (Hr.out.below Hg1.out.1)).mono ?_; rintro e w2 ⟨A2, n2, c2, rfl, hl2, hc2, hm2, hr2, hb2⟩
    obtain rfl : n2 = 32 := by rw [← hl2, HRL.out]
    have HR2 := Lib.hid hr2
    have HI2 := Lib.hid (Hb1.out.ext hb2)
    have E2 := Lib.hid (bt Hg1.out.1 hb2)
    clear hl2 hc2 hm2 hr2 hb2 Hb1 Hg1
    go_wp2_with fail
    refine (rcleanI_any A2 c2 (rawT b (q : Int)) HRL.out _ HR2.out).mono ?_; rintro e w3 ⟨rfl, hb3⟩
    have HI3 := Lib.hid (HI2.out.ext hb3)
    have E3 := Lib.hid (bt E2.out hb3)
    have HVL := Lib.hid (cleanV_len (rawT b (q : Int)))
    clear hb3 HR2 HI2 E2
    go_wp2_with (first | refine wpList_store_arr rfl _ _ _ rfl _ _ rfl rfl _ _ HI3.out (Try.inoFits HVL.out) (by rw [icells_size, icells_size, HVL.out]; rfl) (oneCell_icells _) ?_)
    apply Stop.go; intro wc Hoc Hbc
    go_wp2_with ((with_reducible show bodyPost _ _ _ _ _ _); refine bodyPost_struct_tmp rfl _ rfl _ _ Hbc.out _ Try.underlying25 rfl (Try.inoFits HVL.out) rfl _ rfl ?_)
    apply Stop.go
    rw [H0.out.1, H0.out.2]
    exact ⟨⟨rfl, rfl⟩, bonly E3.out Hoc.out (Nat.le_refl _)⟩

/-- A result that is a slice of bytes, beside a number. -/
def RetBE (w : World) (l : List UInt8) (v : Int) (e : Ending) (w' : World) : Prop := ∃ A n c, e = .returned (.tuple #[.slice A n c, .int .i64 v]) ∧ l.length = n ∧ n ≤ c ∧ c ≤ maxLen ∧ RB w' A l ∧ Below w.heap.size w w'
theorem rlay17 {b : List UInt8} (hb : b.length = 256) {q : Nat} (hq : q < 8) {l : List Int} (hl : l.length = 11) (h : mayI l = true) : rlayL b (32 * (q : Int)) (putI l) = withT b (q : Int) l := by
  unfold rlayL
  rw [withT_nat hq hl h, hb, decide_eq_true (by omega), decide_eq_true (by omega), show (32 * (q : Int)).toNat = 32 * q from by omega, List.take_of_length_le (by rw [putI_len hl]; omega)]
  rfl
set_option maxHeartbeats 1600000 in
theorem rwith17_any (A : Option Addr) (cap : Nat) (b : List UInt8) (hb : b.length = 256) (hc : 256 ≤ cap) (hm : cap ≤ maxLen) (k : Int) (l : List Int) (hl : l.length = 11) (w : World) (hr : RB w A b) :
    Calls Try.prog 7 #[.slice A 256 cap, .int .i64 k, .agg (icells l)] w (RetBE w (withT b k l) (errT k l)) := by
  have HbL := Lib.hid hb
  have HL := Lib.hid hl
  have Hr := Lib.hid hr
  have Hcm := Lib.hid (show 256 ≤ cap ∧ cap ≤ maxLen from ⟨hc, hm⟩)
  clear hb hr hl hc hm
  cases hp : placeB k
  · have H0 := Lib.hid (show withT b k l = b ∧ errT k l = 2 from ⟨withT_no hp, errT_no hp⟩)
    rcases placeB_false hp with h | h
    focus (
      have d0 : decide (k < 0) = true := by simpa using h)
    rotate_left
    focus (
      have d0 : decide (k < 0) = false := by simp; omega
      have d1 : decide (7 < k) = true := by simp; omega)
    rotate_left
    all_goals
      clear hp h
      go_enter Try.func7, Try.ntmps7
      go_wp2_with (refine wpList_box_row rfl _ _ rfl _ rfl ?_)
      apply Stop.go; intro w1 Hg1 Hb1
      go_wp2_with fail
      go_ret2
      rw [H0.out.1, H0.out.2]
      exact ⟨A, 256, cap, rfl, HbL.out, Hcm.out.1, Hcm.out.2, Hr.out.below Hg1.out.1, Hg1.out.1⟩
  · obtain ⟨q, hq, rfl⟩ := placeB_true hp
    have HE0 := Lib.hid (errT_nat hq l)
    have d0 : decide ((q : Int) < 0) = false := decide_eq_false (by omega)
    have d1 : decide (7 < (q : Int)) = false := by simp; omega
    have d2 : decide (7 < q) = false := by simp; omega
    have hw : IntKind.i64.wrap (32 * (q : Int)) = 32 * (q : Int) := IntWalk.i64_in _ (by omega)
    clear hp
    go_enter Try.func7, Try.ntmps7
    go_wp2_with (refine wpList_box_row rfl _ _ rfl _ rfl ?_)
    apply Stop.go; intro w1 Hg1 Hb1
    go_wp2_with (refine wpList_load_blk rfl _ _ rfl _ rfl _ _ Hb1.out _ Try.underlying25 rfl (Try.inoFits HL.out) ?_)
    refine (rmayI_any l HL.out _).mono ?_; rintro e w2 ⟨rfl, hb2⟩
    have HI2 := Lib.hid (Hb1.out.ext hb2)
    have E2 := Lib.hid (bt Hg1.out.1 hb2)
    clear hb2 Hb1 Hg1
    cases hm : mayI l
    · have H0 := Lib.hid (show withT b (q : Int) l = b ∧ errT (q : Int) l = 1 from ⟨withT_not hm, by rw [HE0.out, hm]; rfl⟩)
      clear hm
      go_wp2_with fail
      go_ret2
      rw [H0.out.1, H0.out.2]
      exact ⟨A, 256, cap, rfl, HbL.out, Hcm.out.1, Hcm.out.2, Hr.out.below E2.out, E2.out⟩
    · have H0 := Lib.hid (show rlayL b (32 * (q : Int)) (putI l) = withT b (q : Int) l ∧ errT (q : Int) l = 0 from ⟨rlay17 HbL.out hq HL.out hm, by rw [HE0.out, hm]; rfl⟩)
      have Hm := Lib.hid hm
      clear hm
      go_wp2_with (refine wpList_load_blk rfl _ _ rfl _ rfl _ _ HI2.out _ Try.underlying25 rfl (Try.inoFits HL.out) ?_)
      refine (rputI_any l HL.out Hm.out _).mono ?_; rintro e w3 ⟨A3, n3, c3, rfl, hl3, hc3, hm3, hr3, hb3⟩
      have HL3 := Lib.hid hl3
      have HR3 := Lib.hid hr3
      have E3 := Lib.hid (bt E2.out hb3)
      clear hl3 hc3 hm3 hr3 hb3 HI2 E2
      go_wp2_with fail
      refine (rlay_any A 256 cap b HbL.out (by omega) (32 * (q : Int)) A3 n3 c3 (putI l) HL3.out _ (Hr.out.below E3.out) HR3.out).mono ?_; rintro e w4 ⟨A4, n4, c4, rfl, hl4, hc4, hm4, hr4, hb4⟩
      rw [H0.out.1] at hl4 hr4
      have HL4 := Lib.hid hl4
      have HR4 := Lib.hid hr4
      have HC4 := Lib.hid (show n4 ≤ c4 ∧ c4 ≤ maxLen from ⟨hc4, hm4⟩)
      have E4 := Lib.hid (bt E3.out hb4)
      clear hl4 hr4 hc4 hm4 hb4 HL3 HR3 E3
      go_wp2_with fail
      go_ret2
      rw [H0.out.2]
      exact ⟨A4, n4, c4, rfl, HL4.out, HC4.out.1, HC4.out.2, HR4.out, E4.out⟩

set_option maxHeartbeats 1600000 in
theorem nought_any (A : Option Addr) (cap : Nat) (b : List UInt8) (hb : b.length = 256) (q : Nat) (hq : q < 8) (w : World) (hr : RB w A b) :
    Calls Try.prog 16 #[.slice A 256 cap, .int .i64 q] w fun e w' => e = .returned (.bool (freeT b q)) ∧ Below w.heap.size w w' := by
  have HbL := Lib.hid hb
  have HzL : Hid ((zeros 32).length = 32) := Lib.hid (zeros_len _)
  have Hr := Lib.hid hr
  have HRW := Lib.hid (fun w (h : RB w A b) => rraw17_any A cap b hb q hq w h)
  have HRL := Lib.hid (rawT_len hb (q : Int))
  have HF := Lib.hid (show freeT b q = decide (rawT b (q : Int) = zeros 32) by unfold freeT; exact Bool.eq_iff_iff.2 (by simp))
  obtain ⟨X, hX⟩ : ∃ X, rawT b (q : Int) = X := ⟨_, rfl⟩
  rw [hX] at HRW HRL HF
  clear hb hr hX
  go_enter Try.func16, Try.ntmps16
  go_wp2_with fail
  refine WH.start (S := fun w' : World => Below w.heap.size w w') [false, false, false, false, false, false] 6 rfl rfl (by kernel_rfl) (bdrew w 1) (fun hSn => ?_); obtain ⟨wS, hwS⟩ : ∃ x, (w).drew = x := ⟨_, rfl⟩; have HE := Lib.hid (show Below (w).heap.size (w) wS from hwS ▸ bdrew w 1); rw [hwS] at hSn ⊢; clear hwS
  refine WH.tk 0 ?_; simp only [setL]
  refine WH.tk 1 ?_; simp only [setL]
  refine WH.two 2 3 _ _ rfl rfl (by kernel_rfl) rfl rfl (fun K hK => ?_) (fun K hK => ?_)
  · go_simp; refine (HRW.out _ (Hr.out.below HE.out)).mono ?_; rintro e wa ⟨A2, n2, c2, rfl, hl2, hc2, hm2, hr2, hb2⟩; go_simp
    obtain rfl : n2 = 32 := by rw [← hl2, HRL.out]
    have HE := Lib.hid (bt HE.out hb2)
    have HR2 := Lib.hid hr2
    clear hl2 hc2 hm2 hr2 hb2
    have hSn := HE.out; refine hK _ _ hSn ?_; clear hK; clear K; simp only [setL]
    refine WH.only 3 _ rfl (by kernel_rfl) rfl (fun K hK => ?_)
    refine ow_make_bytes _ _ _ _ rfl Try.underlying30 Try.byteInfo .i64 .i64 _ _ 32 rfl rfl rfl rfl (by decide) ?_
    apply Stop.go; intro wb Hgb Hbb
    have HE := Lib.hid (bt HE.out Hgb.out.1)
    have hSn := HE.out; refine hK _ _ hSn ?_; clear hK; clear K; simp only [setL]
    refine WH.only 4 _ rfl (by kernel_rfl) rfl (fun K hK => ?_)
    go_simp; refine (same_any _ 32 _ X HRL.out _ 32 _ (zeros 32) HzL.out (by unfold maxLen; omega) (by unfold maxLen; omega) _ (HR2.out.below Hgb.out.1) (RB.of_blk0 Hbb.out)).mono ?_; rintro e wc ⟨rfl, k4, rfl⟩; go_simp
    have HE := Lib.hid (bt HE.out (bdrew wb k4))
    have hSn := HE.out; refine hK _ _ hSn ?_; clear hK; clear K; simp only [setL]
    refine WH.tk 5 ?_; simp only [setL]
    refine WH.done (by kernel_rfl) ?_
    go_wp2_with fail
    go_ret
    rw [HF.out]
    exact ⟨rfl, HE.out⟩
  · refine ow_make_bytes _ _ _ _ rfl Try.underlying30 Try.byteInfo .i64 .i64 _ _ 32 rfl rfl rfl rfl (by decide) ?_
    apply Stop.go; intro wb Hgb Hbb
    have HE := Lib.hid (bt HE.out Hgb.out.1)
    have hSn := HE.out; refine hK _ _ hSn ?_; clear hK; clear K; simp only [setL]
    refine WH.only 2 _ rfl (by kernel_rfl) rfl (fun K hK => ?_)
    go_simp; refine (HRW.out _ (Hr.out.below HE.out)).mono ?_; rintro e wa ⟨A2, n2, c2, rfl, hl2, hc2, hm2, hr2, hb2⟩; go_simp
    obtain rfl : n2 = 32 := by rw [← hl2, HRL.out]
    have HE := Lib.hid (bt HE.out hb2)
    have HR2 := Lib.hid hr2
    have HZ2 := Lib.hid (Hbb.out.ext hb2)
    clear hl2 hc2 hm2 hr2 hb2
    have hSn := HE.out; refine hK _ _ hSn ?_; clear hK; clear K; simp only [setL]
    refine WH.only 4 _ rfl (by kernel_rfl) rfl (fun K hK => ?_)
    go_simp; refine (same_any _ 32 _ X HRL.out _ 32 _ (zeros 32) HzL.out (by unfold maxLen; omega) (by unfold maxLen; omega) _ HR2.out (RB.of_blk0 HZ2.out)).mono ?_; rintro e wc ⟨rfl, k4, rfl⟩; go_simp
    have HE := Lib.hid (bt HE.out (bdrew wa k4))
    have hSn := HE.out; refine hK _ _ hSn ?_; clear hK; clear K; simp only [setL]
    refine WH.tk 5 ?_; simp only [setL]
    refine WH.done (by kernel_rfl) ?_
    go_wp2_with fail
    go_ret
    rw [HF.out]
    exact ⟨rfl, HE.out⟩

end Go.Proofs.Ytdngfonbobcgjaa
