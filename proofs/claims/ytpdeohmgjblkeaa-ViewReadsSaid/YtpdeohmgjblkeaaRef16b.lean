/-
  Contracts of the document's answer 16: Get, Clean.
-/
import Derived.Test.YtpdeohmgjblkeaaRef16
namespace Go.Proofs.Ytpdeohmgjblkeaa
open Go.RowKit

theorem getN_32 (b : List UInt8) (hb : b.length = 32) (o W : Nat) (h1 : 1 ≤ W) (h4 : W ≤ 4) (hW : o + W ≤ 32) : getN b (o : Nat) (W : Nat) 4 = leV b o W := by
  have h := getN_pad b [] hb o W h1 h4 hW
  rwa [List.append_nil] at h

set_option maxHeartbeats 3200000 in
theorem rgetI_any (A : Option Addr) (cap : Nat) (b : List UInt8) (hb : b.length = 32) (w : World) (hr : RB w A b) :
    Calls Try.prog 78 #[.slice A 32 cap] w fun e w' => e = .returned (.agg (icells (getI b))) ∧ Below w.heap.size w w' := by
  have HbL := Lib.hid hb
  have Hr0 := Lib.hid hr
  have HN := Lib.hid (getN_32 b hb)
  have g0 : getN b 0 1 4 = leV b 0 1 := HN.out 0 1 (by omega) (by omega) (by omega)
  have g1 : getN b 2 2 4 = leV b 2 2 := HN.out 2 2 (by omega) (by omega) (by omega)
  have g2 : getN b 4 4 4 = leV b 4 4 := HN.out 4 4 (by omega) (by omega) (by omega)
  have g3 : getN b 8 2 4 = leV b 8 2 := HN.out 8 2 (by omega) (by omega) (by omega)
  have g4 : getN b 22 2 4 = leV b 22 2 := HN.out 22 2 (by omega) (by omega) (by omega)
  have G0 := Lib.hid g0
  have G1 := Lib.hid g1
  have G2 := Lib.hid g2
  have G3 := Lib.hid g3
  have G4 := Lib.hid g4
  clear g0 g1 g2 g3 g4 hr
  have HV := Lib.hid (show #[Value.int .i64 ((leV b 0 1 : Nat) : Int), .int .i64 ((leV b 2 2 : Nat) : Int), .int .i64 ((leV b 4 4 : Nat) : Int), .int .i64 ((leV b 8 2 : Nat) : Int), .int .i64 0, .int .i64 0, .int .i64 0, .int .i64 0, .int .i64 0, .int .i64 0, .int .i64 0] = icells (gotK b 0 0) from rfl)
  go_enter Try.func78, Try.ntmps78
  go_wp2_with (refine wpList_alloc_row rfl _ rfl _ Try.inoZero ?_)
  apply Stop.go; intro w1 Hg1 Hb1
  have Hr1 := Lib.hid (Hr0.out.below Hg1.out.1)
  go_wp2_with fail
  refine (nrat_any _ _ _ b HbL.out (by unfold maxLen; omega) _ _ _ Hr1.out).mono ?_; rintro e wx ⟨rfl, rfl⟩
  rw [G0.out]
  go_wp2_with fail
  refine (nrat_any _ _ _ b HbL.out (by unfold maxLen; omega) _ _ _ Hr1.out).mono ?_; rintro e wx ⟨rfl, rfl⟩
  rw [G1.out]
  go_wp2_with fail
  refine (nrat_any _ _ _ b HbL.out (by unfold maxLen; omega) _ _ _ Hr1.out).mono ?_; rintro e wx ⟨rfl, rfl⟩
  rw [G2.out]
  go_wp2_with fail
  refine (nrat_any _ _ _ b HbL.out (by unfold maxLen; omega) _ _ _ Hr1.out).mono ?_; rintro e wx ⟨rfl, rfl⟩
  rw [G3.out]
  go_wp2_with (refine wpList_alloc_row rfl _ rfl _ Try.inoZero ?_)
  apply Stop.go; intro w2 Hg2 Hb2
  go_wp2_with (refine wpList_store_arr rfl _ _ _ rfl _ (icells (gotK b 0 0)) rfl (congrArg Value.agg HV.out) _ _ Hb2.out Try.inoSize rfl (oneCell_icells _) ?_)
  apply Stop.go; intro w3 Ho3 Hb3
  have z1 := Lib.hid Hg1.out.2
  have E3 := Lib.hid (bonly (bt Hg1.out.1 Hg2.out.1) Ho3.out (by have := z1.out; omega))
  have HR3 := Lib.hid ((Hb1.out.ext Hg2.out.1).only Ho3.out (by have := z1.out; omega))
  have HNG := Lib.hid (show w.heap.size < w1.heap.size by have := z1.out; omega)
  generalize w1.heap.size = G at *
  clear Hg1 Hb1 Hg2 Hb2 Ho3 Hr1 G0 G1 G2 G3 HV z1
  go_wp2_with fail
  go_loopw [4] (fun i wr => ∃ k : Nat, k ≤ 6 ∧ i = .int .i64 k ∧ Hid (Blk wr G 43 (icells (gotK b k 0))) ∧ Hid (Blk wr w.heap.size 43 (icells freeI)) ∧ Hid (Below w.heap.size w wr)) (fun i _ => 6 - (intOf i).toNat)
  case atStart => exact ⟨0, Nat.zero_le _, rfl, Hb3, HR3, E3⟩
  case round =>
    obtain ⟨k, hk, rfl, HXk, HRk, Ek⟩ := hrel
    have Hrk := Lib.hid (Hr0.out.below Ek.out)
    by_cases hlt : k < 6
    · have hg := HN.out (10 + 2 * k) 2 (by omega) (by omega) (by omega)
      rw [show ((10 + 2 * k : Nat) : Int) = 10 + 2 * (k : Int) from by omega] at hg
      have hg' : getN b (10 + 2 * (k : Int)) 2 4 = leV b (10 + 2 * k) 2 := hg
      have HG := Lib.hid hg'
      have HS := Lib.hid (gotK_set b 0 k hlt)
      have d0 : decide ((k : Int) < 6) = true := by simp; omega
      have p0 : 0 ≤ (k : Int) := by omega
      have p1 : (k : Int) < 6 := by omega
      clear hg hg' HN
      go_wp2_with fail
      refine (nrat_any _ _ _ b HbL.out (by unfold maxLen; omega) _ _ _ Hrk.out).mono ?_; rintro e wx ⟨rfl, rfl⟩
      rw [HG.out]
      go_wp2_with (refine wpList_store_cell rfl _ _ _ rfl Try.numSize G (4 + k) rfl (.int .i64 ((leV b (10 + 2 * k) 2 : Nat) : Int)) rfl rfl rfl _ _ HXk.out (by rw [icells_size, gotK_len]; omega) ?_)
      apply Stop.go; intro wb Hob Hbb
      have hbb := Hbb.out
      rw [icells_set, HS.out] at hbb
      have HXn := Lib.hid hbb
      have HRn := Lib.hid (HRk.out.only Hob.out (by have := HNG.out; omega))
      have En := Lib.hid (bonly Ek.out Hob.out (by have := HNG.out; omega))
      clear hbb Hbb Hob HXk HRk Ek Hrk
      go_wp2_with fail
      go_roundw
      case rel => exact ⟨k + 1, by omega, by go_num, HXn, HRn, En⟩
      case measure => simp [intOf]; omega
    · obtain rfl : k = 6 := by omega
      have d0 : decide ((6 : Int) < 6) = false := by simp
      go_wp2_with fail
      refine (nrat_any _ _ _ b HbL.out (by unfold maxLen; omega) _ _ _ Hrk.out).mono ?_; rintro e wx ⟨rfl, rfl⟩
      rw [G4.out]
      go_wp2_with (refine wpList_store_cell rfl _ _ _ rfl Try.numSize G 10 rfl (.int .i64 ((leV b 22 2 : Nat) : Int)) rfl rfl rfl _ _ HXk.out (by rw [icells_size, gotK_len]; omega) ?_)
      apply Stop.go; intro wb Hob Hbb
      have hbb := Hbb.out
      rw [icells_set, gotK_last] at hbb
      have HXn := Lib.hid (show Blk wb G 43 (icells (getI b)) from hbb)
      have HRn := Lib.hid (HRk.out.only Hob.out (by have := HNG.out; omega))
      have En := Lib.hid (bonly Ek.out Hob.out (by have := HNG.out; omega))
      clear hbb Hbb Hob HXk HRk Ek Hrk
      go_wp2_with (first | refine wpList_load_blk rfl _ _ rfl _ rfl _ _ HXn.out _ Try.underlying43 rfl (Try.inoFits (getI_len b)) ?_ | refine wpList_store_arr rfl _ _ _ rfl _ _ rfl rfl _ _ HRn.out (Try.inoFits (getI_len b)) (by rw [icells_size, icells_size, getI_len]; rfl) (oneCell_icells _) ?_)
      apply Stop.go; intro wc Hoc Hbc
      go_wp2_with ((with_reducible show bodyPost _ _ _ _ _ _); refine bodyPost_struct rfl _ rfl _ _ Hbc.out _ Try.underlying43 rfl (Try.inoFits (getI_len b)) rfl ?_)
      apply Stop.go
      exact bonly En.out Hoc.out (Nat.le_refl _)

set_option maxHeartbeats 3200000 in
theorem rcleanI_any (A : Option Addr) (cap : Nat) (b : List UInt8) (hb : b.length = 32) (w : World) (hr : RB w A b) :
    Calls Try.prog 58 #[.slice A 32 cap] w fun e w' => e = .returned (.tuple #[.agg (icells (cleanV b)), .bool (cleanI b).isSome]) ∧ Below w.heap.size w w' := by
  have HbL := Lib.hid hb
  have Hr0 := Lib.hid hr
  obtain ⟨x, HX⟩ : ∃ x, Hid (getI b = x) := ⟨_, Lib.hid rfl⟩
  have HxL := Lib.hid (show x.length = 11 by rw [← HX.out]; rfl)
  have HC := cleanI_cases b
  rw [HX.out] at HC
  have HC := Lib.hid HC
  clear hr
  go_enter Try.func58, Try.ntmps58
  go_wp2_with (refine wpList_alloc_row rfl _ rfl _ Try.inoZero ?_)
  apply Stop.go; intro w1 Hg1 Hb1
  go_wp2_with fail
  refine (rgetI_any A cap b HbL.out _ (Hr0.out.below Hg1.out.1)).mono ?_; rintro e w2 ⟨rfl, hb2⟩
  rw [HX.out]
  have HR2 := Lib.hid (Hb1.out.ext hb2)
  have E2 := Lib.hid (bt Hg1.out.1 hb2)
  have z2 := Lib.hid (show w.heap.size < w2.heap.size by have := Hg1.out.2; have := hb2.size; omega)
  clear hb2 Hb1 Hg1
  go_wp2_with (refine wpList_alloc_row rfl _ rfl _ Try.inoZero ?_)
  apply Stop.go; intro w3 Hg3 Hb3
  go_wp2_with (refine wpList_store_arr rfl _ _ _ rfl _ _ rfl rfl _ _ Hb3.out (Try.inoFits HxL.out) (by rw [icells_size, icells_size, HxL.out]; rfl) (oneCell_icells _) ?_)
  apply Stop.go; intro w4 Ho4 Hb4
  have HR4 := Lib.hid ((HR2.out.ext Hg3.out.1).only Ho4.out (by have := z2.out; omega))
  have E4 := Lib.hid (bonly (bt E2.out Hg3.out.1) Ho4.out (by have := z2.out; omega))
  generalize w2.heap.size = g4 at *
  clear Hg3 Hb3 Ho4 HR2 E2 z2
  go_wp2_with (refine wpList_load_blk rfl _ _ rfl _ rfl _ _ Hb4.out _ Try.underlying43 rfl (Try.inoFits HxL.out) ?_)
  refine (rmayI_any x HxL.out _).mono ?_; rintro e w5 ⟨rfl, hb5⟩
  have HX5 := Lib.hid (Hb4.out.ext hb5)
  have HR5 := Lib.hid (HR4.out.ext hb5)
  have E5 := Lib.hid (bt E4.out hb5)
  obtain ⟨m, Hm⟩ : ∃ m, Hid (mayI x = m) := ⟨_, Lib.hid rfl⟩
  rw [Hm.out]
  clear hb5 Hb4 HR4 E4
  cases m
  · have H0 := Lib.hid (HC.out.1 Hm.out)
    go_wp2_with (first | refine wpList_store_arr rfl _ _ _ rfl _ (icells freeI) rfl rfl _ _ HR5.out Try.inoSize rfl (oneCell_icells _) ?_)
    apply Stop.go; intro wc Hoc Hbc
    go_wp2_with ((with_reducible show bodyPost _ _ _ _ _ _); refine bodyPost_struct_tmp rfl _ rfl _ _ Hbc.out _ Try.underlying43 rfl Try.inoSize rfl _ rfl ?_)
    apply Stop.go
    rw [cleanV, H0.out]
    exact ⟨⟨rfl, rfl⟩, bonly E5.out Hoc.out (Nat.le_refl _)⟩
  · go_wp2_with (refine wpList_load_blk rfl _ _ rfl _ rfl _ _ HX5.out _ Try.underlying43 rfl (Try.inoFits HxL.out) ?_)
    refine (rputI_any x HxL.out Hm.out _).mono ?_; rintro e w6 ⟨A6, n6, c6, rfl, hl6, hc6, hm6, hr6, hb6⟩
    have HX6 := Lib.hid (HX5.out.ext hb6)
    have HR6 := Lib.hid (HR5.out.ext hb6)
    have E6 := Lib.hid (bt E5.out hb6)
    obtain rfl : n6 = 32 := by rw [← hl6, putI_len HxL.out]
    have HL6 := Lib.hid hl6
    have HP6 := Lib.hid hr6
    have Hr6 := Lib.hid (Hr0.out.below E6.out)
    clear hb6 hl6 hc6 hm6 hr6 HX5 HR5 E5
    go_wp2_with fail
    refine (same_any _ _ _ (putI x) HL6.out _ _ _ b HbL.out (by unfold maxLen; omega) (by unfold maxLen; omega) _ HP6.out Hr6.out).mono ?_; rintro e w7 ⟨rfl, k7, rfl⟩
    have e7 := bdrew w6 k7
    obtain ⟨w7, hw7⟩ : ∃ y, w6.drewN k7 = y := ⟨_, rfl⟩
    rw [hw7] at e7 ⊢
    have HX7 := Lib.hid (HX6.out.ext e7)
    have HR7 := Lib.hid (HR6.out.ext e7)
    have E7 := Lib.hid (bt E6.out e7)
    obtain ⟨r, Hr⟩ : ∃ r, Hid ((putI x == b) = r) := ⟨_, Lib.hid rfl⟩
    have hdr : decide (putI x = b) = r := by rw [← Hr.out]; exact Bool.eq_iff_iff.2 (by simp)
    rw [hdr]
    clear e7 hw7 hdr HX6 HR6 E6 HL6 HP6 Hr6
    cases r
    · have H0 := Lib.hid (HC.out.2.1 Hm.out Hr.out)
      go_wp2_with (first | refine wpList_store_arr rfl _ _ _ rfl _ (icells freeI) rfl rfl _ _ HR7.out Try.inoSize rfl (oneCell_icells _) ?_)
      apply Stop.go; intro wc Hoc Hbc
      go_wp2_with ((with_reducible show bodyPost _ _ _ _ _ _); refine bodyPost_struct_tmp rfl _ rfl _ _ Hbc.out _ Try.underlying43 rfl Try.inoSize rfl _ rfl ?_)
      apply Stop.go
      rw [cleanV, H0.out]
      exact ⟨⟨rfl, rfl⟩, bonly E7.out Hoc.out (Nat.le_refl _)⟩
    · have H0 := Lib.hid (HC.out.2.2 Hm.out Hr.out)
      go_wp2_with (first | refine wpList_load_blk rfl _ _ rfl _ rfl _ _ HX7.out _ Try.underlying43 rfl (Try.inoFits HxL.out) ?_ | refine wpList_store_arr rfl _ _ _ rfl _ _ rfl rfl _ _ HR7.out (Try.inoFits HxL.out) (by rw [icells_size, icells_size, HxL.out]; rfl) (oneCell_icells _) ?_)
      apply Stop.go; intro wc Hoc Hbc
      go_wp2_with ((with_reducible show bodyPost _ _ _ _ _ _); refine bodyPost_struct_tmp rfl _ rfl _ _ Hbc.out _ Try.underlying43 rfl (Try.inoFits HxL.out) rfl _ rfl ?_)
      apply Stop.go
      rw [cleanV, H0.out]
      exact ⟨⟨rfl, rfl⟩, bonly E7.out Hoc.out (Nat.le_refl _)⟩

end Go.Proofs.Ytpdeohmgjblkeaa
