/-
  Contracts of the document's answers of layer 17: Raw, Get, With, Nought.
-/
import Derived.Test.YtpdeohmgjblkeaaTab1
import Derived.Test.YtpdeohmgjblkeaaRef16b
import Derived.Test.YtpdeohmgjblkeaaAppB
namespace Go.Proofs.Ytpdeohmgjblkeaa
open Go.RowKit

set_option maxHeartbeats 800000 in
theorem rraw17_any (A : Option Addr) (cap : Nat) (b : List UInt8) (hb : b.length = 256) (q : Nat) (hq : q < 8) (w : World) (hr : RB w A b) :
    Calls Try.prog 59 #[.slice A 256 cap, .int .i64 q] w (RetB w (rawT b (q : Int))) := by
  have HC := Lib.hid (show rcutL b (32 * (q : Int)) 32 = rawT b (q : Int) by
    unfold rcutL
    rw [decide_eq_true (by omega), rawT_nat b hq, show (32 * (q : Int)).toNat = 32 * q from by omega]
    rfl)
  have d0 : decide ((q : Int) < 0) = false := decide_eq_false (by omega)
  have d1 : decide (7 < (q : Int)) = false := by simp; omega
  have d2 : decide (7 < q) = false := by simp; omega
  have hw : IntKind.i64.wrap (32 * (q : Int)) = 32 * (q : Int) := IntWalk.i64_in _ (by omega)
  go_enter Try.func59, Try.ntmps59
  go_wp2_with fail
  refine (rcut_any A 256 cap b hb (by omega) (32 * (q : Int)) 32 _ hr).mono ?_; rintro e w2 ⟨A2, n2, c2, rfl, hl2, hc2, hm2, hr2, hb2⟩
  rw [HC.out] at hl2 hr2
  have HL2 := Lib.hid hl2
  have HR2 := Lib.hid hr2
  clear hl2 hr2
  go_wp2_with fail
  go_ret
  exact ⟨A2, n2, c2, rfl, HL2.out, hc2, hm2, HR2.out, hb2⟩

set_option maxHeartbeats 1600000 in
theorem rget17_any (A : Option Addr) (cap : Nat) (b : List UInt8) (hb : b.length = 256) (k : Int) (w : World) (hr : RB w A b) :
    Calls Try.prog 36 #[.slice A 256 cap, .int .i64 k] w fun e w' => e = .returned (.tuple #[.agg (icells (getTV b k)), .bool (getT b k).isSome]) ∧ Below w.heap.size w w' := by
  have HbL := Lib.hid hb
  have HRL := Lib.hid (rawT_len hb k)
  have Hr := Lib.hid hr
  clear hb hr
  cases hp : placeB k
  · have H0 := Lib.hid (show getTV b k = freeI ∧ getT b k = none by unfold getTV; rw [getT_no b hp]; exact ⟨rfl, rfl⟩)
    rcases placeB_false hp with h | h
    focus (
      have d0 : decide (k < 0) = true := by simpa using h)
    rotate_left
    focus (
      have d0 : decide (k < 0) = false := by simp; omega
      have d1 : decide (7 < k) = true := by simp; omega)
    rotate_left
    all_goals
      clear hp h
      go_enter Try.func36, Try.ntmps36
      go_wp2_with (refine wpList_alloc_row rfl _ rfl _ Try.inoZero ?_)
      apply Stop.go; intro w1 Hg1 Hb1
      go_wp2_with (first | refine wpList_store_arr rfl _ _ _ rfl _ (icells freeI) rfl rfl _ _ Hb1.out Try.inoSize rfl (oneCell_icells _) ?_)
      apply Stop.go; intro wc Hoc Hbc
      go_wp2_with ((with_reducible show bodyPost _ _ _ _ _ _); refine bodyPost_struct_tmp rfl _ rfl _ _ Hbc.out _ Try.underlying43 rfl Try.inoSize rfl _ rfl ?_)
      apply Stop.go
      rw [H0.out.1]
      exact ⟨⟨rfl, H0.out.2⟩, bonly Hg1.out.1 Hoc.out (Nat.le_refl _)⟩
  · have H0 := Lib.hid (show getTV b k = cleanV (rawT b k) ∧ (getT b k).isSome = (cleanI (rawT b k)).isSome by unfold getTV cleanV getT; rw [hp]; exact ⟨rfl, rfl⟩)
    obtain ⟨q, hq, rfl⟩ := placeB_true hp
    have d0 : decide ((q : Int) < 0) = false := decide_eq_false (by omega)
    have d1 : decide (7 < (q : Int)) = false := by simp; omega
    have d2 : decide (7 < q) = false := by simp; omega
    clear hp
    go_enter Try.func36, Try.ntmps36
    go_wp2_with (refine wpList_alloc_row rfl _ rfl _ Try.inoZero ?_)
    apply Stop.go; intro w1 Hg1 Hb1
    go_wp2_with fail
    refine (rraw17_any A cap b HbL.out q hq _ (Hr.out.below Hg1.out.1)).mono ?_; rintro e w2 ⟨A2, n2, c2, rfl, hl2, hc2, hm2, hr2, hb2⟩
    obtain rfl : n2 = 32 := by rw [← hl2, HRL.out]
    have HR2 := Lib.hid hr2
    have HI2 := Lib.hid (Hb1.out.ext hb2)
    have E2 := Lib.hid (bt Hg1.out.1 hb2)
    clear hl2 hc2 hm2 hr2 hb2 Hb1 Hg1
    go_wp2_with fail
    refine (rcleanI_any A2 c2 (rawT b (q : Int)) HRL.out _ HR2.out).mono ?_; rintro e w3 ⟨rfl, hb3⟩
    have HI3 := Lib.hid (HI2.out.ext hb3)
    have E3 := Lib.hid (bt E2.out hb3)
    have HVL := Lib.hid (cleanV_len (rawT b (q : Int)))
    clear hb3 HR2 HI2 E2
    go_wp2_with (first | refine wpList_store_arr rfl _ _ _ rfl _ _ rfl rfl _ _ HI3.out (Try.inoFits HVL.out) (by rw [icells_size, icells_size, HVL.out]; rfl) (oneCell_icells _) ?_)
    apply Stop.go; intro wc Hoc Hbc
    go_wp2_with ((with_reducible show bodyPost _ _ _ _ _ _); refine bodyPost_struct_tmp rfl _ rfl _ _ Hbc.out _ Try.underlying43 rfl (Try.inoFits HVL.out) rfl _ rfl ?_)
    apply Stop.go
    rw [H0.out.1, H0.out.2]
    exact ⟨⟨rfl, rfl⟩, bonly E3.out Hoc.out (Nat.le_refl _)⟩



end Go.Proofs.Ytpdeohmgjblkeaa
