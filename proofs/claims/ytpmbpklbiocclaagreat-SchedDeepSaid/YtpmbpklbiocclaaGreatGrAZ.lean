/-
  Texts of this claim joined: Real2, Real3, RealE.
-/
import Derived.Test.YtpmbpklbiocclaaGreatGrAX
import Derived.Test.YtpmbpklbiocclaaGreatGrBE

/-
  Contracts of cmp.Compare and of package real's Order, Clamp, Bits, From, Ratio.
-/
namespace Go.Proofs.YtpmbpklbiocclaaGreat
open Go.RowKit

theorem isNaNIr_any (x : Int) (w : World) : Calls Tryz.prog 125 #[.int .i64 x] w fun e w' => e = .returned (.bool false) ∧ w' = w := by
  have e1 : (x != x) = false := by simp
  go_enter Tryz.func125, Tryz.ntmps125
  go_wp2_with fail
  go_ret
  exact ⟨by first | rfl | rw [e1], rfl⟩
theorem isNaNF_any (x : Nat) (hx : x < 18446744073709551616) (w : World) :
    Calls Tryz.prog 129 #[.float .f64 x] w fun e w' => e = .returned (.bool (nanB x)) ∧ w' = w := by
  have e1 := f_ne hx hx
  rw [eqF_self, Bool.not_not] at e1
  go_enter Tryz.func129, Tryz.ntmps129
  go_wp2_with fail
  go_ret
  exact ⟨rfl, rfl⟩
theorem cmpIntR_any (x y : Int) (w : World) : Calls Tryz.prog 93 #[.int .i64 x, .int .i64 y] w fun e w' => e = .returned (.int .i64 (cmpI x y)) ∧ w' = w := by
  unfold cmpI
  by_cases h1 : x < y
  · rw [if_pos h1]
    have d1 : decide (x < y) = true := by simpa using h1
    clear h1
    go_enter Tryz.func93, Tryz.ntmps93
    go_wp2_with (go_at_call 125; refine (isNaNIr_any _ _).mono ?_; rintro _ _ ⟨rfl, rfl⟩)
    go_ret
    exact ⟨rfl, rfl⟩
  · rw [if_neg h1]
    have d1 : decide (x < y) = false := by simpa using h1
    clear h1
    by_cases h2 : y < x
    · rw [if_pos h2]
      have d2 : decide (y < x) = true := by simpa using h2
      clear h2
      go_enter Tryz.func93, Tryz.ntmps93
      go_wp2_with (go_at_call 125; refine (isNaNIr_any _ _).mono ?_; rintro _ _ ⟨rfl, rfl⟩)
      go_ret
      exact ⟨rfl, rfl⟩
    · rw [if_neg h2]
      have d2 : decide (y < x) = false := by simpa using h2
      clear h2
      go_enter Tryz.func93, Tryz.ntmps93
      go_wp2_with (go_at_call 125; refine (isNaNIr_any _ _).mono ?_; rintro _ _ ⟨rfl, rfl⟩)
      go_ret
      exact ⟨rfl, rfl⟩
set_option maxHeartbeats 1600000 in
theorem cmpF_any (x y : Nat) (hx : x < 18446744073709551616) (hy : y < 18446744073709551616) (w : World) : Calls Tryz.prog 95 #[.float .f64 x, .float .f64 y] w fun e w' => e = .returned (.int .i64 (cmpF x y)) ∧ w' = w := by
  have e1 := f_lt hx hy
  have e2 := f_gt hx hy
  unfold cmpF
  cases n1 : nanB x <;> cases n2 : nanB y
  · cases l1 : ltF x y
    · rw [l1] at e1
      cases l2 : ltF y x
      · rw [l2] at e2
        go_enter Tryz.func95, Tryz.ntmps95; go_wp2_with (go_at_call 129; refine (isNaNF_any _ (by assumption) _).mono ?_; rintro _ _ ⟨rfl, rfl⟩); go_ret; exact ⟨rfl, rfl⟩
      · rw [l2] at e2
        go_enter Tryz.func95, Tryz.ntmps95; go_wp2_with (go_at_call 129; refine (isNaNF_any _ (by assumption) _).mono ?_; rintro _ _ ⟨rfl, rfl⟩); go_ret; exact ⟨rfl, rfl⟩
    · rw [l1] at e1
      clear e2
      go_enter Tryz.func95, Tryz.ntmps95; go_wp2_with (go_at_call 129; refine (isNaNF_any _ (by assumption) _).mono ?_; rintro _ _ ⟨rfl, rfl⟩); go_ret; exact ⟨rfl, rfl⟩
  all_goals
    clear e1 e2
    go_enter Tryz.func95, Tryz.ntmps95; go_wp2_with (go_at_call 129; refine (isNaNF_any _ (by assumption) _).mono ?_; rintro _ _ ⟨rfl, rfl⟩); go_ret; exact ⟨rfl, rfl⟩

set_option maxHeartbeats 1600000 in
theorem order_any (x y : Nat) (hx : x < 18446744073709551616) (hy : y < 18446744073709551616) (w : World) :
    Calls Tryz.prog 63 #[.float .f64 x, .float .f64 y] w fun e w' => e = .returned (.int .i64 (ordN x y)) ∧ w' = w := by
  by_cases h : cmpI (kindN x) (kindN y) = 0
  · have hv := Lib.hid (ord_value x y hx hy h)
    obtain ⟨c, hc⟩ : ∃ c, cmpI (kindN x) (kindN y) = c := ⟨_, rfl⟩
    rw [hc] at h
    subst h
    have d1 : ((0 : Int) != 0) = false := by simp
    go_enter Tryz.func63, Tryz.ntmps63
    go_wp2_with (first | (go_at_call 94; refine (kind_any _ (by assumption) _).mono ?_; rintro _ _ ⟨rfl, rfl⟩) | (go_at_call 93; refine (cmpIntR_any _ _ _).mono ?_; rintro _ _ ⟨rfl, rfl⟩; rw [hc]) | (go_at_call 95; refine (cmpF_any x y hx hy _).mono ?_; rintro _ _ ⟨rfl, rfl⟩))
    go_ret
    exact ⟨by rw [← hv.out]; rfl, rfl⟩
  · have hv := Lib.hid (ord_kind x y hx hy h)
    obtain ⟨c, hc⟩ : ∃ c, cmpI (kindN x) (kindN y) = c := ⟨_, rfl⟩
    have d1 : (c != 0) = true := by rw [← hc]; simpa using h
    clear h
    go_enter Tryz.func63, Tryz.ntmps63
    go_wp2_with (first | (go_at_call 94; refine (kind_any _ (by assumption) _).mono ?_; rintro _ _ ⟨rfl, rfl⟩) | (go_at_call 93; refine (cmpIntR_any _ _ _).mono ?_; rintro _ _ ⟨rfl, rfl⟩; rw [hc]))
    go_ret
    exact ⟨by rw [← hv.out, hc]; rfl, rfl⟩

end Go.Proofs.YtpmbpklbiocclaaGreat

/-
  Contracts of package real's Clamp, Bits, From, Ratio, and of the document's Nought, Kind, Order, Same, Clamp.
-/
namespace Go.Proofs.YtpmbpklbiocclaaGreat
open Go.RowKit

def Dr (w w' : World) : Prop := ∃ k, w' = w.drewN k
theorem Dr.refl (w : World) : Dr w w := ⟨0, rfl⟩
theorem Dr.trans {a b c : World} (h : Dr a b) (k : Dr b c) : Dr a c := by
  obtain ⟨m, rfl⟩ := h
  obtain ⟨n, rfl⟩ := k
  exact ⟨m + n, by rw [World.drewN_drewN]⟩
theorem Dr.below {a b : World} (h : Dr a b) : Below a.heap.size a b := by
  obtain ⟨m, rfl⟩ := h
  exact bdrew a m

theorem fromR_any (x : Nat) (w : World) : Calls Tryz.prog 31 #[.int .u64 x] w fun e w' => e = .returned (.float .f64 x) ∧ w' = w := by
  have e1 := Tryz.callFrom x
  go_enter Tryz.func31, Tryz.ntmps31
  go_wp2_with fail
  go_ret
  exact ⟨rfl, rfl⟩





end Go.Proofs.YtpmbpklbiocclaaGreat

/-
  Words of exact numbers halved, made of a whole number, with the highest digit more; the word of its parts. Plain arithmetic; no program is named here.
-/
namespace Go.Proofs.YtpmbpklbiocclaaGreat
open Ieee





end Go.Proofs.YtpmbpklbiocclaaGreat
