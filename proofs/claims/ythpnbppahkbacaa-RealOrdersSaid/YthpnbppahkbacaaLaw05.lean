/-
  Walks of the laws of stage 5.
-/
import Derived.Test.YthpnbppahkbacaaReal4
import Derived.Test.YthpnbppahkbacaaReal5
import Derived.Test.YthpnbppahkbacaaCell
namespace Go.Proofs.Ythpnbppahkbacaa
open Go.RowKit

theorem ratio00 : ratioW 0 0 = 9221120237041090560 := by unfold ratioW; rw [nought_by_nought]
theorem ratio30 : ratioW (-3) 0 = 18442240474082181120 := by unfold ratioW; rw [minus_three_by_nought]
theorem works05_top : Top [9221120237041090560, 13830554455654793216, 9223372036854775808] 2 := by
  refine Or.inr ⟨by decide, ⟨fun j hj => ?_, fun j hj => ?_⟩⟩
  · match j, hj with
    | 0, _ => decide +kernel
    | 1, _ => decide +kernel
    | 2, _ => decide +kernel
  · match j, hj with
    | 0, _ => decide +kernel
    | 1, _ => decide +kernel
set_option maxHeartbeats 2000000 in
theorem works05_any (w : World) : Calls Try.prog 15 #[] w fun e w' => e = .returned (.bool true) ∧ Below w.heap.size w w' := by
  have h00 := fun w => ratio_any 0 0 w
  have h30 := fun w => ratio_any (-3) 0 w
  rw [ratio00] at h00
  rw [ratio30] at h30
  have o1 : ordN 9223372036854775808 0 = -1 := by decide +kernel
  have o2 : kindN 9221120237041090560 = 0 := by decide +kernel
  have o3 : kindN 18442240474082181120 = 1 := by decide +kernel
  go_enter Try.func15, Try.ntmps15
  go_wp2_with fail
  refine (from_any _ _).mono ?_; rintro e w' ⟨rfl, rfl⟩
  go_wp2_with fail
  refine (h00 _).mono ?_; rintro e w1 ⟨rfl, k1, rfl⟩
  have Ha := Lib.hid (Grew.alloc (w'.drewN k1) (.cells #[.float .f64 9221120237041090560, .float .f64 13830554455654793216, .float .f64 9223372036854775808] 22)).1
  have HR := Lib.hid (RC.of_blk (Blk.new (w'.drewN k1) 22 #[.float .f64 9221120237041090560, .float .f64 13830554455654793216, .float .f64 9223372036854775808]) (fvals [9221120237041090560, 13830554455654793216, 9223372036854775808]) rfl)
  go_wp2_with fail
  refine (greatest_any _ 3 3 [9221120237041090560, 13830554455654793216, 9223372036854775808] rfl (by decide) (by decide) _ HR.out).mono ?_; rintro e w2 ⟨a, ha, rfl, k2, rfl⟩
  obtain rfl : a = 2 := ha.uniq works05_top
  have Hw2 := Lib.hid (bt (bt (bdrew w' k1) Ha.out) (bdrew _ k2))
  clear ha Ha HR
  generalize World.drewN _ k2 = w3 at *
  go_wp2_with fail
  refine (order_any 9223372036854775808 0 (by decide) (by decide) _).mono ?_; rintro e w' ⟨rfl, rfl⟩
  rw [o1]
  go_wp2_with fail
  refine (h00 _).mono ?_; rintro e w4 ⟨rfl, k4, rfl⟩
  go_wp2_with fail
  refine (kind_any 9221120237041090560 (by decide) _).mono ?_; rintro e w' ⟨rfl, rfl⟩
  rw [o2]
  go_wp2_with fail
  refine (h30 _).mono ?_; rintro e w5 ⟨rfl, k5, rfl⟩
  go_wp2_with fail
  refine (kind_any 18442240474082181120 (by decide) _).mono ?_; rintro e w' ⟨rfl, rfl⟩
  rw [o3]
  go_wp2_with fail
  go_ret
  exact ⟨rfl, bt Hw2.out (bdrew _ _)⟩

/-! ### The laws -/
theorem ordN_self (x : Nat) : ordN x x = 0 := by unfold ordN; rw [cmpI_zero]
set_option maxHeartbeats 2000000 in
theorem realOrders_any (x y z : Nat) (hx : x < 18446744073709551616) (hy : y < 18446744073709551616) (hz : z < 18446744073709551616) (w : World) :
    Calls Try.prog 3 #[.float .f64 x, .float .f64 y, .float .f64 z] w fun e w' => e = .returned (.bool true) ∧ Below w.heap.size w w' := by
  have hK := fun w => kind_any x hx w
  have hO := fun w => order_any x y hx hy w
  have hC := fun w => clamp_any x y z hx hy hz w
  have rK := fun w => rkind_any x hx w
  have rO := fun w => rorder_any x y hx hy w
  have rC := fun w => rclamp_any x y z hx hy hz w
  have hcl := clampW_lt hx hy hz
  generalize kindN x = k at *
  generalize ordN x y = o at *
  generalize clampW x y z = c at *
  have rS := fun w => rsame_any c c hcl hcl w
  rw [ordN_self] at rS
  have b1 : (k == k) = true := by simp
  have b2 : (o == o) = true := by simp
  have b3 : ((0 : Int) == 0) = true := by decide
  go_enter Try.func3, Try.ntmps3
  go_wp2_with fail
  refine (hK _).mono ?_; rintro e w' ⟨rfl, rfl⟩
  go_wp2_with fail
  refine (rK _).mono ?_; rintro e w1 ⟨rfl, k1, rfl⟩
  go_wp2_with fail
  refine (hO _).mono ?_; rintro e w2 ⟨rfl, h2⟩
  subst h2
  go_wp2_with fail
  refine (rO _).mono ?_; rintro e w3 ⟨rfl, k3, rfl⟩
  go_wp2_with fail
  refine (hC _).mono ?_; rintro e w4 ⟨rfl, h4⟩
  subst h4
  go_wp2_with fail
  refine (rC _).mono ?_; rintro e w5 ⟨rfl, k5, rfl⟩
  go_wp2_with fail
  refine (rS _).mono ?_; rintro e w6 ⟨rfl, k6, rfl⟩
  go_wp2_with fail
  refine (works05_any _).mono ?_; rintro e w7 ⟨rfl, h7⟩
  go_wp2_with fail
  go_ret
  exact ⟨rfl, bt (bdrew _ _) h7⟩

theorem cmpI_swap (a b : Int) : (cmpI a b = -1 ∧ cmpI b a = 1 ∧ a < b) ∨ (cmpI a b = 0 ∧ cmpI b a = 0 ∧ a = b) ∨ (cmpI a b = 1 ∧ cmpI b a = -1 ∧ b < a) := by
  unfold cmpI
  rcases Int.lt_trichotomy a b with h | h | h
  · left; refine ⟨?_, ?_, h⟩ <;> (repeat' split) <;> omega
  · right; left; refine ⟨?_, ?_, h⟩ <;> (repeat' split) <;> omega
  · right; right; refine ⟨?_, ?_, h⟩ <;> (repeat' split) <;> omega
theorem cmpI_le (a b : Int) : cmpI a b ≤ 0 ↔ a ≤ b := by unfold cmpI; (repeat' split) <;> omega
set_option maxHeartbeats 4000000 in
theorem realTotal_any (x y z : Nat) (hx : x < 18446744073709551616) (hy : y < 18446744073709551616) (hz : z < 18446744073709551616) (w : World) :
    Calls Try.prog 6 #[.float .f64 x, .float .f64 y, .float .f64 z] w fun e w' => e = .returned (.bool true) ∧ Below w.heap.size w w' := by
  have hxy := fun w => order_any x y hx hy w
  have hyx := fun w => order_any y x hy hx w
  have hxx := fun w => order_any x x hx hx w
  have hyz := fun w => order_any y z hy hz w
  have hxz := fun w => order_any x z hx hz w
  have hbx := fun w => bits_any x hx w
  have hby := fun w => bits_any y hy w
  rw [ordN_self] at hxx
  have hT : ordN x y ≤ 0 → ordN y z ≤ 0 → ¬ 0 < ordN x z := by
    unfold ordN
    intro h1 h2
    have := (cmpI_le _ _).1 h1
    have := (cmpI_le _ _).1 h2
    have := (cmpI_le (keyN x) (keyN z)).2 (by omega)
    omega
  have hE := key_eq hx hy
  have hS : (ordN x y = -1 ∧ ordN y x = 1 ∧ keyN x ≠ keyN y) ∨ (ordN x y = 0 ∧ ordN y x = 0 ∧ keyN x = keyN y) ∨ (ordN x y = 1 ∧ ordN y x = -1 ∧ keyN x ≠ keyN y) := by
    unfold ordN
    rcases cmpI_swap (keyN x) (keyN y) with ⟨h1, h2, h3⟩ | ⟨h1, h2, h3⟩ | ⟨h1, h2, h3⟩
    · exact Or.inl ⟨h1, h2, by omega⟩
    · exact Or.inr (Or.inl ⟨h1, h2, h3⟩)
    · exact Or.inr (Or.inr ⟨h1, h2, by omega⟩)
  generalize ordN x y = o1 at *
  generalize ordN y x = o2 at *
  generalize ordN y z = o3 at *
  generalize ordN x z = o4 at *
  generalize canonW x = cx at *
  generalize canonW y = cy at *
  have hw := fun w => works05_any w
  rcases hS with ⟨rfl, rfl, h3⟩ | ⟨rfl, rfl, h3⟩ | ⟨rfl, rfl, h3⟩
  · have c1 : ((cx : Int) == (cy : Int)) = false := by simp; intro h; exact h3 (hE.2 (by omega))
    clear h3 hE
    by_cases g3 : o3 ≤ 0
    · have d3 : decide (o3 ≤ 0) = true := by simpa using g3
      have d4 : decide (0 < o4) = false := by simpa using hT (by decide) g3
      clear g3 hT
      go_enter Try.func6, Try.ntmps6
      go_wp2_with fail
      refine (hxy _).mono ?_; rintro e w1 ⟨rfl, h1⟩; subst h1; go_wp2_with fail
      refine (hyx _).mono ?_; rintro e w1 ⟨rfl, h1⟩; subst h1; go_wp2_with fail
      refine (hxx _).mono ?_; rintro e w1 ⟨rfl, h1⟩; subst h1; go_wp2_with fail
      refine (hxy _).mono ?_; rintro e w1 ⟨rfl, h1⟩; subst h1; go_wp2_with fail
      refine (hyz _).mono ?_; rintro e w1 ⟨rfl, h1⟩; subst h1; go_wp2_with fail
      refine (hxz _).mono ?_; rintro e w1 ⟨rfl, h1⟩; subst h1; go_wp2_with fail
      refine (hxy _).mono ?_; rintro e w1 ⟨rfl, h1⟩; subst h1; go_wp2_with fail
      refine (hbx _).mono ?_; rintro e w1 ⟨rfl, h1⟩; subst h1; go_wp2_with fail
      refine (hby _).mono ?_; rintro e w1 ⟨rfl, h1⟩; subst h1; go_wp2_with fail
      refine (works05_any _).mono ?_; rintro e w7 ⟨rfl, h7⟩
      go_wp2_with fail
      go_ret
      exact ⟨rfl, h7⟩
    · have d3 : decide (o3 ≤ 0) = false := by simpa using g3
      clear g3 hT
      go_enter Try.func6, Try.ntmps6
      go_wp2_with fail
      refine (hxy _).mono ?_; rintro e w1 ⟨rfl, h1⟩; subst h1; go_wp2_with fail
      refine (hyx _).mono ?_; rintro e w1 ⟨rfl, h1⟩; subst h1; go_wp2_with fail
      refine (hxx _).mono ?_; rintro e w1 ⟨rfl, h1⟩; subst h1; go_wp2_with fail
      refine (hxy _).mono ?_; rintro e w1 ⟨rfl, h1⟩; subst h1; go_wp2_with fail
      refine (hyz _).mono ?_; rintro e w1 ⟨rfl, h1⟩; subst h1; go_wp2_with fail
      refine (hxy _).mono ?_; rintro e w1 ⟨rfl, h1⟩; subst h1; go_wp2_with fail
      refine (hbx _).mono ?_; rintro e w1 ⟨rfl, h1⟩; subst h1; go_wp2_with fail
      refine (hby _).mono ?_; rintro e w1 ⟨rfl, h1⟩; subst h1; go_wp2_with fail
      refine (works05_any _).mono ?_; rintro e w7 ⟨rfl, h7⟩
      go_wp2_with fail
      go_ret
      exact ⟨rfl, h7⟩
  · have c1 : ((cx : Int) == (cy : Int)) = true := by simp; have := hE.1 h3; omega
    clear h3 hE
    by_cases g3 : o3 ≤ 0
    · have d3 : decide (o3 ≤ 0) = true := by simpa using g3
      have d4 : decide (0 < o4) = false := by simpa using hT (by decide) g3
      clear g3 hT
      go_enter Try.func6, Try.ntmps6
      go_wp2_with fail
      refine (hxy _).mono ?_; rintro e w1 ⟨rfl, h1⟩; subst h1; go_wp2_with fail
      refine (hyx _).mono ?_; rintro e w1 ⟨rfl, h1⟩; subst h1; go_wp2_with fail
      refine (hxx _).mono ?_; rintro e w1 ⟨rfl, h1⟩; subst h1; go_wp2_with fail
      refine (hxy _).mono ?_; rintro e w1 ⟨rfl, h1⟩; subst h1; go_wp2_with fail
      refine (hyz _).mono ?_; rintro e w1 ⟨rfl, h1⟩; subst h1; go_wp2_with fail
      refine (hxz _).mono ?_; rintro e w1 ⟨rfl, h1⟩; subst h1; go_wp2_with fail
      refine (hxy _).mono ?_; rintro e w1 ⟨rfl, h1⟩; subst h1; go_wp2_with fail
      refine (hbx _).mono ?_; rintro e w1 ⟨rfl, h1⟩; subst h1; go_wp2_with fail
      refine (hby _).mono ?_; rintro e w1 ⟨rfl, h1⟩; subst h1; go_wp2_with fail
      refine (works05_any _).mono ?_; rintro e w7 ⟨rfl, h7⟩
      go_wp2_with fail
      go_ret
      exact ⟨rfl, h7⟩
    · have d3 : decide (o3 ≤ 0) = false := by simpa using g3
      clear g3 hT
      go_enter Try.func6, Try.ntmps6
      go_wp2_with fail
      refine (hxy _).mono ?_; rintro e w1 ⟨rfl, h1⟩; subst h1; go_wp2_with fail
      refine (hyx _).mono ?_; rintro e w1 ⟨rfl, h1⟩; subst h1; go_wp2_with fail
      refine (hxx _).mono ?_; rintro e w1 ⟨rfl, h1⟩; subst h1; go_wp2_with fail
      refine (hxy _).mono ?_; rintro e w1 ⟨rfl, h1⟩; subst h1; go_wp2_with fail
      refine (hyz _).mono ?_; rintro e w1 ⟨rfl, h1⟩; subst h1; go_wp2_with fail
      refine (hxy _).mono ?_; rintro e w1 ⟨rfl, h1⟩; subst h1; go_wp2_with fail
      refine (hbx _).mono ?_; rintro e w1 ⟨rfl, h1⟩; subst h1; go_wp2_with fail
      refine (hby _).mono ?_; rintro e w1 ⟨rfl, h1⟩; subst h1; go_wp2_with fail
      refine (works05_any _).mono ?_; rintro e w7 ⟨rfl, h7⟩
      go_wp2_with fail
      go_ret
      exact ⟨rfl, h7⟩
  · have c1 : ((cx : Int) == (cy : Int)) = false := by simp; intro h; exact h3 (hE.2 (by omega))
    clear h3 hE hT hyz hxz
    go_enter Try.func6, Try.ntmps6
    go_wp2_with fail
    refine (hxy _).mono ?_; rintro e w1 ⟨rfl, h1⟩; subst h1; go_wp2_with fail
    refine (hyx _).mono ?_; rintro e w1 ⟨rfl, h1⟩; subst h1; go_wp2_with fail
    refine (hxx _).mono ?_; rintro e w1 ⟨rfl, h1⟩; subst h1; go_wp2_with fail
    refine (hxy _).mono ?_; rintro e w1 ⟨rfl, h1⟩; subst h1; go_wp2_with fail
    refine (hxy _).mono ?_; rintro e w1 ⟨rfl, h1⟩; subst h1; go_wp2_with fail
    refine (hbx _).mono ?_; rintro e w1 ⟨rfl, h1⟩; subst h1; go_wp2_with fail
    refine (hby _).mono ?_; rintro e w1 ⟨rfl, h1⟩; subst h1; go_wp2_with fail
    refine (works05_any _).mono ?_; rintro e w7 ⟨rfl, h7⟩
    go_wp2_with fail
    go_ret
    exact ⟨rfl, h7⟩

theorem kind_neg (x : Nat) (hx : x < 18446744073709551616) : (kindN x = 0 ∧ kindN (negW x) = 0) ∨ (kindN x = 1 ∧ kindN (negW x) = 6) ∨ (kindN x = 2 ∧ kindN (negW x) = 5) ∨ (kindN x = 3 ∧ kindN (negW x) = 4) ∨
    (kindN x = 4 ∧ kindN (negW x) = 3) ∨ (kindN x = 5 ∧ kindN (negW x) = 2) ∨ (kindN x = 6 ∧ kindN (negW x) = 1) := by
  have hn : nanB (negW x) = nanB x := by
    unfold nanB negW
    congr 2
    split <;> omega
  have ha := kind_cases x hx
  have hb := kind_cases (negW x) (negW_lt hx)
  rw [hn] at hb
  have hv : (x < 9223372036854775808 ∧ negW x = x + 9223372036854775808) ∨ (9223372036854775808 ≤ x ∧ negW x = x - 9223372036854775808) := by
    unfold negW
    split <;> omega
  generalize negW x = y at *
  generalize nanB x = bb at *
  cases bb
  · simp only [Bool.false_eq_true, false_and, true_and, false_or] at ha hb
    generalize kindN x = k at *
    generalize kindN y = l at *
    omega
  · simp only [Bool.true_eq_false, false_and, true_and, or_false] at ha hb
    exact Or.inl ⟨ha, hb⟩
set_option maxHeartbeats 4000000 in
theorem realBack_any (x : Nat) (hx : x < 18446744073709551616) (w : World) :
    Calls Try.prog 7 #[.float .f64 x] w fun e w' => e = .returned (.bool true) ∧ Below w.heap.size w w' := by
  have hK := fun w => kind_any x hx w
  have hL := fun w => kind_any (negW x) (negW_lt hx) w
  have hB := fun w => bits_any x hx w
  have hF := fun w => from_any (canonW x) w
  have hO := fun w => order_any (canonW x) x (canonW_lt hx) hx w
  have e0 : ordN (canonW x) x = 0 := by unfold ordN; rw [key_canon, cmpI_zero]
  rw [e0] at hO
  have en : Op.unary .neg (.float .f64 x) = pure (Value.float .f64 (negW x)) := by
    show pure (Value.float .f64 (Op.negFloat .f64 x)) = _
    rw [negF x hx]
  have hN := kind_neg x hx
  generalize negW x = y at *
  generalize canonW x = c at *
  generalize kindN x = k at *
  generalize kindN y = l at *
  rcases hN with ⟨rfl, rfl⟩ | ⟨rfl, rfl⟩ | ⟨rfl, rfl⟩ | ⟨rfl, rfl⟩ | ⟨rfl, rfl⟩ | ⟨rfl, rfl⟩ | ⟨rfl, rfl⟩
  all_goals
    go_enter Try.func7, Try.ntmps7
    go_wp2_with fail
    refine (hK _).mono ?_; rintro e w1 ⟨rfl, h1⟩; subst h1; go_wp2_with fail
    refine (hL _).mono ?_; rintro e w1 ⟨rfl, h1⟩; subst h1; go_wp2_with fail
    refine (hB _).mono ?_; rintro e w1 ⟨rfl, h1⟩; subst h1; go_wp2_with fail
    refine (hF _).mono ?_; rintro e w1 ⟨rfl, h1⟩; subst h1; go_wp2_with fail
    refine (hO _).mono ?_; rintro e w1 ⟨rfl, h1⟩; subst h1; go_wp2_with fail
    refine (works05_any _).mono ?_; rintro e w7 ⟨rfl, h7⟩
    go_wp2_with fail
    go_ret
    exact ⟨rfl, h7⟩

/-- The quotient of two whole numbers, as it is drawn, is alike with the ratio. -/
theorem quo_any (n m : Int) (t : TypeId) (w : World) : ∃ z w', (binOp .quo t (.float .f64 (floatOfInt .f64 n)) (.float .f64 (floatOfInt .f64 m))).run Try.prog w = .ok (.float .f64 z) w' ∧ (∃ k, w' = w.drewN k) ∧ z < 18446744073709551616 ∧ ordN (ratioW n m) z = 0 := by
  cases hq : floatBits .quo .f64 (floatOfInt .f64 n) (floatOfInt .f64 m) with
  | none =>
    refine ⟨_, _, run_float_none w .quo (Or.inr rfl) t _ _ hq, ⟨1, rfl⟩, nanT_lt _, ?_⟩
    have e0 : ratioW n m = 9221120237041090560 := by unfold ratioW; rw [hq]
    rw [e0]
    unfold ordN
    rw [cmpI_zero, key_nan (nanT_nan _)]
    decide +kernel
  | some r =>
    refine ⟨r, w, run_float_arith w .quo t .f64 _ _ _ hq, ⟨0, rfl⟩, quo_lt hq, ?_⟩
    have e0 : ratioW n m = r := by unfold ratioW; rw [hq]
    rw [e0, ordN_self]
set_option maxHeartbeats 4000000 in
theorem realBits_any (b : Nat) (hb : b < 18446744073709551616) (n m : Int) (w : World) :
    Calls Try.prog 5 #[.int .u64 b, .int .i64 n, .int .i64 m] w fun e w' => e = .returned (.bool true) ∧ Below w.heap.size w w' := by
  have hF := fun w => from_any b w
  have hG := fun w => rfrom_any b hb w
  have hK := fun w => rkind_any b hb w
  have hS := fun w => rsame_any b b hb hb w
  have hB := fun w => bits_any b hb w
  have hR := fun w => ratio_any n m w
  rw [ordN_self] at hS
  have hbb : (b : Int) < 18446744073709551616 := by omega
  cases hn : nanB b
  · have e1 : canonW b = b := by unfold canonW; rw [hn]; rfl
    rw [e1] at hB
    rw [hn] at hG
    clear hn e1 hK
    have b1 : ((b : Int) != b) = false := by simp
    go_enter Try.func5, Try.ntmps5
    go_wp2_with fail
    refine (hF _).mono ?_; rintro e w1 ⟨rfl, h1⟩; subst h1; go_wp2_with fail
    refine (hG _).mono ?_; rintro e w1 ⟨rfl, h1⟩; subst h1; go_wp2_with fail
    refine (hS _).mono ?_; rintro e w2 ⟨rfl, k2, rfl⟩
    go_wp2_with fail
    refine (hB _).mono ?_; rintro e w1 ⟨rfl, h1⟩; subst h1; go_wp2_with fail
    obtain ⟨z, wz, hz, ⟨kz, rfl⟩, hzl, hzo⟩ := quo_any n m 22 (w1.drewN k2)
    rw [hz]
    go_wp2_with fail
    refine (hR _).mono ?_; rintro e w2 ⟨rfl, k2, rfl⟩
    go_wp2_with fail
    refine (rsame_any _ z (ratioW_lt n m) hzl _).mono ?_; rintro e w3 ⟨rfl, k3, rfl⟩
    rw [hzo]
    go_wp2_with fail
    refine (works05_any _).mono ?_; rintro e w7 ⟨rfl, h7⟩
    go_wp2_with fail
    go_ret
    exact ⟨rfl, bt (bdrew _ _) h7⟩
  · have e1 : canonW b = 9221120237041090560 := by unfold canonW; rw [hn]; rfl
    have e2 : kindN b = 0 := by have := kind_nan b; rw [hn] at this; simpa using this
    rw [e1] at hB
    rw [e2] at hK
    rw [hn] at hG
    clear hn e1 e2 hS
    go_enter Try.func5, Try.ntmps5
    go_wp2_with fail
    refine (hF _).mono ?_; rintro e w1 ⟨rfl, h1⟩; subst h1; go_wp2_with fail
    refine (hG _).mono ?_; rintro e w1 ⟨rfl, h1⟩; subst h1; go_wp2_with fail
    refine (hK _).mono ?_; rintro e w2 ⟨rfl, k2, rfl⟩
    go_wp2_with fail
    refine (hB _).mono ?_; rintro e w1 ⟨rfl, h1⟩; subst h1; go_wp2_with fail
    obtain ⟨z, wz, hz, ⟨kz, rfl⟩, hzl, hzo⟩ := quo_any n m 22 (w1.drewN k2)
    rw [hz]
    go_wp2_with fail
    refine (hR _).mono ?_; rintro e w2 ⟨rfl, k2, rfl⟩
    go_wp2_with fail
    refine (rsame_any _ z (ratioW_lt n m) hzl _).mono ?_; rintro e w3 ⟨rfl, k3, rfl⟩
    rw [hzo]
    go_wp2_with fail
    refine (works05_any _).mono ?_; rintro e w7 ⟨rfl, h7⟩
    go_wp2_with fail
    go_ret
    exact ⟨rfl, bt (bdrew _ _) h7⟩

set_option maxHeartbeats 4000000 in
theorem realGreatest_any (A : Option Addr) (n cap : Nat) (l : List Nat) (hn : l.length = n) (hm : n ≤ maxLen) (hl : ∀ x ∈ l, x < 18446744073709551616) (w : World) (hr : RC w A (fvals l)) :
    Calls Try.prog 4 #[.slice A n cap] w fun e w' => e = .returned (.bool true) ∧ Below w.heap.size w w' := by
  obtain ⟨a, ha⟩ := top_ex l
  have hG := greatest_any A n cap l hn hm hl w hr
  have hRG := fun w hr => rgreatest_any A n cap l hn hm hl a ha w hr
  have Hr := Lib.hid hr
  clear hr hl hn
  by_cases h60 : 60 < n
  · have d0 : decide ((60 : Int) < n) = true := by simp; omega
    clear hG hRG h60
    go_enter Try.func4, Try.ntmps4
    go_wp2_with fail
    refine (works05_any _).mono ?_; rintro e w7 ⟨rfl, h7⟩
    go_wp2_with fail
    go_ret
    exact ⟨rfl, h7⟩
  · have d0 : decide ((60 : Int) < n) = false := by simp; omega
    clear h60
    go_enter Try.func4, Try.ntmps4
    go_wp2_with fail
    refine (hG).mono ?_; rintro e w1 ⟨a', ha', rfl, k1, rfl⟩
    obtain rfl : a' = a := ha'.uniq ha
    clear ha' ha
    go_wp2_with fail
    refine (hRG _ (Hr.out.below (bdrew _ _))).mono ?_; rintro e w2 ⟨rfl, k2, rfl⟩
    generalize decide (0 < n) = b at *
    have c1 : (b == b) = true := by simp
    go_wp2_with fail
    refine (works05_any _).mono ?_; rintro e w7 ⟨rfl, h7⟩
    go_wp2_with fail
    go_ret
    exact ⟨rfl, bt (bdrew _ _) h7⟩

end Go.Proofs.Ythpnbppahkbacaa
