/-
  Texts of this claim joined: Real5, Pick1.
-/
import Derived.Test.YtpmbpklbiocclaaGreatGrAZ
import Derived.LoopTactic
import Derived.Test.YtpmbpklbiocclaaGreatGrBA
import Derived.Test.YtpmbpklbiocclaaGreatGrBE

namespace Go.Proofs.YtpmbpklbiocclaaGreat
open Go.RowKit

theorem from_words (b up part : Nat) (hp : part < 4503599627370496) (hu : up < 2048) (hr : up * 4503599627370496 + part ≤ 9218868437227405312) (hb : b % 9223372036854775808 = up * 4503599627370496 + part) :
    ∃ (W : Nat → Nat) (U : Nat), U = (if 0 < up then up else 1) ∧ (0 < up → floatBits .add .f64 (floatOfInt .f64 (part : Int)) 4841369599423283200 = some (W 1074)) ∧ (up = 0 → floatOfInt .f64 (part : Int) = W 1074) ∧
      (∀ t, 1074 ≤ t → t + 1 < U → floatBits .mul .f64 (W t) 4611686018427387904 = some (W (t + 1))) ∧
      (∀ t, U ≤ t + 1 → t < 1074 → floatBits .quo .f64 (W (t + 1)) 4611686018427387904 = some (W t)) ∧ W (U - 1) = b % 9223372036854775808 := by
  obtain ⟨M, hM⟩ : ∃ M, (if 0 < up then 4503599627370496 + part else part) = M := ⟨_, rfl⟩
  obtain ⟨U, hU⟩ : ∃ U, (if 0 < up then up else 1) = U := ⟨_, rfl⟩
  have hMl : M < 9007199254740992 := by rw [← hM]; split <;> omega
  have hUl : U < 2048 := by rw [← hU]; split <;> omega
  have low : ∀ t, t ≤ 2045 → encV (M * 2 ^ t) < 9218868437227405312 := fun t ht => by
    have h1 := encV_lt M t hMl
    have h2 : (t + 2) * 4503599627370496 ≤ 2047 * 4503599627370496 := Nat.mul_le_mul_right _ (by omega)
    exact Nat.lt_of_lt_of_le h1 h2
  refine ⟨fun t => min (encV (M * 2 ^ t)) 9218868437227405312, U, hU.symm, fun h0 => ?_, fun h0 => ?_, fun t h1 h2 => ?_, fun t h1 h2 => ?_, ?_⟩
  · have e : M = 4503599627370496 + part := by rw [← hM, if_pos h0]
    have hl := low 1074 (by omega)
    show _ = some (min (encV (M * 2 ^ 1074)) _)
    rw [Nat.min_eq_left (Nat.le_of_lt hl), ofNat_enc part (Nat.lt_trans hp (by decide)), add_top part hp, e]
  · have e : M = part := by rw [← hM, if_neg (by omega)]
    have hl := low 1074 (by omega)
    show _ = min (encV (M * 2 ^ 1074)) _
    rw [Nat.min_eq_left (Nat.le_of_lt hl), ofNat_enc part (Nat.lt_trans hp (by decide)), e]
  · have hl := low t (by omega)
    show floatBits .mul .f64 (min (encV (M * 2 ^ t)) _) _ = some (min (encV (M * 2 ^ (t + 1))) _)
    have hf := fits_pow M t hMl
    have hf2 := fits_pow M (t + 1) hMl
    rw [Nat.pow_succ, ← Nat.mul_assoc] at hf2 ⊢
    rw [Nat.min_eq_left (Nat.le_of_lt hl)]
    exact mul_two _ hf hf2 hl
  · have hl := low (t + 1) (by omega)
    have hl2 := low t (by omega)
    show floatBits .quo .f64 (min (encV (M * 2 ^ (t + 1))) _) _ = some (min (encV (M * 2 ^ t)) _)
    have hf := fits_pow M t hMl
    have hf2 := fits_pow M (t + 1) hMl
    rw [Nat.pow_succ, ← Nat.mul_assoc] at hf2 hl ⊢
    rw [Nat.min_eq_left (Nat.le_of_lt hl), Nat.min_eq_left (Nat.le_of_lt hl2)]
    exact half_two _ hf2 hf hl (Nat.le_of_lt hl2)
  · show min (encV (M * 2 ^ (U - 1))) _ = _
    have h := enc_parts up part hp
    rw [hM, hU] at h
    rw [h, hb, Nat.min_eq_left hr]

set_option maxHeartbeats 4000000 in
theorem rfrom_any (b : Nat) (hb : b < 18446744073709551616) (w : World) :
    Calls Tryz.prog 57 #[.int .u64 b] w fun e w' => e = .returned (.tuple #[.float .f64 (if nanB b then 0 else b), .bool (!nanB b)]) ∧ w' = w := by
  obtain ⟨sg, hsg⟩ : ∃ sg, b / 9223372036854775808 = sg := ⟨_, rfl⟩
  obtain ⟨up, hup⟩ : ∃ up, b / 4503599627370496 % 2048 = up := ⟨_, rfl⟩
  obtain ⟨part, hpart⟩ : ∃ part, b % 4503599627370496 = part := ⟨_, rfl⟩
  have hul : up < 2048 := by omega
  have hpl : part < 4503599627370496 := by omega
  have q1 : (b : Int) / 9223372036854775808 = sg := by omega
  have q2 : (b : Int) / 4503599627370496 % 2048 = up := by omega
  have q3 : (b : Int) % 4503599627370496 = part := by omega
  have q4 : wrap64 (up : Int) = up := by unfold wrap64; omega
  have hmod : b % 9223372036854775808 = up * 4503599627370496 + part := by omega
  cases hn : nanB b
  · have hx : b % 9223372036854775808 ≤ 9218868437227405312 := by simpa [nanB] using hn
    obtain ⟨W, U, hU, hadd, hzero, hmul, hquo, hend⟩ := from_words b up part hpl hul (by omega) hmod
    have hs01 : sg = 0 ∨ sg = 1 := by omega
    have hb0 : sg = 0 → b % 9223372036854775808 = b := by omega
    have hb1 : sg = 1 → negW (b % 9223372036854775808) = b := by unfold negW; intro h; rw [if_pos (by omega)]; omega
    have HB0 := Lib.hid hb0
    have HB1 := Lib.hid hb1
    have Hbl := Lib.hid (show b % 9223372036854775808 < 18446744073709551616 by omega)
    have Hmul := Lib.hid hmul
    have Hquo := Lib.hid hquo
    have Hend := Lib.hid hend
    have Hs01 := Lib.hid hs01
    have hcases : (((up : Int) == 2047) = true ∧ ((part : Int) != 0) = false ∧ decide (0 < up) = true ∧ U = up ∧ ∀ w, (binOp .add 77 (.float .f64 (floatOfInt .f64 (part : Int))) (.float .f64 4841369599423283200)).run Tryz.prog w = .ok (.float .f64 (W 1074)) w) ∨
        (((up : Int) == 2047) = false ∧ decide (0 < up) = true ∧ U = up ∧ ∀ w, (binOp .add 77 (.float .f64 (floatOfInt .f64 (part : Int))) (.float .f64 4841369599423283200)).run Tryz.prog w = .ok (.float .f64 (W 1074)) w) ∨
        (((up : Int) == 2047) = false ∧ decide (0 < up) = false ∧ U = 1 ∧ floatOfInt .f64 (part : Int) = W 1074) := by
      by_cases h0 : up = 0
      · exact Or.inr (Or.inr ⟨by simp; omega, by simp; omega, by rw [hU, if_neg (by omega)], hzero h0⟩)
      · have hop := fun (w : World) => run_float_arith (P := Tryz.prog) w .add 77 .f64 _ _ _ (hadd (by omega))
        have hu : U = up := by rw [hU, if_pos (by omega)]
        by_cases h1 : up = 2047
        · exact Or.inl ⟨by simp; omega, by simp; omega, by simp; omega, hu, hop⟩
        · exact Or.inr (Or.inl ⟨by simp; omega, by simp; omega, hu, hop⟩)
    have HUl := Lib.hid (show 1 ≤ U ∧ U ≤ 2047 by rw [hU]; split <;> omega)
    clear hb0 hb1 hmul hquo hend hs01 hsg hup hpart hmod hx hn hU hadd hzero
    generalize hx0 : floatOfInt .f64 (part : Int) = x0 at *
    rcases hcases with ⟨d1, d3, d2, hu, hop⟩ | ⟨d1, d2, hu, hop⟩ | ⟨d1, d2, hu, hz⟩
    all_goals
      have HU1 := Lib.hid hu
      clear hu
      go_enter Tryz.func57, Tryz.ntmps57
      go_wp2_with fail
      go_loop [5, 7] (fun u x => ∃ p t : Nat, p + t = U + 1074 ∧ 1074 ≤ t ∧ (1075 ≤ p ∨ t = 1074) ∧ u = .int .i64 p ∧ x = .float .f64 (W t)) (fun u _ => (intOf u).toNat)
      case atStart => exact ⟨U, 1074, rfl, Nat.le_refl _, Or.inr rfl, by rw [HU1.out]; first | done | rfl, rfl⟩
      case round =>
        obtain ⟨p, t, e1, e2, e3, rfl, rfl⟩ := hrel
        have E1 := Lib.hid e1
        have E2 := Lib.hid e2
        have E3 := Lib.hid e3
        clear e1 e2 e3
        by_cases hgt : 1075 < p
        · have hop2 := fun (w : World) => run_float_arith (P := Tryz.prog) w .mul 77 .f64 _ _ _ (Hmul.out t E2.out (by have := E1.out; omega))
          have g1 : decide (1075 < p) = true := by simpa using hgt
          have q5 : wrap64 ((p : Int) - 1) = ((p - 1 : Nat) : Int) := by have := E1.out; have := E2.out; have := HUl.out; unfold wrap64; omega
          go_wp2_with fail
          exact ⟨⟨p - 1, t + 1, by have := E1.out; omega, by have := E2.out; omega, Or.inl (by omega), by rw [q5], rfl⟩, by rw [q5]; simp [intOf]; omega⟩
        · have g1 : decide (1075 < p) = false := by simpa using hgt
          go_wp2_with fail
          go_loop [5, 7] (fun u x => ∃ p' t' : Nat, p' + t' = U + 1074 ∧ p' ≤ 1075 ∧ (t' ≤ 1074 ∨ p' = 1075) ∧ u = .int .i64 p' ∧ x = .float .f64 (W t')) (fun u _ => 1075 - (intOf u).toNat)
          case atStart => exact ⟨p, t, E1.out, by omega, E3.out.elim (fun h => Or.inr (by omega)) (fun h => Or.inl (by omega)), rfl, rfl⟩
          case round =>
            obtain ⟨p', t', e1, e2, e3, rfl, rfl⟩ := hrel
            have F1 := Lib.hid e1
            have F2 := Lib.hid e2
            have F3 := Lib.hid e3
            clear e1 e2 e3 g1 hgt
            by_cases hlt : p' < 1075
            · obtain ⟨s, rfl⟩ : ∃ s, t' = s + 1 := ⟨t' - 1, by have := F1.out; have := HUl.out; omega⟩
              have hop3 := fun (w : World) => run_float_arith (P := Tryz.prog) w .quo 77 .f64 _ _ _ (Hquo.out s (by have := F1.out; omega) (by have := F1.out; have := F3.out; omega))
              have g2 : decide ((p' : Int) < 1075) = true := by simp; omega
              go_wp2_with fail
              exact ⟨⟨p' + 1, s, by have := F1.out; omega, by omega, by have := F1.out; have := F3.out; omega, by go_num, rfl⟩, by simp [intOf]; omega⟩
            · have g2 : decide ((p' : Int) < 1075) = false := by simp; omega
              have hW : W t' = b % 9223372036854775808 := by
                have e9 : t' = U - 1 := by have := F1.out; have := F2.out; omega
                rw [e9]
                exact Hend.out
              have hWl := Hbl.out
              rw [← hW] at hWl
              have HW := Lib.hid hW
              clear hW hlt
              generalize W t' = y at *
              rcases Hs01.out with hs | hs
              · have d5 : ((sg : Int) == 1) = false := by simp; omega
                have HE := Lib.hid (HB0.out hs)
                clear hs
                go_wp2_with fail
                go_ret2
                refine ⟨?_, rfl⟩
                have hyb : y = b := by rw [HW.out, HE.out]
                rw [hyb]
                rfl
              · have d5 : ((sg : Int) == 1) = true := by simp; omega
                have HE := Lib.hid (HB1.out hs)
                have e2 : Op.unary .neg (.float .f64 y) = pure (Value.float .f64 b) := by
                  show pure (Value.float .f64 (Op.negFloat .f64 y)) = _
                  rw [negF y hWl, HW.out, HE.out]
                clear hs
                go_wp2_with fail
                go_ret2
                exact ⟨rfl, rfl⟩
  · have hx : 9218868437227405312 < b % 9223372036854775808 := by simpa [nanB] using hn
    have d1 : ((up : Int) == 2047) = true := by simp; omega
    have d2 : ((part : Int) != 0) = true := by simp; omega
    clear hsg hup hpart hmod hx hn
    go_enter Tryz.func57, Tryz.ntmps57
    go_wp2_with fail
    go_ret2
    exact ⟨rfl, rfl⟩

end Go.Proofs.YtpmbpklbiocclaaGreat

namespace Go.Proofs.YtpmbpklbiocclaaGreat
open Go.RowKit

def atZ (n : Int) (x : Nat) : Int :=
  if n < 1 then -1 else if keyN x ≤ 0 then 0 else if 4607182418800017408 ≤ keyN x then n - 1
  else if n - 1 < (wholeW (mulW x (floatOfInt .f64 n)) : Int) then n - 1 else (wholeW (mulW x (floatOfInt .f64 n)) : Int)

theorem toInt64 (x : Nat) (hx : x < 9218868437227405312) (h : wholeW x < 9223372036854775808) : floatToIntVal .f64 x .i64 = some ((wholeW x : Nat) : Int) := by
  unfold floatToIntVal
  rw [toInt_val x hx]
  have h1 : IntKind.i64.min = -9223372036854775808 := by decide
  have h2 : IntKind.i64.max = 9223372036854775807 := by decide
  rw [h1, h2]
  show (if _ then _ else _) = _
  rw [if_pos (by omega)]
theorem key_pos (x : Nat) (hx : x < 9218868437227405312) : keyN x = x := by
  unfold keyN
  rw [if_neg (by omega), if_pos (by omega)]
theorem key_one : keyN 4607182418800017408 = 4607182418800017408 := by decide
theorem key_zero : keyN 0 = 0 := by decide

theorem at_facts (n : Int) (x : Nat) (h1 : 1 ≤ n) (h2 : n < 9223372036854775808) (hx : x < 4607182418800017408) :
    floatBits .mul .f64 x (floatOfInt .f64 n) = some (mulW x (floatOfInt .f64 n)) ∧ floatToIntVal .f64 (mulW x (floatOfInt .f64 n)) .i64 = some ((wholeW (mulW x (floatOfInt .f64 n)) : Nat) : Int) := by
  obtain ⟨m, rfl⟩ : ∃ m : Nat, n = m := ⟨n.toNat, by omega⟩
  have ht := ofInt_top (n := m) (by omega)
  have hm := mul_below (n := m) hx (by omega)
  exact ⟨mul_val x _ (by omega) (by omega), toInt64 _ (by omega) (by omega)⟩

set_option maxHeartbeats 2000000 in
theorem at_any (n : Int) (x : Nat) (hn1 : -9223372036854775808 ≤ n) (hn2 : n < 9223372036854775808) (hx : x < 18446744073709551616) (w : World) :
    Calls Tryz.prog 30 #[.int .i64 n, .float .f64 x] w fun e w' => e = .returned (.int .i64 (atZ n x)) ∧ w' = w := by
  unfold atZ
  have hO0 := fun w => order_any x 0 hx (by decide) w
  have hO1 := fun w => order_any x 4607182418800017408 hx (by decide) w
  have k0 := ordN_nonpos x 0
  have k1 := ordN_nonneg x 4607182418800017408
  rw [key_zero] at k0
  rw [key_one] at k1
  by_cases h1 : n < 1
  · rw [if_pos h1]
    have d0 : decide (n < 1) = true := by simpa using h1
    clear h1 k0 k1 hO0 hO1
    go_enter Tryz.func30, Tryz.ntmps30
    go_wp2_with fail
    go_ret
    exact ⟨rfl, rfl⟩
  · rw [if_neg h1]
    have d0 : decide (n < 1) = false := by simpa using h1
    generalize ordN x 0 = o0 at *
    generalize ordN x 4607182418800017408 = o1 at *
    by_cases h2 : keyN x ≤ 0
    · rw [if_pos h2]
      rw [decide_eq_true h2] at k0
      clear h1 h2 k1 hO1
      go_enter Tryz.func30, Tryz.ntmps30
      go_wp2_with fail
      refine (hO0 _).mono ?_; rintro e w' ⟨rfl, rfl⟩
      go_wp2_with fail
      go_ret
      exact ⟨rfl, rfl⟩
    · rw [if_neg h2]
      rw [decide_eq_false h2] at k0
      have q1 : IntKind.i64.wrap (n - 1) = n - 1 := by rw [IntKind.wrap_i64]; omega
      by_cases h3 : 4607182418800017408 ≤ keyN x
      · rw [if_pos h3]
        rw [decide_eq_true h3] at k1
        clear h1 h2 h3
        go_enter Tryz.func30, Tryz.ntmps30
        go_wp2_with fail
        refine (hO0 _).mono ?_; rintro e w' ⟨rfl, rfl⟩
        go_wp2_with fail
        refine (hO1 _).mono ?_; rintro e w' ⟨rfl, rfl⟩
        go_wp2_with fail
        go_ret
        exact ⟨rfl, rfl⟩
      · rw [if_neg h3]
        rw [decide_eq_false h3] at k1
        have hxs : x < 4607182418800017408 := by
          rcases key_cases x hx with h | h | h | h | h | h | h
          · omega
          · omega
          · omega
          · omega
          · omega
          · have := kind_cases x hx
            have := key_pos x (by omega)
            omega
          · omega
        obtain ⟨f1, f2⟩ := at_facts n x (by omega) hn2 hxs
        have hop := fun (w : World) => run_float_arith (P := Tryz.prog) w .mul 77 .f64 _ _ _ f1
        have hcv := fun (w : World) => run_convert_float_int (P := Tryz.prog) w 77 3 .f64 .i64 _ _ (by rw [Tryz.underlying77]; rfl) Tryz.underlying3 f2
        generalize mulW x (floatOfInt .f64 n) = y at *
        generalize hz : floatOfInt .f64 n = z at *
        generalize ((wholeW y : Nat) : Int) = W at *
        clear h1 h2 h3 hxs f1 f2
        go_enter Tryz.func30, Tryz.ntmps30
        go_wp2_with fail
        refine (hO0 _).mono ?_; rintro e w' ⟨rfl, rfl⟩
        go_wp2_with fail
        refine (hO1 _).mono ?_; rintro e w' ⟨rfl, rfl⟩
        go_wp2_with fail
        all_goals
          go_ret
          exact ⟨congrArg (fun z => Ending.returned (Value.int IntKind.i64 z)) (by omega), rfl⟩

theorem one_tests (x : Nat) (h0 : 0 < x) (h1 : x < 9218868437227405312) :
    (FloatKind.f64.format.order x 4607182418800017408 == some .gt) = decide (4607182418800017408 < x) ∧ (FloatKind.f64.format.order x 4607182418800017408 == some .eq) = decide (x = 4607182418800017408) := by
  have n1 : nanB x = false := by unfold nanB; simp; omega
  have n2 : nanB 4607182418800017408 = false := by decide
  refine ⟨?_, ?_⟩
  · rw [f_gt (by omega) (by decide)]
    unfold ltF sr
    rw [n1, n2, Bool.eq_iff_iff]
    simp only [Bool.not_false, Bool.true_and, decide_eq_true_eq]
    repeat' split
    all_goals omega
  · rw [f_eq (by omega) (by decide)]
    unfold eqF sr
    rw [n1, n2, Bool.eq_iff_iff]
    simp only [Bool.not_false, Bool.true_and, decide_eq_true_eq]
    repeat' split
    all_goals omega

set_option maxHeartbeats 4000000 in
theorem rat_any (n : Int) (x : Nat) (hn1 : -9223372036854775808 ≤ n) (hn2 : n < 9223372036854775808) (hx : x < 18446744073709551616) (w : World) :
    Calls Tryz.prog 58 #[.int .i64 n, .float .f64 x] w (RetQ (.int .i64 (atZ n x)) w) := by
  have hK := fun w => rkind_any x hx w
  unfold atZ
  by_cases h1 : n < 1
  · rw [if_pos h1]
    have d0 : decide (n < 1) = true := by simpa using h1
    clear h1 hK
    go_enter Tryz.func58, Tryz.ntmps58
    go_wp2_with fail
    go_ret
    exact ⟨rfl, 0, rfl⟩
  · rw [if_neg h1]
    have d0 : decide (n < 1) = false := by simpa using h1
    have q1 : IntKind.i64.wrap (n - 1) = n - 1 := by rw [IntKind.wrap_i64]; omega
    have hkey := key_cases x hx
    by_cases h2 : keyN x ≤ 0
    · rw [if_pos h2]
      have d1 : decide (kindN x < 5) = true := by simp; omega
      generalize kindN x = k at *
      clear h1 h2 hkey
      go_enter Tryz.func58, Tryz.ntmps58
      go_wp2_with fail
      refine (hK _).mono ?_; rintro e w1 ⟨rfl, k1, rfl⟩
      go_wp2_with fail
      go_ret
      exact ⟨rfl, k1, rfl⟩
    · rw [if_neg h2]
      have d1 : decide (kindN x < 5) = false := by simp; omega
      by_cases h6 : kindN x = 6
      · have d2 : (kindN x == 6) = true := by simpa using h6
        rw [if_pos (by omega)]
        generalize kindN x = k at *
        clear h1 h2 hkey h6
        go_enter Tryz.func58, Tryz.ntmps58
        go_wp2_with fail
        refine (hK _).mono ?_; rintro e w1 ⟨rfl, k1, rfl⟩
        go_wp2_with fail
        go_ret
        exact ⟨rfl, k1, rfl⟩
      · have d2 : (kindN x == 6) = false := by simpa using h6
        have hr : 0 < x ∧ x < 9218868437227405312 := by have := kind_cases x hx; omega
        obtain ⟨t1, t2⟩ := one_tests x hr.1 hr.2
        have hkx := key_pos x hr.2
        generalize kindN x = k at *
        by_cases h3 : 4607182418800017408 ≤ keyN x
        · rw [if_pos h3]
          by_cases h4 : x = 4607182418800017408
          · rw [decide_eq_true h4] at t2
            rw [decide_eq_false (by omega)] at t1
            clear h1 h2 hkey h6 hr hkx h3 h4
            go_enter Tryz.func58, Tryz.ntmps58
            go_wp2_with fail
            refine (hK _).mono ?_; rintro e w1 ⟨rfl, k1, rfl⟩
            go_wp2_with fail
            go_ret
            exact ⟨rfl, k1, rfl⟩
          · rw [decide_eq_false h4] at t2
            rw [decide_eq_true (by omega)] at t1
            clear h1 h2 hkey h6 hr hkx h3 h4
            go_enter Tryz.func58, Tryz.ntmps58
            go_wp2_with fail
            refine (hK _).mono ?_; rintro e w1 ⟨rfl, k1, rfl⟩
            go_wp2_with fail
            go_ret
            exact ⟨rfl, k1, rfl⟩
        · rw [if_neg h3]
          rw [decide_eq_false (by omega)] at t1
          rw [decide_eq_false (by omega)] at t2
          obtain ⟨f1, f2⟩ := at_facts n x (by omega) hn2 (by omega)
          have hop := fun (w : World) => run_float_arith (P := Tryz.prog) w .mul 77 .f64 _ _ _ f1
          have hcv := fun (w : World) => run_convert_float_int (P := Tryz.prog) w 77 3 .f64 .i64 _ _ (by rw [Tryz.underlying77]; rfl) Tryz.underlying3 f2
          generalize mulW x (floatOfInt .f64 n) = y at *
          generalize hz : floatOfInt .f64 n = z at *
          generalize ((wholeW y : Nat) : Int) = W at *
          clear h1 h2 h3 h6 f1 f2 hkey hr hkx
          by_cases h5 : n - 1 < W
          · rw [if_pos h5]
            have d5 : decide (n - 1 < W) = true := by simpa using h5
            clear h5
            go_enter Tryz.func58, Tryz.ntmps58
            go_wp2_with fail
            refine (hK _).mono ?_; rintro e w1 ⟨rfl, k1, rfl⟩
            go_wp2_with fail
            go_ret
            exact ⟨rfl, k1, rfl⟩
          · rw [if_neg h5]
            have d5 : decide (n - 1 < W) = false := by simpa using h5
            clear h5
            go_enter Tryz.func58, Tryz.ntmps58
            go_wp2_with fail
            refine (hK _).mono ?_; rintro e w1 ⟨rfl, k1, rfl⟩
            go_wp2_with fail
            go_ret
            exact ⟨rfl, k1, rfl⟩

end Go.Proofs.YtpmbpklbiocclaaGreat
