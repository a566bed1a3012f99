/-
  The contract of the document's From: the number of some bits by its parts.
-/
import Derived.Test.YtjceaaononbliaaReal3
import Derived.Test.YtjceaaononbliaaRealE
import Derived.LoopTactic
namespace Go.Proofs.Ytjceaaononbliaa
open Go.RowKit

/-- The words that the document's From goes through. -/
theorem from_words (b up part : Nat) (hp : part < 4503599627370496) (hu : up < 2048) (hr : up * 4503599627370496 + part ≤ 9218868437227405312) (hb : b % 9223372036854775808 = up * 4503599627370496 + part) :
    ∃ (W : Nat → Nat) (U : Nat), U = (if 0 < up then up else 1) ∧ (0 < up → floatBits .add .f64 (floatOfInt .f64 (part : Int)) 4841369599423283200 = some (W 1074)) ∧ (up = 0 → floatOfInt .f64 (part : Int) = W 1074) ∧
      (∀ t, 1074 ≤ t → t + 1 < U → floatBits .mul .f64 (W t) 4611686018427387904 = some (W (t + 1))) ∧
      (∀ t, U ≤ t + 1 → t < 1074 → floatBits .quo .f64 (W (t + 1)) 4611686018427387904 = some (W t)) ∧ W (U - 1) = b % 9223372036854775808 := by
  obtain ⟨M, hM⟩ : ∃ M, (if 0 < up then 4503599627370496 + part else part) = M := ⟨_, rfl⟩
  obtain ⟨U, hU⟩ : ∃ U, (if 0 < up then up else 1) = U := ⟨_, rfl⟩
  have hMl : M < 9007199254740992 := by rw [← hM]; split <;> omega
  have hUl : U < 2048 := by rw [← hU]; split <;> omega
  have low : ∀ t, t ≤ 2045 → encV (M * 2 ^ t) < 9218868437227405312 := fun t ht => by
    have h1 := encV_lt M t hMl
    have h2 : (t + 2) * 4503599627370496 ≤ 2047 * 4503599627370496 := Nat.mul_le_mul_right _ (by omega)
    exact Nat.lt_of_lt_of_le h1 h2
  refine ⟨fun t => min (encV (M * 2 ^ t)) 9218868437227405312, U, hU.symm, fun h0 => ?_, fun h0 => ?_, fun t h1 h2 => ?_, fun t h1 h2 => ?_, ?_⟩
  · have e : M = 4503599627370496 + part := by rw [← hM, if_pos h0]
    have hl := low 1074 (by omega)
    show _ = some (min (encV (M * 2 ^ 1074)) _)
    rw [Nat.min_eq_left (Nat.le_of_lt hl), ofNat_enc part (Nat.lt_trans hp (by decide)), add_top part hp, e]
  · have e : M = part := by rw [← hM, if_neg (by omega)]
    have hl := low 1074 (by omega)
    show _ = min (encV (M * 2 ^ 1074)) _
    rw [Nat.min_eq_left (Nat.le_of_lt hl), ofNat_enc part (Nat.lt_trans hp (by decide)), e]
  · have hl := low t (by omega)
    show floatBits .mul .f64 (min (encV (M * 2 ^ t)) _) _ = some (min (encV (M * 2 ^ (t + 1))) _)
    have hf := fits_pow M t hMl
    have hf2 := fits_pow M (t + 1) hMl
    rw [Nat.pow_succ, ← Nat.mul_assoc] at hf2 ⊢
    rw [Nat.min_eq_left (Nat.le_of_lt hl)]
    exact mul_two _ hf hf2 hl
  · have hl := low (t + 1) (by omega)
    have hl2 := low t (by omega)
    show floatBits .quo .f64 (min (encV (M * 2 ^ (t + 1))) _) _ = some (min (encV (M * 2 ^ t)) _)
    have hf := fits_pow M t hMl
    have hf2 := fits_pow M (t + 1) hMl
    rw [Nat.pow_succ, ← Nat.mul_assoc] at hf2 hl ⊢
    rw [Nat.min_eq_left (Nat.le_of_lt hl), Nat.min_eq_left (Nat.le_of_lt hl2)]
    exact half_two _ hf2 hf hl (Nat.le_of_lt hl2)
  · show min (encV (M * 2 ^ (U - 1))) _ = _
    have h := enc_parts up part hp
    rw [hM, hU] at h
    rw [h, hb, Nat.min_eq_left hr]

set_option maxHeartbeats 4000000 in
theorem rfrom_any (b : Nat) (hb : b < 18446744073709551616) (w : World) :
    Calls Try.prog 29 #[.int .u64 b] w fun e w' => e = .returned (.tuple #[.float .f64 (if nanB b then 0 else b), .bool (!nanB b)]) ∧ w' = w := by
  obtain ⟨sg, hsg⟩ : ∃ sg, b / 9223372036854775808 = sg := ⟨_, rfl⟩
  obtain ⟨up, hup⟩ : ∃ up, b / 4503599627370496 % 2048 = up := ⟨_, rfl⟩
  obtain ⟨part, hpart⟩ : ∃ part, b % 4503599627370496 = part := ⟨_, rfl⟩
  have hul : up < 2048 := by omega
  have hpl : part < 4503599627370496 := by omega
  have q1 : (b : Int) / 9223372036854775808 = sg := by omega
  have q2 : (b : Int) / 4503599627370496 % 2048 = up := by omega
  have q3 : (b : Int) % 4503599627370496 = part := by omega
  have q4 : wrap64 (up : Int) = up := by unfold wrap64; omega
  have hmod : b % 9223372036854775808 = up * 4503599627370496 + part := by omega
  cases hn : nanB b
  · have hx : b % 9223372036854775808 ≤ 9218868437227405312 := by simpa [nanB] using hn
    obtain ⟨W, U, hU, hadd, hzero, hmul, hquo, hend⟩ := from_words b up part hpl hul (by omega) hmod
    have hs01 : sg = 0 ∨ sg = 1 := by omega
    have hb0 : sg = 0 → b % 9223372036854775808 = b := by omega
    have hb1 : sg = 1 → negW (b % 9223372036854775808) = b := by unfold negW; intro h; rw [if_pos (by omega)]; omega
    have HB0 := Lib.hid hb0
    have HB1 := Lib.hid hb1
    have Hbl := Lib.hid (show b % 9223372036854775808 < 18446744073709551616 by omega)
    have Hmul := Lib.hid hmul
    have Hquo := Lib.hid hquo
    have Hend := Lib.hid hend
    have Hs01 := Lib.hid hs01
    have hcases : (((up : Int) == 2047) = true ∧ ((part : Int) != 0) = false ∧ decide (0 < up) = true ∧ U = up ∧ ∀ w, (binOp .add 22 (.float .f64 (floatOfInt .f64 (part : Int))) (.float .f64 4841369599423283200)).run Try.prog w = .ok (.float .f64 (W 1074)) w) ∨
        (((up : Int) == 2047) = false ∧ decide (0 < up) = true ∧ U = up ∧ ∀ w, (binOp .add 22 (.float .f64 (floatOfInt .f64 (part : Int))) (.float .f64 4841369599423283200)).run Try.prog w = .ok (.float .f64 (W 1074)) w) ∨
        (((up : Int) == 2047) = false ∧ decide (0 < up) = false ∧ U = 1 ∧ floatOfInt .f64 (part : Int) = W 1074) := by
      by_cases h0 : up = 0
      · exact Or.inr (Or.inr ⟨by simp; omega, by simp; omega, by rw [hU, if_neg (by omega)], hzero h0⟩)
      · have hop := fun (w : World) => run_float_arith (P := Try.prog) w .add 22 .f64 _ _ _ (hadd (by omega))
        have hu : U = up := by rw [hU, if_pos (by omega)]
        by_cases h1 : up = 2047
        · exact Or.inl ⟨by simp; omega, by simp; omega, by simp; omega, hu, hop⟩
        · exact Or.inr (Or.inl ⟨by simp; omega, by simp; omega, hu, hop⟩)
    have HUl := Lib.hid (show 1 ≤ U ∧ U ≤ 2047 by rw [hU]; split <;> omega)
    clear hb0 hb1 hmul hquo hend hs01 hsg hup hpart hmod hx hn hU hadd hzero
    generalize hx0 : floatOfInt .f64 (part : Int) = x0 at *
    rcases hcases with ⟨d1, d3, d2, hu, hop⟩ | ⟨d1, d2, hu, hop⟩ | ⟨d1, d2, hu, hz⟩
    all_goals
      have HU1 := Lib.hid hu
      clear hu
      go_enter Try.func29, Try.ntmps29
      go_wp2_with fail
      go_loop [5, 7] (fun u x => ∃ p t : Nat, p + t = U + 1074 ∧ 1074 ≤ t ∧ (1075 ≤ p ∨ t = 1074) ∧ u = .int .i64 p ∧ x = .float .f64 (W t)) (fun u _ => (intOf u).toNat)
      case atStart => exact ⟨U, 1074, rfl, Nat.le_refl _, Or.inr rfl, by rw [HU1.out]; first | done | rfl, rfl⟩
      case round =>
        obtain ⟨p, t, e1, e2, e3, rfl, rfl⟩ := hrel
        have E1 := Lib.hid e1
        have E2 := Lib.hid e2
        have E3 := Lib.hid e3
        clear e1 e2 e3
        by_cases hgt : 1075 < p
        · have hop2 := fun (w : World) => run_float_arith (P := Try.prog) w .mul 22 .f64 _ _ _ (Hmul.out t E2.out (by have := E1.out; omega))
          have g1 : decide (1075 < p) = true := by simpa using hgt
          have q5 : wrap64 ((p : Int) - 1) = ((p - 1 : Nat) : Int) := by have := E1.out; have := E2.out; have := HUl.out; unfold wrap64; omega
          go_wp2_with fail
          exact ⟨⟨p - 1, t + 1, by have := E1.out; omega, by have := E2.out; omega, Or.inl (by omega), by rw [q5], rfl⟩, by rw [q5]; simp [intOf]; omega⟩
        · have g1 : decide (1075 < p) = false := by simpa using hgt
          go_wp2_with fail
          go_loop [5, 7] (fun u x => ∃ p' t' : Nat, p' + t' = U + 1074 ∧ p' ≤ 1075 ∧ (t' ≤ 1074 ∨ p' = 1075) ∧ u = .int .i64 p' ∧ x = .float .f64 (W t')) (fun u _ => 1075 - (intOf u).toNat)
          case atStart => exact ⟨p, t, E1.out, by omega, E3.out.elim (fun h => Or.inr (by omega)) (fun h => Or.inl (by omega)), rfl, rfl⟩
          case round =>
            obtain ⟨p', t', e1, e2, e3, rfl, rfl⟩ := hrel
            have F1 := Lib.hid e1
            have F2 := Lib.hid e2
            have F3 := Lib.hid e3
            clear e1 e2 e3 g1 hgt
            by_cases hlt : p' < 1075
            · obtain ⟨s, rfl⟩ : ∃ s, t' = s + 1 := ⟨t' - 1, by have := F1.out; have := HUl.out; omega⟩
              have hop3 := fun (w : World) => run_float_arith (P := Try.prog) w .quo 22 .f64 _ _ _ (Hquo.out s (by have := F1.out; omega) (by have := F1.out; have := F3.out; omega))
              have g2 : decide ((p' : Int) < 1075) = true := by simp; omega
              go_wp2_with fail
              exact ⟨⟨p' + 1, s, by have := F1.out; omega, by omega, by have := F1.out; have := F3.out; omega, by go_num, rfl⟩, by simp [intOf]; omega⟩
            · have g2 : decide ((p' : Int) < 1075) = false := by simp; omega
              have hW : W t' = b % 9223372036854775808 := by
                have e9 : t' = U - 1 := by have := F1.out; have := F2.out; omega
                rw [e9]
                exact Hend.out
              have hWl := Hbl.out
              rw [← hW] at hWl
              have HW := Lib.hid hW
              clear hW hlt
              generalize W t' = y at *
              rcases Hs01.out with hs | hs
              · have d5 : ((sg : Int) == 1) = false := by simp; omega
                have HE := Lib.hid (HB0.out hs)
                clear hs
                go_wp2_with fail
                go_ret2
                refine ⟨?_, rfl⟩
                have hyb : y = b := by rw [HW.out, HE.out]
                rw [hyb]
                rfl
              · have d5 : ((sg : Int) == 1) = true := by simp; omega
                have HE := Lib.hid (HB1.out hs)
                have e2 : Op.unary .neg (.float .f64 y) = pure (Value.float .f64 b) := by
                  show pure (Value.float .f64 (Op.negFloat .f64 y)) = _
                  rw [negF y hWl, HW.out, HE.out]
                clear hs
                go_wp2_with fail
                go_ret2
                exact ⟨rfl, rfl⟩
  · have hx : 9218868437227405312 < b % 9223372036854775808 := by simpa [nanB] using hn
    have d1 : ((up : Int) == 2047) = true := by simp; omega
    have d2 : ((part : Int) != 0) = true := by simp; omega
    clear hsg hup hpart hmod hx hn
    go_enter Try.func29, Try.ntmps29
    go_wp2_with fail
    go_ret2
    exact ⟨rfl, rfl⟩

end Go.Proofs.Ytjceaaononbliaa
