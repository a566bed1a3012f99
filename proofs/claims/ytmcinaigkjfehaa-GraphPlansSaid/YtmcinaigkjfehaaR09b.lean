/-
  Contracts of the document's answer 09: Rise, May.
-/
import Derived.Test.YtmcinaigkjfehaaR09a
namespace Go.Proofs.Ytmcinaigkjfehaa
open Go.RowKit

theorem lastN_nonneg (l : List Int) (k : Nat) (h : ∀ j (hj : j < l.length), j < k → lastN l j < l[j]) : 0 ≤ lastN l k := by
  induction k with
  | zero => exact Int.le_refl _
  | succ k ih =>
    have h1 := ih fun j hj hjk => h j hj (by omega)
    by_cases hk : k < l.length
    · rw [lastN_succ l k hk]
      have := h k hk (by omega)
      omega
    · unfold lastN
      rw [if_neg (by omega)]
      simp [List.getD, show l.length ≤ k by omega]
set_option maxRecDepth 100000 in
set_option maxHeartbeats 1600000 in
theorem rrise9_any (A : Option Addr) (n cap : Nat) (l : List Int) (hn : l.length = n) (hm : n ≤ 4096) (x : Int) (w : World) (hr : RC w A (ivals l)) :
    Calls Try.prog 38 #[.slice A n cap, .int .i64 x] w (RetQ (.bool (riseN x 0 l)) w) := by
  have Hn := Lib.hid hn
  have Hr := Lib.hid hr
  obtain ⟨b, hb⟩ : ∃ b, riseN x 0 l = b := ⟨_, rfl⟩
  rw [hb]
  have Hb := Lib.hid hb
  clear hn hr hb
  go_enter Try.func38, Try.ntmps38
  go_wp2_with fail
  go_loopw [5] (fun i wr => ∃ k : Nat, k ≤ n ∧ i = .int .i64 k ∧ (∀ j (h : j < l.length), j < k → l[j] < x ∧ lastN l j < l[j]) ∧ ∃ m, wr = w.drewN m) (fun i _ => n - (intOf i).toNat)
  case atStart => exact ⟨0, Nat.zero_le _, rfl, fun j _ h => absurd h (Nat.not_lt_zero _), 0, rfl⟩
  case round =>
    obtain ⟨k, hk, rfl, hall, m, rfl⟩ := hrel
    have Hall := Lib.hid hall
    clear hall
    by_cases hlt : k < n
    · have d0 : decide ((k : Int) < n) = true := by simpa using hlt
      have hkl : k < l.length := by rw [Hn.out]; exact hlt
      obtain ⟨ad, rfl, hc⟩ := Hr.out.int k hkl
      have Hno : Hid (¬ (l[k] < x ∧ lastN l k < l[k]) → b = false) := Lib.hid fun h => by
        rw [← Hb.out]
        exact Bool.eq_false_iff.2 fun hh => h (riseN_iff0.1 hh k hkl)
      have Hyes : Hid ((l[k] < x ∧ lastN l k < l[k]) → ∀ j (h : j < l.length), j < k + 1 → l[j] < x ∧ lastN l j < l[j]) := Lib.hid fun hh j hj hjk => by
        by_cases hc : j = k
        · subst hc; exact hh
        · exact Hall.out j hj (by omega)
      by_cases h1 : l[k] < 1
      · have e1 : decide (l[k] < 1) = true := by simpa using h1
        have Hf := Lib.hid (Hno.out fun h => by
          have h2 := lastN_nonneg l k fun j hj hjk => (Hall.out j hj hjk).2
          omega)
        clear h1
        go_wp2_with fail
        go_quiet (fail)
        go_wp2_with fail
        go_ret
        rw [Hf.out]
        exact ⟨rfl, m + nq, by first | rfl | simp only [World.drewN_drewN]⟩
      · have e1 : decide (l[k] < 1) = false := by simpa using h1
        by_cases h2 : x ≤ l[k]
        · have e2 : decide (x ≤ l[k]) = true := by simpa using h2
          have Hf := Lib.hid (Hno.out fun h => by omega)
          clear h1 h2
          go_wp2_with fail
          go_quiet (fail)
          go_wp2_with fail
          go_ret
          rw [Hf.out]
          exact ⟨rfl, m + nq, by first | rfl | simp only [World.drewN_drewN]⟩
        · have e2 : decide (x ≤ l[k]) = false := by simpa using h2
          by_cases h0 : k = 0
          · have e3 : decide (0 < k) = false := by simp; omega
            have Hf := Lib.hid (Hyes.out ⟨by omega, by subst h0; rw [lastN_zero]; omega⟩)
            clear h1 h2 h0
            go_wp2_with fail
            go_quiet (fail)
            go_wp2_with fail
            go_roundw
            case rel => exact ⟨k + 1, by omega, by go_num, Hf.out, m + nq, by first | rfl | simp only [World.drewN_drewN]⟩
            case measure => simp [intOf]; omega
          · have e3 : decide (0 < k) = true := by simp; omega
            obtain ⟨k', hk'⟩ : ∃ k', k = k' + 1 := ⟨k - 1, by omega⟩
            have hkl' : k' < l.length := by omega
            obtain ⟨ad', e', hc'⟩ := Hr.out.int k' hkl'
            injection e' with e'
            subst e'
            have Hz := Lib.hid (show lastN l k = l[k'] by rw [hk']; exact lastN_succ l k' hkl')
            have q1 : IntKind.i64.wrap ((k : Int) - 1) = k' := by rw [IntKind.wrap_i64]; omega
            have z1 : (k' : Int) < n := by omega
            have HK := Lib.hid hk'
            by_cases h3 : l[k] ≤ l[k']
            · have e4 : decide (l[k] ≤ l[k']) = true := by simpa using h3
              have Hf := Lib.hid (Hno.out fun h => by rw [Hz.out] at h; omega)
              clear h1 h2 h0 h3 hk'
              go_wp2_with fail
              go_quiet (fail)
              go_wp2_with fail
              go_ret
              rw [Hf.out]
              exact ⟨rfl, m + nq, by first | rfl | simp only [World.drewN_drewN]⟩
            · have e4 : decide (l[k] ≤ l[k']) = false := by simpa using h3
              have Hf := Lib.hid (Hyes.out ⟨by omega, by rw [Hz.out]; omega⟩)
              clear h1 h2 h0 h3 hk'
              go_wp2_with fail
              go_quiet (fail)
              go_wp2_with fail
              go_roundw
              case rel => exact ⟨k + 1, by omega, by go_num, Hf.out, m + nq, by first | rfl | simp only [World.drewN_drewN]⟩
              case measure => simp [intOf]; omega
    · have d0 : decide ((k : Int) < n) = false := by simpa using hlt
      have Hf := Lib.hid (Hb.out.symm.trans (riseN_iff0.2 fun i hi => Hall.out i hi (by have := Hn.out; omega)))
      go_wp2_with fail
      go_ret
      rw [Hf.out]
      exact ⟨rfl, m, rfl⟩

end Go.Proofs.Ytmcinaigkjfehaa
