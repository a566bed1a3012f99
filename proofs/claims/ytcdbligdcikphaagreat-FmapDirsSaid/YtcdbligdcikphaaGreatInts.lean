/-
  The contract of the document's Ints: are two lists of numbers the same?
-/
import Derived.Test.YtcdbligdcikphaaGreatGrC
import Derived.Test.YtcdbligdcikphaaGreatChecked
import Derived.BigQuiet
import Derived.Deep.QuietTactic
namespace Go.Proofs.YtcdbligdcikphaaGreat
open Go.RowKit

set_option maxHeartbeats 800000 in
theorem ints_any (A : Option Addr) (n cap : Nat) (l : List Int) (hn : l.length = n) (A' : Option Addr) (n' cap' : Nat) (l' : List Int) (hn' : l'.length = n') (hm : n ≤ maxLen) (hm' : n' ≤ maxLen) (w : World) (hr : RC w A (ivals l)) (hr' : RC w A' (ivals l')) :
    Calls Tryz.prog 11 #[.slice A n cap, .slice A' n' cap'] w (RetQ (.bool (decide (l = l'))) w) := by
  unfold maxLen at hm hm'
  have Hn := Lib.hid hn
  have Hn' := Lib.hid hn'
  by_cases hne : n = n'
  · subst hne
    clear hn hn'
    have hb : ((n : Int) != (n : Int)) = false := by simp
    go_enter Tryz.func11, Tryz.ntmps11
    go_wp2_with fail
    go_loopw [5] (fun i wr => ∃ k : Nat, k ≤ n ∧ i = .int .i64 k ∧ l.take k = l'.take k ∧ ∃ m, wr = w.drewN m) (fun i _ => n - (intOf i).toNat)
    case atStart => exact ⟨0, Nat.zero_le _, rfl, rfl, 0, rfl⟩
    case round =>
      obtain ⟨k, hk, rfl, heq, m, rfl⟩ := hrel
      have Heq := Lib.hid heq
      clear heq
      by_cases hlt : k < n
      · have hkl : k < l.length := by rw [Hn.out]; exact hlt
        have hkl' : k < l'.length := by rw [Hn'.out]; exact hlt
        obtain ⟨ad, rfl, hc⟩ := hr.int k hkl
        obtain ⟨ad', rfl, hc'⟩ := hr'.int k hkl'
        have Htk := Lib.hid (List.take_succ_eq_append_getElem hkl)
        have Htk' := Lib.hid (List.take_succ_eq_append_getElem hkl')
        have Hdif := Lib.hid (show l = l' → l[k] = l'[k] from fun h => by subst h; rfl)
        generalize l[k] = x at *
        generalize l'[k] = x' at *
        by_cases hx : x = x'
        · subst hx
          have hxb : (x != x) = false := by simp
          go_wp2_with fail
          go_quiet (fail)
          go_wp2_with fail
          go_roundw
          case rel =>
            refine ⟨k + 1, by omega, by go_num, by rw [Htk.out, Htk'.out, Heq.out], m + nq, ?_⟩
            first | rfl | simp only [World.drewN_drewN]
          case measure => simp [intOf]; omega
        · have hxb : (x != x') = true := by simpa using hx
          have Hx := Lib.hid hx
          clear hx
          go_wp2_with fail
          go_quiet (fail)
          go_wp2_with fail
          go_ret
          refine ⟨?_, m + nq, ?_⟩
          · rw [decide_eq_false (fun h => Hx.out (Hdif.out h))]; rfl
          · first | rfl | simp only [World.drewN_drewN]
      · go_wp2_with fail
        go_ret
        refine ⟨?_, m, rfl⟩
        have : l = l' := by
          have h := Heq.out
          rwa [List.take_of_length_le (by rw [Hn.out]; omega), List.take_of_length_le (by rw [Hn'.out]; omega)] at h
        rw [decide_eq_true this]; rfl
  · have hb : ((n : Int) != (n' : Int)) = true := by simp; omega
    clear hn hn'
    go_enter Tryz.func11, Tryz.ntmps11
    go_wp2_with fail
    go_ret
    refine ⟨?_, 0, rfl⟩
    rw [decide_eq_false (fun h => hne (by rw [← Hn.out, ← Hn'.out, h]))]; rfl

end Go.Proofs.YtcdbligdcikphaaGreat
