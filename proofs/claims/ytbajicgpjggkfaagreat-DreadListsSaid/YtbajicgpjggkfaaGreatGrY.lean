/-
  Texts of this claim joined: In9, Ints.
-/
import Derived.Test.YtbajicgpjggkfaaGreatGrC
import Derived.Test.YtbajicgpjggkfaaGreatChecked
import Derived.BigQuiet
import Derived.Deep.QuietTactic

/-
  The contract of the document's In: is a number in a list? Cut out of the texts on the document's answer 09.
-/
namespace Go.Proofs.YtbajicgpjggkfaaGreat
open Go.RowKit

set_option maxHeartbeats 800000 in
theorem rin9_any (A : Option Addr) (n cap : Nat) (l : List Int) (hn : l.length = n) (hm : n ≤ maxLen) (x : Int) (w : World) (hr : RC w A (ivals l)) :
    Calls Tryz.prog 93 #[.slice A n cap, .int .i64 x] w fun e w' => e = .returned (.bool (l.contains x)) ∧ w = w' := by
  unfold maxLen at hm
  have Hn := Lib.hid hn
  have Hr := Lib.hid hr
  obtain ⟨b, hb⟩ : ∃ b, l.contains x = b := ⟨_, rfl⟩
  rw [hb]
  have Hb := Lib.hid hb
  clear hn hr hb
  go_enter Tryz.func93, Tryz.ntmps93
  go_wp2_with fail
  go_loop [5] (fun i => ∃ k : Nat, k ≤ n ∧ i = .int .i64 k ∧ ∀ j (h : j < l.length), j < k → l[j] ≠ x) (fun i => n - (intOf i).toNat)
  case atStart => exact ⟨0, Nat.zero_le _, rfl, fun j _ h => absurd h (Nat.not_lt_zero _)⟩
  case round =>
    obtain ⟨k, hk, rfl, hno⟩ := hrel
    have Hno := Lib.hid hno
    clear hno
    by_cases hlt : k < n
    · have d1 : decide ((k : Int) < n) = true := by simpa using hlt
      have hkl : k < l.length := by rw [Hn.out]; exact hlt
      obtain ⟨ad, rfl, hc⟩ := Hr.out.int k hkl
      by_cases g1 : l[k] = x
      · have Ha := Lib.hid (show l.contains x = true by rw [← g1]; simp)
        have e1 : (l[k] == x) = true := by simpa using g1
        clear g1
        go_wp2_with fail
        go_ret
        rw [← Hb.out, Ha.out]
        exact ⟨rfl, rfl⟩
      · have e1 : (l[k] == x) = false := by simpa using g1
        have Ha := Lib.hid g1
        clear g1
        go_wp2_with fail
        refine ⟨⟨k + 1, by omega, by go_num, fun j hj hjk => ?_⟩, by simp [intOf]; omega⟩
        by_cases h : j = k
        · subst h
          exact Ha.out
        · exact Hno.out j hj (by omega)
    · have d1 : decide ((k : Int) < n) = false := by simpa using hlt
      have Ha := Lib.hid (show l.contains x = false by
        rw [Bool.eq_false_iff]
        intro h
        obtain ⟨j, hj, e⟩ := List.getElem_of_mem (List.contains_iff_mem.1 h)
        exact Hno.out j hj (by have := Hn.out; omega) e)
      go_wp2_with fail
      go_ret
      rw [← Hb.out, Ha.out]
      exact ⟨rfl, rfl⟩

end Go.Proofs.YtbajicgpjggkfaaGreat

/-
  The contract of the document's Ints: are two lists of numbers the same?
-/
namespace Go.Proofs.YtbajicgpjggkfaaGreat
open Go.RowKit

end Go.Proofs.YtbajicgpjggkfaaGreat
