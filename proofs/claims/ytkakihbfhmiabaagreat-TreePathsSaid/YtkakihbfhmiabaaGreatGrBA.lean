/-
  Texts of this claim joined: Same, Ref02.
-/
import Derived.Test.YtkakihbfhmiabaaGreatRows
import Derived.Test.YtkakihbfhmiabaaGreatGrAA
import Derived.BigQuiet
import Derived.Deep.QuietTactic
import Derived.Test.YtkakihbfhmiabaaGreatGrAB

/-
  The contract of the document's answer 01's Same. (It needs the seat's rows and Base alone.)
-/
namespace Go.Proofs.YtkakihbfhmiabaaGreat
open Go.RowKit

set_option maxHeartbeats 400000 in
theorem same_any (A : Option Addr) (n cap : Nat) (l : List UInt8) (hn : l.length = n) (A' : Option Addr) (n' cap' : Nat) (l' : List UInt8) (hn' : l'.length = n') (hm : n ≤ maxLen) (hm' : n' ≤ maxLen) (w : World) (hr : RB w A l) (hr' : RB w A' l') :
    Calls Tryz.prog 24 #[.slice A n cap, .slice A' n' cap'] w (RetQ (.bool (decide (l = l'))) w) := by
  unfold maxLen at hm hm'
  have Hn := Lib.hid hn
  have Hn' := Lib.hid hn'
  by_cases hne : n = n'
  · subst hne
    clear hn hn'
    have hb : ((n : Int) != (n : Int)) = false := by simp
    go_enter Tryz.func24, Tryz.ntmps24
    go_wp2_with fail
    go_loopw [4, 5] (fun r i wr => ∃ k : Nat, k ≤ n ∧ i = .int .i64 k ∧ r = .bool false ∧ l.take k = l'.take k ∧ ∃ m, wr = w.drewN m) (fun _ i _ => n - (intOf i).toNat)
    case atStart => exact ⟨0, Nat.zero_le _, rfl, rfl, rfl, 0, rfl⟩
    case round =>
      obtain ⟨k, hk, rfl, rfl, heq, m, rfl⟩ := hrel
      have Heq := Lib.hid heq
      clear heq
      by_cases hlt : k < n
      · obtain ⟨ad, rfl, hc⟩ := hr k (by rw [Hn.out]; omega)
        obtain ⟨ad', rfl, hc'⟩ := hr' k (by rw [Hn'.out]; omega)
        have hb1 := (l[k]'(by rw [Hn.out]; omega)).toNat_lt
        have hb1' := (l'[k]'(by rw [Hn'.out]; omega)).toNat_lt
        by_cases hx : (l[k]'(by rw [Hn.out]; omega)) = (l'[k]'(by rw [Hn'.out]; omega))
        · have hxb : (((l[k]'(by rw [Hn.out]; omega)).toNat : Int) != ((l'[k]'(by rw [Hn'.out]; omega)).toNat : Int)) = false := by rw [hx]; simp
          have Hx := Lib.hid hx
          clear hx
          go_wp2_with fail
          go_quiet (fail)
          go_wp2_with fail
          go_roundw
          case rel =>
            refine ⟨k + 1, by omega, by go_num, rfl, ?_, m + nq, ?_⟩
            · rw [List.take_succ_eq_append_getElem (by rw [Hn.out]; omega), List.take_succ_eq_append_getElem (by rw [Hn'.out]; omega), Heq.out, Hx.out]
            · first | rfl | simp only [World.drewN_drewN]
          case measure => simp [intOf]; omega
        · have hxb : (((l[k]'(by rw [Hn.out]; omega)).toNat : Int) != ((l'[k]'(by rw [Hn'.out]; omega)).toNat : Int)) = true := by
            simp; intro h; exact hx (UInt8.toNat_inj.1 (by omega))
          have Hx := Lib.hid hx
          clear hx
          go_wp2_with fail
          go_quiet (fail)
          go_wp2_with fail
          go_ret
          refine ⟨?_, m + nq, ?_⟩
          · rw [decide_eq_false (fun h => Hx.out (by subst h; rfl))]; rfl
          · first | rfl | simp only [World.drewN_drewN]
      · go_wp2_with fail
        go_ret
        refine ⟨?_, m, rfl⟩
        have : l = l' := by
          have h := Heq.out
          rwa [List.take_of_length_le (by rw [Hn.out]; omega), List.take_of_length_le (by rw [Hn'.out]; omega)] at h
        rw [decide_eq_true this]; rfl
  · have hb : ((n : Int) != (n' : Int)) = true := by simp; omega
    clear hn hn'
    go_enter Tryz.func24, Tryz.ntmps24
    go_wp2_with fail
    go_ret
    refine ⟨?_, 0, rfl⟩
    rw [decide_eq_false (fun h => hne (by rw [← Hn.out, ← Hn'.out, h]))]; rfl

end Go.Proofs.YtkakihbfhmiabaaGreat

/-
  Contracts of the document's answers 02: the functions of numbers and of one text.
-/
namespace Go.Proofs.YtkakihbfhmiabaaGreat
open Go.RowKit






end Go.Proofs.YtkakihbfhmiabaaGreat
