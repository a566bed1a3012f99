/-
  Contracts of the document's answers 02: the functions of lists of texts.
-/
import Derived.Test.YtfgkbjpiffaeeaaRef02
import Derived.Test.YtfgkbjpiffaeeaaStr
namespace Go.Proofs.Ytfgkbjpiffaeeaa
open Go.RowKit

set_option maxHeartbeats 400000 in
theorem rlong_any (A : Option Addr) (n cap : Nat) (l : List ByteArray) (hn : l.length = n) (hm : n ≤ maxLen) (hs : ∀ s ∈ l, s.size ≤ maxLen) (many size : Int) (w : World) (hr : RC w A (svals l)) :
    Calls Try.prog 14 #[.slice A n cap, .int .i64 many, .int .i64 size] w fun e w' => e = .returned (.bool (longB l many size)) ∧ w = w' := by
  unfold maxLen at hm
  have HR := Lib.hid (show longB l many size = (decide (many < (n : Int)) || l.any fun s => decide (size < s.size)) by unfold longB; rw [hn])
  have Hn := Lib.hid hn
  have Hs := Lib.hid hs
  clear hn hs
  by_cases h1 : many < (n : Int)
  · have d1 : decide (many < (n : Int)) = true := by simpa using h1
    go_enter Try.func14, Try.ntmps14
    go_wp2_with fail
    go_ret
    rw [HR.out, d1]
    exact ⟨rfl, rfl⟩
  · have d1 : decide (many < (n : Int)) = false := by simpa using h1
    rw [d1, Bool.false_or] at HR
    go_enter Try.func14, Try.ntmps14
    go_wp2_with fail
    go_loop [7] (fun i => ∃ k : Nat, k ≤ n ∧ i = .int .i64 k ∧ ∀ s ∈ l.take k, ¬ size < s.size) (fun i => n - (intOf i).toNat)
    case atStart => exact ⟨0, Nat.zero_le _, rfl, by simp⟩
    case round =>
      obtain ⟨k, hk, rfl, hall⟩ := hrel
      have Hall := Lib.hid hall
      clear hall
      by_cases hlt : k < n
      · have hkl : k < l.length := by rw [Hn.out]; exact hlt
        obtain ⟨ad, rfl, hc⟩ := hr.str k hkl
        have d0 : decide ((k : Int) < n) = true := by simpa using hlt
        have hz := Hs.out l[k] (List.getElem_mem hkl)
        unfold maxLen at hz
        by_cases hsz : size < l[k].size
        · have d2 : decide (size < (l[k].size : Int)) = true := by simpa using hsz
          have HT := Lib.hid (show (l.any fun s => decide (size < s.size)) = true from List.any_eq_true.2 ⟨l[k], List.getElem_mem hkl, d2⟩)
          clear hsz
          go_wp2_with fail
          go_ret
          rw [HR.out, HT.out]
          exact ⟨rfl, rfl⟩
        · have d2 : decide (size < (l[k].size : Int)) = false := by simpa using hsz
          have HX := Lib.hid hsz
          clear hsz
          go_wp2_with fail
          go_round
          case rel =>
            refine ⟨k + 1, by omega, by go_num, fun s h => ?_⟩
            rw [List.take_succ_eq_append_getElem hkl, List.mem_append] at h
            rcases h with h | h
            · exact Hall.out s h
            · simp at h
              subst h
              exact HX.out
          case measure => simp [intOf]; omega
      · have d0 : decide ((k : Int) < n) = false := by simpa using hlt
        have HF := Lib.hid (show (l.any fun s => decide (size < s.size)) = false by
          rw [List.any_eq_false]
          intro s h
          have := Hall.out s (by rw [List.take_of_length_le (by rw [Hn.out]; omega)]; exact h)
          simpa using this)
        go_wp2_with fail
        go_ret
        rw [HR.out, HF.out]
        exact ⟨rfl, rfl⟩

set_option maxHeartbeats 400000 in
theorem rtexts_any (A : Option Addr) (n cap : Nat) (l : List ByteArray) (hn : l.length = n) (A' : Option Addr) (n' cap' : Nat) (l' : List ByteArray) (hn' : l'.length = n') (hm : n ≤ maxLen) (hm' : n' ≤ maxLen) (w : World) (hr : RC w A (svals l)) (hr' : RC w A' (svals l')) :
    Calls Try.prog 20 #[.slice A n cap, .slice A' n' cap'] w (RetQ (.bool (decide (l = l'))) w) := by
  unfold maxLen at hm hm'
  have Hn := Lib.hid hn
  have Hn' := Lib.hid hn'
  by_cases hne : n = n'
  · subst hne
    clear hn hn'
    have hb : ((n : Int) != (n : Int)) = false := by simp
    go_enter Try.func20, Try.ntmps20
    go_wp2_with fail
    go_loopw [5] (fun i wr => ∃ k : Nat, k ≤ n ∧ i = .int .i64 k ∧ l.take k = l'.take k ∧ ∃ m, wr = w.drewN m) (fun i _ => n - (intOf i).toNat)
    case atStart => exact ⟨0, Nat.zero_le _, rfl, rfl, 0, rfl⟩
    case round =>
      obtain ⟨k, hk, rfl, heq, m, rfl⟩ := hrel
      have Heq := Lib.hid heq
      clear heq
      by_cases hlt : k < n
      · obtain ⟨ad, rfl, hc⟩ := hr.str k (by rw [Hn.out]; omega)
        obtain ⟨ad', rfl, hc'⟩ := hr'.str k (by rw [Hn'.out]; omega)
        have hbe := bytes_eq (l[k]'(by rw [Hn.out]; omega)) (l'[k]'(by rw [Hn'.out]; omega))
        by_cases hx : (l[k]'(by rw [Hn.out]; omega)) = (l'[k]'(by rw [Hn'.out]; omega))
        · rw [decide_eq_true hx] at hbe
          have Hx := Lib.hid hx
          clear hx
          go_wp2_with fail
          go_quiet (fail)
          go_wp2_with fail
          go_roundw
          case rel =>
            refine ⟨k + 1, by omega, by go_num, ?_, m + nq, ?_⟩
            · rw [List.take_succ_eq_append_getElem (by rw [Hn.out]; omega), List.take_succ_eq_append_getElem (by rw [Hn'.out]; omega), Heq.out, Hx.out]
            · first | rfl | simp only [World.drewN_drewN]
          case measure => simp [intOf]; omega
        · rw [decide_eq_false hx] at hbe
          have Hx := Lib.hid hx
          clear hx
          go_wp2_with fail
          go_quiet (fail)
          go_wp2_with fail
          go_ret
          refine ⟨?_, m + nq, ?_⟩
          · rw [decide_eq_false (fun h => Hx.out (by subst h; rfl))]; rfl
          · first | rfl | simp only [World.drewN_drewN]
      · go_wp2_with fail
        go_ret
        refine ⟨?_, m, rfl⟩
        have : l = l' := by
          have h := Heq.out
          rwa [List.take_of_length_le (by rw [Hn.out]; omega), List.take_of_length_le (by rw [Hn'.out]; omega)] at h
        rw [decide_eq_true this]; rfl
  · have hb : ((n : Int) != (n' : Int)) = true := by simp; omega
    clear hn hn'
    go_enter Try.func20, Try.ntmps20
    go_wp2_with fail
    go_ret
    refine ⟨?_, 0, rfl⟩
    rw [decide_eq_false (fun h => hne (by rw [← Hn.out, ← Hn'.out, h]))]; rfl


end Go.Proofs.Ytfgkbjpiffaeeaa
