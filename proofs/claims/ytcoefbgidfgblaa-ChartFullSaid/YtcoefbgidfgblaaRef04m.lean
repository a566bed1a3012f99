/-
  Contracts of the document's answers 04: Set, First (of a block's bytes).
-/
import Derived.Test.YtcoefbgidfgblaaRef04
import Derived.Test.YtcoefbgidfgblaaChart2
namespace Go.Proofs.Ytcoefbgidfgblaa
open Go.RowKit

set_option maxHeartbeats 1600000 in
theorem rset_any (A : Option Addr) (cap : Nat) (l : List UInt8) (hl : l.length = 256) (n : Int) (w : World) (hr : RB w A l) :
    Calls Try.prog 18 #[.slice A 256 cap, .int .i64 n] w fun e w' => ∃ v, e = .returned v ∧ OwnC w' w.heap.size 3 v (ivals (setI (bitAt l) (topN n))) ∧ Below w.heap.size w w' := by
  have HL := Lib.hid hl
  have hT := topN_le n
  have hN := topN_eq n
  generalize topN n = T at *
  clear hl
  rcases hN with ⟨hn, hTn⟩ | ⟨hn, hTn⟩
  all_goals
    have HT := Lib.hid hTn
    clear hTn
    go_enter Try.func18, Try.ntmps18
    go_wp2_with fail
    refine (bits_any A 256 cap l HL.out (by omega) _ hr).mono ?_; rintro e w1 ⟨v, rfl, hv, hb1⟩
    obtain ⟨Av, cv, rfl, hv1, hv2, hv3⟩ := hv.bools
    rw [bitsN_len] at hv1 ⊢
    have Hv3 := Lib.hid hv3
    have Hb1 := Lib.hid hb1
    clear hv hv3 hb1
    go_wp2_with fail
    go_loopw [5, 7] (fun u i wr => ∃ k : Nat, k ≤ T ∧ i = .int .i64 k ∧ OwnC wr w1.heap.size 3 u (ivals (setI (bitAt l) k)) ∧ Below w1.heap.size w1 wr) (fun _ i _ => T - (intOf i).toNat)
    case atStart => exact ⟨0, Nat.zero_le _, rfl, OwnC.nil_ _ _ _, Below.refl _ _⟩
    case round =>
      obtain ⟨k, hk, rfl, hu, hbw⟩ := hrel
      have Hu := Lib.hid hu
      have Hbw := Lib.hid hbw
      clear hu hbw
      by_cases hlt : k < T
      · have hkt : k < 2048 := by omega
        have d0 : decide ((k : Int) < n) = true := by have := HT.out; simp; omega
        have d1 : decide ((k : Int) < 2048) = true := by simp; omega
        have hk3 : (k : Int) < 2048 := by omega
        obtain ⟨ad, rfl, hc⟩ := (Hv3.out.below Hbw.out).bool k (by rw [bitsN_len]; omega)
        have Hbt := Lib.hid (bitsN_get l (8 * 256) k (by rw [bitsN_len]; omega))
        rw [Hbt.out] at hc
        cases hrb : bitAt l k
        · rw [hrb] at hc
          have Hnx := Lib.hid (setI_off _ _ hrb)
          clear hrb
          go_wp2_with fail
          go_roundw
          case rel => exact ⟨k + 1, by omega, by go_num, by rw [Hnx.out]; exact Hu.out, Hbw.out⟩
          case measure => simp [intOf]; omega
        · rw [hrb] at hc
          have Hnx := Lib.hid (setI_on _ _ hrb)
          have hlen := setN_len (bitAt l) k
          have hl1 : (ivals (setI (bitAt l) k)).length + 1 ≤ maxLen := by rw [ivals_len, setI_len]; unfold maxLen; omega
          have hl2 : ((ivals (setI (bitAt l) k)).length + 1) * 8 ≤ 140737488355328 := by rw [ivals_len, setI_len]; omega
          clear hrb
          go_wp2_with (at_builtin; refine wpList_append_one rfl _ _ _ _ rfl Try.underlying39 (.int .i64 0) 8 Try.intInfo rfl w1.heap.size _ _ rfl Hu.out (.int .i64 k) rfl rfl Hbw.out.size hl1 hl2 ?_)
          apply Stop.go
          intro v' w3 Hv' Ha'
          go_wp2_with fail
          go_roundw
          case rel => exact ⟨k + 1, by omega, by go_num, by rw [Hnx.out, ← ivals_snoc]; exact Hv'.out, Hbw.out.trans Ha'.out.below⟩
          case measure => simp [intOf]; omega
      · have HkT := Lib.hid (show k = T by omega)
        first
        | (have d0 : decide ((k : Int) < n) = false := by have := HT.out; simp; omega
           go_wp2_with fail
           go_ret
           rw [← HkT.out]
           exact ⟨_, rfl, Hu.out.low Hb1.out.size, bt Hb1.out Hbw.out⟩)
        | (have d0 : decide ((k : Int) < n) = true := by have := HT.out; simp; omega
           have d1 : decide ((k : Int) < 2048) = false := by have := HT.out; simp; omega
           go_wp2_with fail
           go_ret
           rw [← HkT.out]
           exact ⟨_, rfl, Hu.out.low Hb1.out.size, bt Hb1.out Hbw.out⟩)

set_option maxHeartbeats 1600000 in
theorem rfirst_any (A : Option Addr) (cap : Nat) (l : List UInt8) (hl : l.length = 256) (fr n : Int) (w : World) (hr : RB w A l) :
    Calls Try.prog 16 #[.slice A 256 cap, .int .i64 fr, .int .i64 n] w fun e w' =>
      e = .returned (.tuple #[.int .i64 ((firstO (bitAt l) fr (topN n)).getD 0 : Nat), .bool (firstO (bitAt l) fr (topN n)).isSome]) ∧ Below w.heap.size w w' := by
  have HL := Lib.hid hl
  have hT := topN_le n
  have hN := topN_eq n
  generalize topN n = T at *
  clear hl
  rcases hN with ⟨hn, hTn⟩ | ⟨hn, hTn⟩
  all_goals
    have HT := Lib.hid hTn
    clear hTn
    go_enter Try.func16, Try.ntmps16
    go_wp2_with fail
    refine (bits_any A 256 cap l HL.out (by omega) _ hr).mono ?_; rintro e w1 ⟨v, rfl, hv, hb1⟩
    obtain ⟨Av, cv, rfl, hv1, hv2, hv3⟩ := hv.bools
    rw [bitsN_len] at hv1 ⊢
    have Hv3 := Lib.hid hv3
    have Hb1 := Lib.hid hb1
    clear hv hv3 hb1
    go_wp2_with fail
    go_loop [9] (fun i => ∃ k : Nat, k ≤ T ∧ i = .int .i64 k ∧ (∀ j : Nat, fr ≤ j → j < k → bitAt l j = true)) (fun i => T - (intOf i).toNat)
    case atStart => exact ⟨0, Nat.zero_le _, rfl, fun j _ h => absurd h (Nat.not_lt_zero _)⟩
    case round =>
      obtain ⟨k, hk, rfl, hall⟩ := hrel
      have Hall := Lib.hid hall
      clear hall
      by_cases hlt : k < T
      · have hkt : k < 2048 := by omega
        have d0 : decide ((k : Int) < n) = true := by have := HT.out; simp; omega
        have d1 : decide ((k : Int) < 2048) = true := by simp; omega
        have hk3 : (k : Int) < 2048 := by omega
        by_cases hfk : fr ≤ k
        · have d2 : decide (fr ≤ (k : Int)) = true := by simpa using hfk
          obtain ⟨ad, rfl, hc⟩ := Hv3.out.bool k (by rw [bitsN_len]; omega)
          have Hbt := Lib.hid (bitsN_get l (8 * 256) k (by rw [bitsN_len]; omega))
          rw [Hbt.out] at hc
          cases hrb : bitAt l k
          · rw [hrb] at hc
            have Hr := Lib.hid (firstO_some _ fr T k hlt hfk hrb Hall.out)
            clear hrb
            go_wp2_with fail
            go_ret2
            rw [Hr.out]
            exact ⟨rfl, Hb1.out⟩
          · rw [hrb] at hc
            have Hr := Lib.hid hrb
            clear hrb
            go_wp2_with fail
            refine ⟨⟨k + 1, by omega, by go_num, fun j h1 h2 => ?_⟩, by simp [intOf]; omega⟩
            by_cases hjk : j = k
            · rw [hjk]; exact Hr.out
            · exact Hall.out j h1 (by omega)
        · have d2 : decide (fr ≤ (k : Int)) = false := by simpa using hfk
          go_wp2_with fail
          refine ⟨⟨k + 1, by omega, by go_num, fun j h1 h2 => ?_⟩, by simp [intOf]; omega⟩
          exact absurd (show fr ≤ (k : Int) by omega) hfk
      · have Hr := Lib.hid (firstO_none (bitAt l) fr T fun j h1 h2 => Hall.out j h1 (by omega))
        first
        | (have d0 : decide ((k : Int) < n) = false := by have := HT.out; simp; omega
           go_wp2_with fail
           go_ret2
           rw [Hr.out]
           exact ⟨rfl, Hb1.out⟩)
        | (have d0 : decide ((k : Int) < n) = true := by have := HT.out; simp; omega
           have d1 : decide ((k : Int) < 2048) = false := by have := HT.out; simp; omega
           go_wp2_with fail
           go_ret2
           rw [Hr.out]
           exact ⟨rfl, Hb1.out⟩)

end Go.Proofs.Ytcoefbgidfgblaa
