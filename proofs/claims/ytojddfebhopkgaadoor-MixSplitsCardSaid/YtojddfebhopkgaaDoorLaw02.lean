/-
  Layer 2: works, and the walks of MixTells, MixGoes, MixAlike.
-/
import Derived.Test.YtojddfebhopkgaaDoorMix
import Derived.Test.YtojddfebhopkgaaDoorRef02
namespace Go.Proofs.YtojddfebhopkgaaDoor
open Go.RowKit

theorem Tab32.below {w w' : World} (h : Tab32 w) (hb : Below w.heap.size w w') : Tab32 w' := fun j hj => by
  rw [hb.cell (block_lt_of_cell (h j hj)), h j hj]

theorem works02_of : hashN ⟨#[]⟩ = 2166136261 := rfl
theorem works02_low : lowN 13 (3 : Nat) = 5 := by decide
theorem works02_alike : alikeN 5 13 = 3 := by decide +kernel
theorem works02_bit : bitN 4 2 = true := by decide
set_option maxHeartbeats 400000 in
theorem works02_any (w : World) (hT : Tab32 w) : Calls Tryd.prog 8 #[] w fun e w' => e = .returned (.bool true) ∧ w = w' := by
  have a1 := works02_low
  have a2 := works02_alike
  have a3 := works02_bit
  go_enter Tryd.func8, Tryd.ntmps8
  go_wp2_with fail
  refine (of_any _ (by simp [ByteArray.size, maxLen]) _).mono ?_; rintro e wx ⟨rfl, rfl⟩
  rw [works02_of]
  go_wp2_with fail
  refine (low_any 13 (by omega) _ _).mono ?_; rintro e wx ⟨rfl, rfl⟩
  go_wp2_with fail
  refine (alike_any 5 13 (by omega) (by omega) _ hT).mono ?_; rintro e wx ⟨rfl, rfl⟩
  rw [works02_alike]
  go_wp2_with fail
  refine (bit_any 4 (by omega) _ _).mono ?_; rintro e wx ⟨rfl, rfl⟩
  rw [works02_bit]
  go_wp2_with fail
  go_ret
  exact ⟨rfl, rfl⟩

set_option maxHeartbeats 1000000 in
theorem mixTells_any (s : ByteArray) (hs : s.size ≤ maxLen) (a b : Nat) (ha : a < 4294967296) (hb : b < 4294967296) (n : Int) (w : World) (hT : Tab32 w) :
    Calls Tryd.prog 3 #[.string s, .agg #[.int .u32 a, .int .u32 b], .int .i64 n] w fun e w' => e = .returned (.bool true) ∧ Below w.heap.size w w' := by
  have HS := Lib.hid hs
  unfold maxLen at hs
  by_cases h4 : s.size ≤ 400
  · have d1 : decide ((400 : Int) < s.size) = false := by simp; omega
    go_enter Tryd.func3, Tryd.ntmps3
    go_wp2_with fail
    have B1 : Hid (Blk (w.alloc (.cells #[.int .u32 a, .int .u32 b] 23)) w.heap.size 23 #[.int .u32 a, .int .u32 b]) := Lib.hid (Blk.new _ _ _)
    have G1 := Lib.hid (Grew.alloc w (.cells #[.int .u32 a, .int .u32 b] 23))
    generalize w.alloc (.cells #[.int .u32 a, .int .u32 b] 23) = w1 at *
    have c0 : w1.cell? ⟨w.heap.size, 0, none⟩ = some (.int .u32 a) := B1.out.cell 0
    have c1 : w1.cell? ⟨w.heap.size, 1, none⟩ = some (.int .u32 b) := B1.out.cell 1
    go_quiet (fail)
    have D1 := Lib.hid (bdrew w1 nq)
    have c0 : (w1.drewN nq).cell? ⟨w.heap.size, 0, none⟩ = some (.int .u32 a) := c0
    have c1 : (w1.drewN nq).cell? ⟨w.heap.size, 1, none⟩ = some (.int .u32 b) := c1
    have hT2 := Lib.hid ((hT.below G1.out.1).below D1.out)
    have bel : Hid (Below w.heap.size w (w1.drewN nq)) := Lib.hid (bt G1.out.1 D1.out)
    generalize w1.drewN nq = w2 at *
    go_wp2_with fail
    refine (of_any s HS.out _).mono ?_; rintro e wx ⟨rfl, rfl⟩
    go_wp2_with fail
    refine (rof_any s HS.out _).mono ?_; rintro e wx ⟨rfl, rfl⟩
    have z1 := hashN_lt s
    generalize hashN s = X1 at *
    go_wp2_with fail
    refine (more_any a ha s HS.out _).mono ?_; rintro e wx ⟨rfl, rfl⟩
    have z2 := fnvs_lt a s.data.toList ha
    go_wp2_with fail
    refine (rmore_any a ha s HS.out _).mono ?_; rintro e wx ⟨rfl, rfl⟩
    generalize fnvs a s.data.toList = X2 at *
    go_wp2_with fail
    refine (low_any a ha n _).mono ?_; rintro e wx ⟨rfl, rfl⟩
    go_wp2_with fail
    refine (rlow_any a ha n _).mono ?_; rintro e wx ⟨rfl, rfl⟩
    have z3 := lowN_lt a n
    generalize lowN a n = X3 at *
    go_wp2_with fail
    refine (bit_any a ha n _).mono ?_; rintro e wx ⟨rfl, rfl⟩
    go_wp2_with fail
    refine (rbit_any a ha n _).mono ?_; rintro e wx ⟨rfl, rfl⟩
    generalize bitN a n = X4 at *
    have e4 : (X4 == X4) = true := by cases X4 <;> rfl
    go_wp2_with fail
    refine (alike_any a b ha hb _ hT2.out).mono ?_; rintro e wx ⟨rfl, rfl⟩
    go_wp2_with fail
    refine (ralike_any a b ha hb _).mono ?_; rintro e wx ⟨rfl, rfl⟩
    have z5 := alikeN_le a b ha hb
    generalize alikeN a b = X5 at *
    go_wp2_with fail
    refine (works02_any _ hT2.out).mono ?_; rintro e wx ⟨rfl, rfl⟩
    go_wp2_with fail
    go_ret
    exact ⟨rfl, bel.out⟩
  · have d1 : decide ((400 : Int) < s.size) = true := by simp; omega
    go_enter Tryd.func3, Tryd.ntmps3
    go_wp2_with fail
    have G1 := Lib.hid (Grew.alloc w (.cells #[.int .u32 a, .int .u32 b] 23))
    generalize w.alloc (.cells #[.int .u32 a, .int .u32 b] 23) = w1 at *
    refine (works02_any _ (hT.below G1.out.1)).mono ?_; rintro e wx ⟨rfl, rfl⟩
    go_wp2_with fail
    go_ret
    exact ⟨rfl, G1.out.1⟩

theorem hashN_append (s t : ByteArray) : hashN (s ++ t) = fnvs (hashN s) t.data.toList := by
  unfold hashN
  rw [← fnvs_append, ByteArray.data_append, Array.toList_append]
set_option maxHeartbeats 1000000 in
theorem mixGoes_any (s t : ByteArray) (hs : s.size ≤ maxLen) (ht : t.size ≤ maxLen) (w : World) (hT : Tab32 w) :
    Calls Tryd.prog 5 #[.string s, .string t] w fun e w' => e = .returned (.bool true) ∧ Below w.heap.size w w' := by
  have HS := Lib.hid hs
  have HT := Lib.hid ht
  unfold maxLen at hs ht
  by_cases h4 : s.size ≤ 400
  · have d1 : decide ((400 : Int) < s.size) = false := by simp; omega
    by_cases h5 : t.size ≤ 400
    · have d2 : decide ((400 : Int) < t.size) = false := by simp; omega
      have hst : (s ++ t).size ≤ maxLen := by rw [ByteArray.size_append]; unfold maxLen; omega
      have HST := Lib.hid hst
      have HAP := Lib.hid (hashN_append s t)
      clear hst
      go_enter Tryd.func5, Tryd.ntmps5
      go_wp2_with fail
      refine (of_any (s ++ t) HST.out _).mono ?_; rintro e wx ⟨rfl, rfl⟩
      rw [HAP.out]
      have z1 := hashN_lt s
      go_wp2_with fail
      refine (of_any s HS.out _).mono ?_; rintro e wx ⟨rfl, rfl⟩
      go_wp2_with fail
      refine (more_any _ z1 t HT.out _).mono ?_; rintro e wx ⟨rfl, rfl⟩
      generalize fnvs (hashN s) t.data.toList = X1 at *
      go_wp2_with fail
      refine (of_any s HS.out _).mono ?_; rintro e wx ⟨rfl, rfl⟩
      go_wp2_with fail
      refine (more_any _ z1 ⟨#[]⟩ (by simp [ByteArray.size, maxLen]) _).mono ?_; rintro e wx ⟨rfl, rfl⟩
      rw [fnvs_nil]
      go_wp2_with fail
      refine (of_any s HS.out _).mono ?_; rintro e wx ⟨rfl, rfl⟩
      go_wp2_with fail
      refine (works02_any _ hT).mono ?_; rintro e wx ⟨rfl, rfl⟩
      go_wp2_with fail
      go_ret
      exact ⟨rfl, Below.refl _ _⟩
    · have d2 : decide ((400 : Int) < t.size) = true := by simp; omega
      go_enter Tryd.func5, Tryd.ntmps5
      go_wp2_with fail
      refine (works02_any _ hT).mono ?_; rintro e wx ⟨rfl, rfl⟩
      go_wp2_with fail
      go_ret
      exact ⟨rfl, Below.refl _ _⟩
  · have d1 : decide ((400 : Int) < s.size) = true := by simp; omega
    go_enter Tryd.func5, Tryd.ntmps5
    go_wp2_with fail
    refine (works02_any _ hT).mono ?_; rintro e wx ⟨rfl, rfl⟩
    go_wp2_with fail
    go_ret
    exact ⟨rfl, Below.refl _ _⟩

set_option maxHeartbeats 1000000 in
theorem mixAlike_any (a b : Nat) (ha : a < 4294967296) (hb : b < 4294967296) (w : World) (hT : Tab32 w) :
    Calls Tryd.prog 6 #[.int .u32 a, .int .u32 b] w fun e w' => e = .returned (.bool true) ∧ Below w.heap.size w w' := by
  have z := alikeN_le a b ha hb
  have hall := alikeN_all a b ha hb
  have hnext := alikeN_next a b ha hb
  have hlow : ∀ k : Nat, k ≤ alikeN a b → lowN a k = lowN b k := fun k hk => (alikeN_low a b k ha hb (by omega)).2 hk
  have hc := alikeN_comm b a
  have Ha := Lib.hid (alike_any a b ha hb w hT)
  have Hb := Lib.hid (alike_any b a hb ha w hT)
  rw [hc] at Hb
  generalize alikeN a b = N at *
  have Hall := Lib.hid hall
  have Hnext := Lib.hid hnext
  have Hlow := Lib.hid hlow
  clear hall hnext hlow hc
  go_enter Tryd.func6, Tryd.ntmps6
  go_wp2_with fail
  refine (Ha.out).mono ?_; rintro e wx ⟨rfl, rfl⟩
  have d1 : decide ((N : Int) < 0) = false := by simp
  have d2 : decide ((32 : Int) < (N : Int)) = false := by simp; omega
  go_wp2_with fail
  refine (Hb.out).mono ?_; rintro e wx ⟨rfl, rfl⟩
  have d3 : ((N : Int) != (N : Int)) = false := by simp
  have d4 : (!(((N : Int) == 32) == ((a : Int) == (b : Int)))) = false := by
    have h := Hall.out
    by_cases hab : a = b
    · have e := h.2 hab
      have e1 : ((N : Int) == 32) = true := by simp; omega
      have e2 : ((a : Int) == (b : Int)) = true := by simp; omega
      rw [e1, e2]; rfl
    · have e : N ≠ 32 := fun e => hab (h.1 e)
      have e1 : ((N : Int) == 32) = false := by simp; omega
      have e2 : ((a : Int) == (b : Int)) = false := by simp; omega
      rw [e1, e2]; rfl
  go_wp2_with fail
  go_loop [6] (fun i => ∃ k : Nat, k ≤ N + 1 ∧ i = .int .i64 k) (fun i => N + 1 - (intOf i).toNat)
  case atStart => exact ⟨0, Nat.zero_le _, rfl⟩
  case round =>
    obtain ⟨k, hk, rfl⟩ := hrel
    by_cases hlt : k ≤ N
    · have d5 : decide ((k : Int) ≤ N) = true := by simp; omega
      go_wp2_with fail
      refine (low_any a ha _ _).mono ?_; rintro e wx ⟨rfl, rfl⟩
      go_wp2_with fail
      refine (low_any b hb _ _).mono ?_; rintro e wx ⟨rfl, rfl⟩
      have e := Hlow.out k hlt
      rw [← e]
      have d6 : (((lowN a k : Nat) : Int) != ((lowN a k : Nat) : Int)) = false := by simp
      clear e
      go_wp2_with fail
      go_round
      case rel => exact ⟨k + 1, by omega, by go_num⟩
      case measure => simp [intOf]; omega
    · have d5 : decide ((k : Int) ≤ N) = false := by simp; omega
      by_cases h32 : N = 32
      · have d6 : ((N : Int) == 32) = true := by simp; omega
        go_wp2_with fail
        refine (works02_any _ hT).mono ?_; rintro e wx ⟨rfl, rfl⟩
        go_wp2_with fail
        go_ret
        exact ⟨rfl, Below.refl _ _⟩
      · have d6 : ((N : Int) == 32) = false := by simp; omega
        have hne := Hnext.out h32
        go_wp2_with fail
        refine (bit_any a ha _ _).mono ?_; rintro e wx ⟨rfl, rfl⟩
        go_wp2_with fail
        refine (bit_any b hb _ _).mono ?_; rintro e wx ⟨rfl, rfl⟩
        have d7 : (!(bitN a N == bitN b N)) = true := by simpa using hne
        clear hne
        go_wp2_with fail
        refine (works02_any _ hT).mono ?_; rintro e wx ⟨rfl, rfl⟩
        go_wp2_with fail
        go_ret
        exact ⟨rfl, Below.refl _ _⟩

end Go.Proofs.YtojddfebhopkgaaDoor
