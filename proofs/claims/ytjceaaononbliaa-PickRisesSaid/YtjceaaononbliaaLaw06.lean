/-
  Walks of the laws of stage 6.
-/
import Derived.Test.YtjceaaononbliaaPick3
namespace Go.Proofs.Ytjceaaononbliaa
open Go.RowKit

theorem ratio00 : ratioW 0 0 = 9221120237041090560 := by unfold ratioW; rw [nought_by_nought]
theorem one_by_none : floatBits .quo .f64 (floatOfInt .f64 1) (floatOfInt .f64 0) = some 9218868437227405312 := by decide +kernel
theorem ratio10 : ratioW 1 0 = 9218868437227405312 := by unfold ratioW; rw [one_by_none]
theorem at_half : atZ 4 4602678819172646912 = 2 := by decide +kernel
theorem at_nan : atZ 3 9221120237041090560 = 0 := by decide +kernel
theorem at_inf : atZ 3 9218868437227405312 = 2 := by decide +kernel
theorem rank_three {f : Nat → Nat} (h : Ranked [9223372036854775808, 0, 9221120237041090560] 3 f) : f 0 = 1 ∧ f 1 = 0 ∧ f 2 = 2 := by
  have a0 : aheadN [9223372036854775808, 0, 9221120237041090560] 0 3 = 1 := by decide +kernel
  have a1 : aheadN [9223372036854775808, 0, 9221120237041090560] 1 3 = 0 := by decide +kernel
  have a2 : aheadN [9223372036854775808, 0, 9221120237041090560] 2 3 = 2 := by decide +kernel
  have key : ∀ p, p < 3 → (f p = 0 ∧ p = 1) ∨ (f p = 1 ∧ p = 0) ∨ (f p = 2 ∧ p = 2) := fun p hp => by
    have h1 := h.ahead hp
    have h2 := h.lt p hp
    have h3 : f p = 0 ∨ f p = 1 ∨ f p = 2 := by omega
    rcases h3 with h3 | h3 | h3
    · rw [h3, a0] at h1; exact Or.inl ⟨h3, h1.symm⟩
    · rw [h3, a1] at h1; exact Or.inr (Or.inl ⟨h3, h1.symm⟩)
    · rw [h3, a2] at h1; exact Or.inr (Or.inr ⟨h3, h1.symm⟩)
  have := key 0 (by omega)
  have := key 1 (by omega)
  have := key 2 (by omega)
  omega

set_option maxHeartbeats 4000000 in
theorem works06_any (w : World) : Calls Try.prog 11 #[] w fun e w' => e = .returned (.bool true) ∧ Below w.heap.size w w' := by
  have h00 := fun w => ratio_any 0 0 w
  have h10 := fun w => ratio_any 1 0 w
  have hA1 := fun w => at_any 4 4602678819172646912 (by decide) (by decide) (by decide) w
  have hA2 := fun w => at_any 3 9221120237041090560 (by decide) (by decide) (by decide) w
  have hA3 := fun w => at_any 3 9218868437227405312 (by decide) (by decide) (by decide) w
  rw [ratio00] at h00
  rw [ratio10] at h10
  rw [at_half] at hA1
  rw [at_nan] at hA2
  rw [at_inf] at hA3
  go_enter Try.func11, Try.ntmps11
  go_wp2_with fail
  refine (h00 _).mono ?_; rintro e w1 ⟨rfl, k1, rfl⟩
  go_wp2_with fail
  refine (h10 _).mono ?_; rintro e w2 ⟨rfl, k2, rfl⟩
  go_wp2_with fail
  refine (hA1 _).mono ?_; rintro e w3 ⟨rfl, h3⟩
  subst h3
  go_wp2_with fail
  refine (hA2 _).mono ?_; rintro e w4 ⟨rfl, h4⟩
  subst h4
  go_wp2_with fail
  refine (hA3 _).mono ?_; rintro e w5 ⟨rfl, h5⟩
  subst h5
  go_wp2_with fail
  refine (from_any _ _).mono ?_; rintro e w6 ⟨rfl, h6⟩
  subst h6
  go_wp2_with fail
  have Ha := Lib.hid (Grew.alloc (w.drewN (k1 + k2)) (.cells #[.float .f64 9223372036854775808, .float .f64 0, .float .f64 9221120237041090560] 22)).1
  have HR := Lib.hid (RC.of_blk (Blk.new (w.drewN (k1 + k2)) 22 #[.float .f64 9223372036854775808, .float .f64 0, .float .f64 9221120237041090560]) (fvals [9223372036854775808, 0, 9221120237041090560]) rfl)
  refine (rank_any _ 3 3 [9223372036854775808, 0, 9221120237041090560] rfl (by decide) (by decide) _ HR.out).mono ?_; rintro e w7 ⟨g, f, rfl, hg, hb, hf, hw⟩
  have HB := Lib.hid hb
  have Hw := Lib.hid (bt (bt (bdrew w _) Ha.out) hw)
  have HF := Lib.hid (rank_three hf)
  have Hg := Lib.hid hb.lt
  clear hg hb hf hw Ha HR
  have Hd := Lib.hid (Grew.alloc w7 (.cells #[.int .i64 1, .int .i64 0, .int .i64 2] 3)).1
  have HR2 := Lib.hid (RC.of_blk (Blk.new w7 3 #[.int .i64 1, .int .i64 0, .int .i64 2]) (ivals [1, 0, 2]) rfl)
  have HR1 := Lib.hid (RC.of_fc (HB.out.ext Hd.out))
  have HL : Hid (((List.range 3).map fun k => (f k : Int)) = [1, 0, 2]) := Lib.hid (by
    have h := HF.out
    simp [List.range, List.range.loop, h.1, h.2.1, h.2.2])
  rw [HL.out] at HR1
  clear HB HF Hg HL
  go_wp2_with fail
  refine (ints_any _ 3 3 _ rfl _ 3 3 _ rfl (by decide) (by decide) _ HR1.out HR2.out).mono ?_; rintro e w8 ⟨rfl, k8, rfl⟩
  rw [decide_eq_true rfl]
  have Hw8 := Lib.hid (bt (bt Hw.out Hd.out) (bdrew _ k8))
  clear HR1 HR2
  generalize World.drewN _ k8 = w9 at *
  go_wp2_with fail
  go_ret
  exact ⟨rfl, Hw8.out⟩

/-! ### The laws -/
theorem pickAt_any (n : Int) (x : Nat) (hn1 : -9223372036854775808 ≤ n) (hn2 : n < 9223372036854775808) (hx : x < 18446744073709551616) (w : World) :
    Calls Try.prog 3 #[.int .i64 n, .float .f64 x] w fun e w' => e = .returned (.bool true) ∧ Below w.heap.size w w' := by
  have hA := fun w => at_any n x hn1 hn2 hx w
  have rA := fun w => rat_any n x hn1 hn2 hx w
  generalize atZ n x = z at *
  have b1 : (z == z) = true := by simp
  go_enter Try.func3, Try.ntmps3
  go_wp2_with fail
  refine (hA _).mono ?_; rintro e w1 ⟨rfl, h1⟩
  subst h1
  go_wp2_with fail
  refine (rA _).mono ?_; rintro e w2 ⟨rfl, k2, rfl⟩
  go_wp2_with fail
  refine (works06_any _).mono ?_; rintro e w3 ⟨rfl, h3⟩
  go_wp2_with fail
  go_ret
  exact ⟨rfl, bt (bdrew _ _) h3⟩

theorem pickWorth_any (full most : Int) (b : Nat) (hb : b < 18446744073709551616) (w : World) :
    Calls Try.prog 5 #[.int .i64 full, .int .i64 most, .int .u64 b] w fun e w' => e = .returned (.bool true) ∧ Below w.heap.size w w' := by
  have hA := fun w => worth_any full most b hb w
  have rA := fun w => rworth_any full most b hb w
  generalize worthB full most b = z at *
  go_enter Try.func5, Try.ntmps5
  go_wp2_with fail
  refine (hA _).mono ?_; rintro e w1 ⟨rfl, k1, rfl⟩
  go_wp2_with fail
  refine (rA _).mono ?_; rintro e w2 ⟨rfl, k2, rfl⟩
  cases z
  all_goals
    go_wp2_with fail
    refine (works06_any _).mono ?_; rintro e w3 ⟨rfl, h3⟩
    go_wp2_with fail
    go_ret
    exact ⟨rfl, bt (bdrew _ _) h3⟩

theorem atZ_range (m : Int) (x : Nat) (h : 1 ≤ m) : 0 ≤ atZ m x ∧ atZ m x < m := by
  unfold atZ
  have := Int.natCast_nonneg (wholeW (mulW x (floatOfInt .f64 m)))
  generalize ((wholeW (mulW x (floatOfInt .f64 m)) : Nat) : Int) = W at *
  (repeat' split) <;> omega
theorem key_small {x : Nat} (hx : x < 18446744073709551616) (h0 : 0 < keyN x) (h1 : keyN x < 4607182418800017408) : keyN x = x := by
  have h := kind_cases x hx
  have k := key_cases x hx
  exact key_pos x (by omega)
theorem atZ_mono (m : Int) (x y : Nat) (hm : 1 ≤ m) (hx : x < 18446744073709551616) (hy : y < 18446744073709551616) (h : keyN x ≤ keyN y) : atZ m x ≤ atZ m y := by
  have r1 := atZ_range m x hm
  have r2 := atZ_range m y hm
  by_cases h1 : keyN x ≤ 0
  · have e : atZ m x = 0 := by unfold atZ; rw [if_neg (by omega), if_pos h1]
    omega
  · by_cases h2 : 4607182418800017408 ≤ keyN y
    · have e : atZ m y = m - 1 := by unfold atZ; rw [if_neg (by omega), if_neg (by omega), if_pos h2]
      omega
    · have k1 := key_small hx (by omega) (by omega)
      have k2 := key_small hy (by omega) (by omega)
      have hw := wholeW_mono (mulW_mono (show x ≤ y by omega) (Nat.le_refl (floatOfInt .f64 m)))
      clear r1 r2
      unfold atZ
      generalize wholeW (mulW x (floatOfInt .f64 m)) = W at *
      generalize wholeW (mulW y (floatOfInt .f64 m)) = V at *
      (repeat' split) <;> omega
set_option maxHeartbeats 4000000 in
theorem pickRises_any (n : Nat) (x y : Nat) (hn : n < 65536) (hx : x < 18446744073709551616) (hy : y < 18446744073709551616) (w : World) :
    Calls Try.prog 6 #[.int .u16 n, .float .f64 x, .float .f64 y] w fun e w' => e = .returned (.bool true) ∧ Below w.heap.size w w' := by
  obtain ⟨m, hm⟩ : ∃ m : Nat, m = n + 1 := ⟨_, rfl⟩
  have q0 : IntKind.i64.wrap (n : Int) = n := by rw [IntKind.wrap_i64]; omega
  have q1 : IntKind.i64.wrap (1 + (n : Int)) = m := by rw [IntKind.wrap_i64]; omega
  have hX := fun w => at_any m x (by omega) (by omega) hx w
  have hY := fun w => at_any m y (by omega) (by omega) hy w
  have hO := fun w => order_any x y hx hy w
  have hP := fun w => order_any y x hy hx w
  have rx := atZ_range m x (by omega)
  have ry := atZ_range m y (by omega)
  have mx := atZ_mono m x y (by omega) hx hy
  have my := atZ_mono m y x (by omega) hy hx
  have o1 := ordN_pos x y
  have o2 := ordN_pos y x
  generalize atZ m x = i at *
  generalize atZ m y = k at *
  generalize ordN x y = c at *
  generalize ordN y x = d at *
  have d1 : decide (i < 0) = false := by simp; omega
  have d2 : decide ((m : Int) ≤ i) = false := by simp; omega
  have d3 : decide (k < 0) = false := by simp; omega
  have d4 : decide ((m : Int) ≤ k) = false := by simp; omega
  have hcase : (decide (0 < c) = true ∧ decide (0 < d) = true) ∨ (decide (0 < c) = true ∧ decide (0 < d) = false ∧ decide (k ≤ i) = true) ∨ (decide (0 < c) = false ∧ decide (i ≤ k) = true ∧ decide (0 < d) = true) ∨
      (decide (0 < c) = false ∧ decide (i ≤ k) = true ∧ decide (0 < d) = false ∧ decide (k ≤ i) = true) := by
    rcases Int.lt_trichotomy (keyN x) (keyN y) with h | h | h
    · rw [o1, o2]
      exact Or.inr (Or.inr (Or.inl ⟨by simp; omega, by simp; omega, by simp; omega⟩))
    · rw [o1, o2]
      exact Or.inr (Or.inr (Or.inr ⟨by simp; omega, by simp; omega, by simp; omega, by simp; omega⟩))
    · rw [o1, o2]
      exact Or.inr (Or.inl ⟨by simp; omega, by simp; omega, by simp; omega⟩)
  clear rx ry mx my o1 o2 hm hn
  rcases hcase with ⟨e1, e2⟩ | ⟨e1, e2, e3⟩ | ⟨e1, e2, e3⟩ | ⟨e1, e2, e3, e4⟩
  all_goals
    go_enter Try.func6, Try.ntmps6
    go_wp2_with fail
    refine (hX _).mono ?_; rintro e w1 ⟨rfl, h1⟩
    subst h1
    go_wp2_with fail
    refine (hY _).mono ?_; rintro e w2 ⟨rfl, h2⟩
    subst h2
    go_wp2_with fail
    refine (hO _).mono ?_; rintro e w3 ⟨rfl, h3⟩
    subst h3
    go_wp2_with fail
    refine (hP _).mono ?_; rintro e w4 ⟨rfl, h4⟩
    subst h4
    go_wp2_with fail
    refine (works06_any _).mono ?_; rintro e w5 ⟨rfl, h5⟩
    go_wp2_with fail
    go_ret
    exact ⟨rfl, h5⟩

set_option maxHeartbeats 4000000 in
theorem pickRanks_any (m : Int) (hm1 : -9223372036854775808 ≤ m) (hm2 : m < 9223372036854775808) (A : Option Addr) (n cap : Nat) (l : List Nat) (hn : l.length = n) (hm : n ≤ maxLen) (hl : ∀ x ∈ l, x < 18446744073709551616) (w : World) (hr : RC w A (fvals l)) :
    Calls Try.prog 4 #[.int .i64 m, .slice A n cap] w fun e w' => e = .returned (.bool true) ∧ Below w.heap.size w w' := by
  unfold maxLen at hm
  by_cases h60 : 60 < n
  · have d0 : decide (60 < (n : Int)) = true := by simp; omega
    clear h60 hr hl hn
    go_enter Try.func4, Try.ntmps4
    go_wp2_with fail
    refine (works06_any _).mono ?_; rintro e w5 ⟨rfl, h5⟩
    go_wp2_with fail
    go_ret
    exact ⟨rfl, h5⟩
  · have d0 : decide (60 < (n : Int)) = false := by simp; omega
    have d1 : ((n : Int) != n) = false := by simp
    have Hn := Lib.hid hn
    have Hm := Lib.hid (show n ≤ 60 by omega)
    have Hl := Lib.hid hl
    have Hr := Lib.hid hr
    clear hn hm hl hr h60
    go_enter Try.func4, Try.ntmps4
    go_wp2_with fail
    refine (spread_any m hm1 hm2 A n cap l Hn.out (by have := Hm.out; omega) Hl.out _ Hr.out).mono ?_; rintro e w1 ⟨g1, rfl, h1, h2, h3⟩
    have Hb1 := Lib.hid h2
    have Hw1 := Lib.hid h3
    clear h1 h2 h3
    go_wp2_with fail
    go_loopw [6] (fun u wr => ∃ k q : Nat, k ≤ n ∧ u = .int .i64 k ∧ wr = w1.drewN q) (fun u _ => n - (intOf u).toNat)
    case atStart => exact ⟨0, 0, Nat.zero_le _, rfl, rfl⟩
    case round =>
      obtain ⟨k, q, hk, rfl, hwr⟩ := hrel
      have Hk := Lib.hid hk
      have Hwr := Lib.hid hwr
      clear hk hwr
      by_cases hlt : k < n
      · have d2 : decide (k < n) = true := by simpa using hlt
        have hkl : k < l.length := by rw [Hn.out]; exact hlt
        obtain ⟨k', hk'⟩ : ∃ k', k' = k + 1 := ⟨_, rfl⟩
        have q1 : IntKind.i64.wrap ((k : Int) + 1) = k' := by have := Hm.out; rw [IntKind.wrap_i64]; omega
        have HK := Lib.hid (show k' = k + 1 ∧ k < n from ⟨hk', hlt⟩)
        have z1 : (k : Int) < n := by omega
        have hbw : Below w.heap.size w wr := by rw [Hwr.out]; exact bt Hw1.out (bdrew _ _)
        obtain ⟨ad, rfl, hc⟩ := (Hr.out.below hbw).flt k hkl
        have Hx := Lib.hid (Hl.out _ (List.getElem_mem hkl))
        have He : Hid (fAt l k = l[k]) := Lib.hid (by simp [fAt, List.getD, hkl])
        have hc1 : wr.cell? ⟨g1, k, none⟩ = some (.int .i64 (atZ m (fAt l k))) := by
          rw [Hwr.out]
          show w1.cell? _ = _
          rw [Hb1.out.cell, zc_get _ hlt]
        rw [He.out] at hc1
        generalize l[k] = x at *
        have HO : Hid (∀ W, Calls Try.prog 10 #[.int .i64 m, .float .f64 x] W (RetQ (.int .i64 (atZ m x)) W)) := Lib.hid fun W => rat_any m x hm1 hm2 Hx.out W
        generalize atZ m x = y at *
        have hy : (y != y) = false := by simp
        clear hlt hk' hbw
        go_wp2_with fail
        go_quiet ((go_at_call 10; exact Calls.quiet_of (HO.out _)))
        go_wp2_with fail
        go_roundw
        case rel => exact ⟨k', q + nq, by have := HK.out; omega, rfl, by rw [Hwr.out, World.drewN_drewN]⟩
        case measure => have := HK.out; simp [intOf]; omega
      · have d2 : decide (k < n) = false := by simpa using hlt
        have Hbw : Hid (Below w.heap.size w wr) := Lib.hid (by rw [Hwr.out]; exact bt Hw1.out (bdrew _ _))
        clear hlt
        go_wp2_with fail
        refine (rank_any A n cap l Hn.out (by have := Hm.out; omega) Hl.out _ (Hr.out.below Hbw.out)).mono ?_; rintro e w2 ⟨g2, f, rfl, h1, h2, hf, h3⟩
        have Hb2 := Lib.hid h2
        have Hw2 := Lib.hid (bt Hbw.out h3)
        have Hf := Lib.hid hf
        clear h1 h2 h3 hf
        go_wp2_with fail
        refine (rrank_any A n cap l Hn.out (by have := Hm.out; omega) Hl.out f Hf.out _ (Hr.out.below Hw2.out)).mono ?_; rintro e w3 ⟨g3, rfl, h1, h2, h3⟩
        have HR2 := Lib.hid (RC.of_fc (Hb2.out.ext h3))
        have HR3 := Lib.hid (RC.of_fc h2)
        have Hw3 := Lib.hid (bt Hw2.out h3)
        clear h1 h2 h3
        go_wp2_with fail
        refine (ints_any _ n n _ (by simp) _ n n _ (by simp) (by have := Hm.out; unfold maxLen; omega) (by have := Hm.out; unfold maxLen; omega) _ HR2.out HR3.out).mono ?_; rintro e w4 ⟨rfl, k4, rfl⟩
        rw [decide_eq_true rfl]
        go_wp2_with fail
        refine (works06_any _).mono ?_; rintro e w5 ⟨rfl, h5⟩
        go_wp2_with fail
        go_ret
        exact ⟨rfl, bt Hw3.out (bt (bdrew _ _) h5)⟩

theorem Only.drewN {a b : World} {g : Nat} (h : Only a b g) (k : Nat) : Only a (b.drewN k) g := ⟨h.os, h.tape, h.output, h.size, h.block⟩
/-- Bools by their places, as cells. -/
def bc (n : Nat) (s : Nat → Bool) : Array Value := ((List.range n).map fun k => Value.bool (s k)).toArray
theorem bc_size (n : Nat) (s : Nat → Bool) : (bc n s).size = n := by simp [bc]
theorem bc_get {n k : Nat} (s : Nat → Bool) (h : k < n) : (bc n s)[k]? = some (.bool (s k)) := by simp [bc, h]
theorem bc_zero (n : Nat) : (List.replicate n (Value.bool false)).toArray = bc n (fun _ => false) := by
  apply Array.ext_getElem?
  intro i
  by_cases hi : i < n
  · rw [bc_get _ hi]; simp [hi]
  · rw [Array.getElem?_eq_none (by simp; omega), Array.getElem?_eq_none (by rw [bc_size]; omega)]
theorem bc_set (n : Nat) (s : Nat → Bool) (k : Nat) (b : Bool) : (bc n s).setIfInBounds k (.bool b) = bc n (fun i => if i = k then b else s i) := by
  apply Array.ext_getElem?
  intro i
  rw [Array.getElem?_setIfInBounds, bc_size]
  by_cases hi : i < n
  · rw [bc_get _ hi, bc_get _ hi]
    by_cases h : k = i
    · subst h; rw [if_pos rfl, if_pos hi]; simp
    · rw [if_neg h, if_neg (fun e => h e.symm)]
  · rw [Array.getElem?_eq_none (by rw [bc_size]; omega), Array.getElem?_eq_none (by rw [bc_size]; omega)]
    by_cases h : k = i
    · rw [if_pos h, if_neg (by omega)]
    · rw [if_neg h]
theorem Try.infoBool : (Try.prog.info? 4).map (fun i => (i.zero, i.size, i.bytes)) = some (some (.bool false), 1, 1) := by kernel_rfl
theorem Try.sizeBool : (Try.prog.info? 4).map (·.size) = some 1 := by kernel_rfl

set_option maxHeartbeats 8000000 in
theorem pickOnce_any (A : Option Addr) (n cap : Nat) (l : List Nat) (hn : l.length = n) (hm : n ≤ maxLen) (hl : ∀ x ∈ l, x < 18446744073709551616) (w : World) (hr : RC w A (fvals l)) :
    Calls Try.prog 7 #[.slice A n cap] w fun e w' => e = .returned (.bool true) ∧ Below w.heap.size w w' := by
  unfold maxLen at hm
  by_cases h60 : 60 < n
  · have d0 : decide (60 < (n : Int)) = true := by simp; omega
    clear h60 hr hl hn
    go_enter Try.func7, Try.ntmps7
    go_wp2_with fail
    refine (works06_any _).mono ?_; rintro e w5 ⟨rfl, h5⟩
    go_wp2_with fail
    go_ret
    exact ⟨rfl, h5⟩
  · have d0 : decide (60 < (n : Int)) = false := by simp; omega
    have d1 : ((n : Int) != n) = false := by simp
    have Hn := Lib.hid hn
    have Hm := Lib.hid (show n ≤ 60 by omega)
    have Hl := Lib.hid hl
    have Hr := Lib.hid hr
    clear hn hm hl hr h60
    go_enter Try.func7, Try.ntmps7
    go_wp2_with fail
    refine (rank_any A n cap l Hn.out (by have := Hm.out; omega) Hl.out _ Hr.out).mono ?_; rintro e w1 ⟨g, f, rfl, h1, h2, hf, h3⟩
    have Hb1 := Lib.hid h2
    have Hw1 := Lib.hid h3
    have Hf := Lib.hid hf
    have Hgl := Lib.hid h2.lt
    clear h1 h2 h3 hf
    go_wp2_with (refine wpList_make_zero rfl _ _ _ _ rfl Try.underlying37 (.bool false) 1 Try.infoBool rfl .i64 .i64 _ _ n rfl rfl rfl rfl (by have := Hm.out; omega) (by have := Hm.out; omega) (bc n (fun _ => false)) (bc_zero n) ?_)
    apply Stop.go; intro w2 Hg2 Hb2
    generalize hgs : w1.heap.size = gs at *
    have Hgs := Lib.hid hgs
    clear hgs
    go_wp2_with fail
    go_loopw [5] (fun u wr => ∃ (k : Nat) (s : Nat → Bool), k ≤ n ∧ u = .int .i64 k ∧ (∀ j, s j = true → ∃ p, p < k ∧ f p = j) ∧ Only w2 wr gs ∧ Blk wr gs 4 (bc n s)) (fun u _ => n - (intOf u).toNat)
    case atStart => exact ⟨0, fun _ => false, Nat.zero_le _, rfl, fun j h => by simp at h, Only.refl _ _, Hb2.out⟩
    case round =>
      obtain ⟨k, s, hk, rfl, hs, ho, hbs⟩ := hrel
      have Hk := Lib.hid hk
      have Hs := Lib.hid hs
      have Ho := Lib.hid ho
      have Hbs := Lib.hid hbs
      clear hk hs ho hbs
      have HBw := Lib.hid (bt Hw1.out (bonly Hg2.out.1 Ho.out (by rw [Hgs.out]; exact Nat.le_refl _)))
      by_cases hlt : k < n
      · have d2 : decide (k < n) = true := by simpa using hlt
        obtain ⟨k', hk'⟩ : ∃ k', k' = k + 1 := ⟨_, rfl⟩
        have q1 : IntKind.i64.wrap ((k : Int) + 1) = k' := by have := Hm.out; rw [IntKind.wrap_i64]; omega
        have HK := Lib.hid (show k' = k + 1 ∧ k < n from ⟨hk', hlt⟩)
        have z1 : (k : Int) < n := by omega
        have hbk : Blk wr g 3 (fc n f) := (Hb1.out.ext Hg2.out.1).only Ho.out (by have := Hgl.out; have := Hgs.out; omega)
        have Hbk := Lib.hid hbk
        have hfk := Hf.out.lt k hlt
        have c1 : wr.cell? ⟨g, k, none⟩ = some (.int .i64 (f k : Int)) := by rw [hbk.cell, fc_get f hlt]
        have hsx : s (f k) = false := by
          rw [Bool.eq_false_iff]
          intro h
          obtain ⟨p, hp, e⟩ := Hs.out _ h
          exact Hf.out.inj hp hlt e
        have c2 : wr.cell? ⟨gs, f k, none⟩ = some (.bool false) := by rw [Hbs.out.cell, bc_get s hfk, hsx]
        obtain ⟨x, hx⟩ : ∃ x, x = f k := ⟨_, rfl⟩
        rw [← hx] at c1 c2 hfk
        have Hx := Lib.hid hx
        have HxL := Lib.hid hfk
        have d3 : decide ((x : Int) < 0) = false := decide_eq_false (by omega)
        have d4 : decide (n ≤ x) = false := by simp; omega
        have z2 : (x : Int) < n := by omega
        clear hlt hk' hbk hsx hx hfk
        go_wp2_with (refine wpList_store_cell rfl _ _ _ rfl Try.sizeBool gs x rfl (.bool true) rfl rfl rfl _ _ Hbs.out (by rw [bc_size]; exact HxL.out) ?_)
        apply Stop.go; intro w4 Ho4 Hb4
        have HO4 := Lib.hid (Ho.out.trans Ho4.out)
        have HBw4 := Lib.hid (bt Hw1.out (bonly Hg2.out.1 HO4.out (by rw [Hgs.out]; exact Nat.le_refl _)))
        have hbk4 := Hbk.out.only Ho4.out (by have := Hgl.out; have := Hgs.out; omega)
        have hk4 : w4.cell? ⟨g, k, none⟩ = some (.int .i64 x) := by rw [hbk4.cell, fc_get f HK.out.2, Hx.out]
        have HN : Hid (Blk w4 gs 4 (bc n fun i => if i = x then true else s i)) := Lib.hid (by
          have h := Hb4.out
          rw [bc_set] at h
          exact h)
        have HS4 : Hid (∀ j, (if j = x then true else s j) = true → ∃ p, p < k' ∧ f p = j) := Lib.hid (fun j h => by
          by_cases hj : j = x
          · exact ⟨k, by have := HK.out; omega, by rw [hj, Hx.out]⟩
          · rw [if_neg hj] at h
            obtain ⟨p, hp, e⟩ := Hs.out j h
            exact ⟨p, by have := HK.out; omega, e⟩)
        have HR4 := Lib.hid (Hr.out.below HBw4.out)
        by_cases hk0 : k = 0
        · have d5 : decide (0 < (k : Int)) = false := by simp; omega
          have d5' : decide (0 < k) = false := by simp; omega
          clear hbk4 hk4 hk0
          go_wp2_with fail
          go_quiet (fail)
          go_wp2_with fail
          go_roundw
          case rel => exact ⟨k', _, by have := HK.out; omega, rfl, HS4.out, HO4.out.drewN nq, HN.out⟩
          case measure => have := HK.out; simp [intOf]; omega
        · have d5 : decide (0 < (k : Int)) = true := by simp; omega
          have d5' : decide (0 < k) = true := by simp; omega
          obtain ⟨p, hp⟩ : ∃ p, k = p + 1 := ⟨k - 1, by omega⟩
          have q3 : IntKind.i64.wrap ((k : Int) - 1) = p := by have := HK.out; have := Hm.out; rw [IntKind.wrap_i64]; omega
          have HP := Lib.hid (show k = p + 1 ∧ p < n by have := HK.out; omega)
          have z3 : (p : Int) < n := by have := HP.out; omega
          have hp4 : w4.cell? ⟨g, p, none⟩ = some (.int .i64 (f p : Int)) := by rw [hbk4.cell, fc_get f HP.out.2]
          have hfp := Hf.out.lt p HP.out.2
          have hfall := Hf.out.falls (i := p) (by have := HP.out; have := HK.out; omega)
          rw [← hp, ← Hx.out] at hfall
          generalize f p = y at *
          have z4 : (y : Int) < n := by omega
          have hxl : x < l.length := by rw [Hn.out]; exact HxL.out
          have hyl : y < l.length := by rw [Hn.out]; exact hfp
          rw [keyAt_get hxl, keyAt_get hyl] at hfall
          obtain ⟨ad, rfl, hc⟩ := HR4.out.flt x hxl
          obtain ⟨ad', e', hc'⟩ := HR4.out.flt y hyl
          obtain rfl : ad = ad' := by simpa using e'
          have Hu := Lib.hid (Hl.out _ (List.getElem_mem hxl))
          have Hv := Lib.hid (Hl.out _ (List.getElem_mem hyl))
          generalize l[x] = u at *
          generalize l[y] = v at *
          have hneg : decide (ordN v u < 0) = false := by rw [ordN_neg]; exact decide_eq_false (by omega)
          have HOr : Hid (∀ W, Calls Try.prog 18 #[.float .f64 v, .float .f64 u] W fun e w' => e = .returned (.int .i64 (ordN v u)) ∧ w' = W) := Lib.hid fun W => order_any v u Hv.out Hu.out W
          generalize ordN v u = c at *
          clear hbk4 hk0 hp e' hfall hfp hxl hyl
          go_wp2_with fail
          go_quiet ((go_at_call 18; exact Calls.quiet_of_same (HOr.out _)))
          go_wp2_with fail
          go_roundw
          case rel => exact ⟨k', _, by have := HK.out; omega, rfl, HS4.out, HO4.out.drewN nq, HN.out⟩
          case measure => have := HK.out; simp [intOf]; omega
      · have d2 : decide (k < n) = false := by simpa using hlt
        clear hlt
        go_wp2_with fail
        refine (works06_any _).mono ?_; rintro e w5 ⟨rfl, h5⟩
        go_wp2_with fail
        go_ret
        exact ⟨rfl, bt HBw.out h5⟩

theorem fewer_le : ∀ (d k : Nat), k + d ≤ 255 → keyN (ratioW (k : Nat) 14) ≤ keyN (ratioW ((k + d : Nat) : Int) 14) := fun d => by
  induction d with
  | zero => intro k _; exact Int.le_refl _
  | succ d ih =>
    intro k h
    exact Int.le_trans (ih k (by omega)) (fewer_step ⟨k + d, by omega⟩)
theorem fewer_facts {p q a b : Nat} (hpq : p ≤ q) (hq : q < 256) (ha : a < 18446744073709551616) :
    (worthB q 14 a = true → worthB p 14 a = true) ∧ (kindN a ≠ 0 → ordN a b ≤ 0 → worthB p 14 a = true → worthB p 14 b = true) ∧ (kindN a = 0 → worthB p 14 a = false) := by
  unfold worthB
  refine ⟨fun h => ?_, fun _ ho h => ?_, fun h => ?_⟩
  · simp only [Bool.and_eq_true, decide_eq_true_eq] at h ⊢
    have h1 := fewer_le (q - p) p (by omega)
    rw [show p + (q - p) = q by omega] at h1
    exact ⟨h.1, by omega⟩
  · simp only [Bool.and_eq_true, decide_eq_true_eq] at h ⊢
    have h1 : keyN a ≤ keyN b := by
      have h2 := ordN_nonpos a b
      rw [decide_eq_true ho] at h2
      exact of_decide_eq_true h2.symm
    refine ⟨?_, by omega⟩
    cases hn : nanB b
    · rfl
    · exfalso
      have h3 := key_nan hn
      have h4 : nanB a = false := by simpa using h.1
      have h5 := key_cases a ha
      rw [h4] at h5
      simp only [Bool.false_eq_true, false_and, true_and, false_or] at h5
      omega
  · have h1 := kind_nan a
    rw [decide_eq_true h] at h1
    rw [← h1]
    rfl
set_option maxHeartbeats 8000000 in
theorem pickFewer_any (x y a b : Nat) (hx : x < 256) (hy : y < 256) (ha : a < 18446744073709551616) (hb : b < 18446744073709551616) (w : World) :
    Calls Try.prog 8 #[.agg #[.int .u8 x, .int .u8 y], .agg #[.int .u64 a, .int .u64 b]] w fun e w' => e = .returned (.bool true) ∧ Below w.heap.size w w' := by
  have qx : IntKind.i64.wrap (x : Int) = x := by rw [IntKind.wrap_i64]; omega
  have qy : IntKind.i64.wrap (y : Int) = y := by rw [IntKind.wrap_i64]; omega
  have Hw := Lib.hid (bt (Grew.alloc w (.cells #[.int .u8 x, .int .u8 y] 39)).1 (Grew.alloc (w.alloc (.cells #[.int .u8 x, .int .u8 y] 39)) (.cells #[.int .u64 a, .int .u64 b] 40)).1)
  have b0 := (Blk.new w 39 #[.int .u8 x, .int .u8 y]).alloc (.cells #[.int .u64 a, .int .u64 b] 40)
  have b1 := Blk.new (w.alloc (.cells #[.int .u8 x, .int .u8 y] 39)) 40 #[.int .u64 a, .int .u64 b]
  have c00 := b0.cell 0
  have c01 := b0.cell 1
  have c10 := b1.cell 0
  have c11 := b1.cell 1
  rw [show (w.alloc (.cells #[.int .u8 x, .int .u8 y] 39)).heap.size = w.heap.size + 1 by simp] at c10 c11
  replace c00 := c00.trans (show _ = some (Value.int .u8 (x : Int)) from rfl)
  replace c01 := c01.trans (show _ = some (Value.int .u8 (y : Int)) from rfl)
  replace c10 := c10.trans (show _ = some (Value.int .u64 (a : Int)) from rfl)
  replace c11 := c11.trans (show _ = some (Value.int .u64 (b : Int)) from rfl)
  clear b0 b1
  go_enter Try.func8, Try.ntmps8
  go_wp2_with fail
  generalize (w.alloc (.cells #[.int .u8 x, .int .u8 y] 39)).alloc (.cells #[.int .u64 a, .int .u64 b] 40) = w1 at *
  rcases Nat.lt_trichotomy x y with h | h | h
  · have F := fewer_facts (b := b) (Nat.le_of_lt h) hy ha
    have e1 : (x : Int) < y := by omega
    have e2 : ¬ ((y : Int) < x) := by omega
    clear h
    go_region
    have Hw2 := Lib.hid (bt Hw.out (bdrew w1 1))
    replace c00 : w1.drew.cell? _ = _ := c00
    replace c01 : w1.drew.cell? _ = _ := c01
    replace c10 : w1.drew.cell? _ = _ := c10
    replace c11 : w1.drew.cell? _ = _ := c11
    replace Hw2 : Hid (Below w.heap.size w w1.drew) := Hw2
    generalize w1.drew = w2 at *
    clear Hw
    cases hwf : worthB (x : Nat) 14 a
    · have hwm : worthB (y : Nat) 14 a = false := by
        cases h : worthB (y : Nat) 14 a
        · rfl
        · rw [F.1 h] at hwf; cases hwf
      have HF := Lib.hid F
      clear F
      cases hk : (kindN a != 0)
      · go_wp2_with (first | (go_at_call 16; refine (worth_any _ 14 _ (by assumption) _).mono ?_; rintro _ _ ⟨rfl, q, rfl⟩) | (go_at_call 20; refine (kind_any a ha _).mono ?_; rintro _ _ ⟨rfl, rfl⟩) | (go_at_call 18; refine (order_any a b ha hb _).mono ?_; rintro _ _ ⟨rfl, rfl⟩) | (go_at_call 11; refine (works06_any _).mono ?_; rintro _ w5 ⟨rfl, h5⟩)); generalize hw3 : World.drewN w2 _ = w3 at *; (have HW3 : Hid (Below w.heap.size w w3) := Lib.hid (by rw [← hw3]; exact bt Hw2.out (bdrew w2 _))); (have d10 : w3.cell? ⟨w.heap.size + 1, 0, none⟩ = some (.int .u64 (a : Int)) := by rw [← hw3]; exact c10); (have d11 : w3.cell? ⟨w.heap.size + 1, 1, none⟩ = some (.int .u64 (b : Int)) := by rw [← hw3]; exact c11); clear c00 c01 c10 c11 hw3; go_quiet ((go_at_call 19; exact Calls.quiet_of_same (from_any _ _))); go_wp2_with (first | (go_at_call 16; refine (worth_any _ 14 _ (by assumption) _).mono ?_; rintro _ _ ⟨rfl, q, rfl⟩) | (go_at_call 20; refine (kind_any a ha _).mono ?_; rintro _ _ ⟨rfl, rfl⟩) | (go_at_call 18; refine (order_any a b ha hb _).mono ?_; rintro _ _ ⟨rfl, rfl⟩) | (go_at_call 11; refine (works06_any _).mono ?_; rintro _ w5 ⟨rfl, h5⟩)); go_ret; exact ⟨rfl, bt HW3.out (bt (bdrew _ _) h5)⟩
      · cases ho : decide (ordN a b ≤ 0)
        · go_wp2_with (first | (go_at_call 16; refine (worth_any _ 14 _ (by assumption) _).mono ?_; rintro _ _ ⟨rfl, q, rfl⟩) | (go_at_call 20; refine (kind_any a ha _).mono ?_; rintro _ _ ⟨rfl, rfl⟩) | (go_at_call 18; refine (order_any a b ha hb _).mono ?_; rintro _ _ ⟨rfl, rfl⟩) | (go_at_call 11; refine (works06_any _).mono ?_; rintro _ w5 ⟨rfl, h5⟩)); generalize hw3 : World.drewN w2 _ = w3 at *; (have HW3 : Hid (Below w.heap.size w w3) := Lib.hid (by rw [← hw3]; exact bt Hw2.out (bdrew w2 _))); (have d10 : w3.cell? ⟨w.heap.size + 1, 0, none⟩ = some (.int .u64 (a : Int)) := by rw [← hw3]; exact c10); (have d11 : w3.cell? ⟨w.heap.size + 1, 1, none⟩ = some (.int .u64 (b : Int)) := by rw [← hw3]; exact c11); clear c00 c01 c10 c11 hw3; go_quiet ((go_at_call 19; exact Calls.quiet_of_same (from_any _ _))); go_wp2_with (first | (go_at_call 16; refine (worth_any _ 14 _ (by assumption) _).mono ?_; rintro _ _ ⟨rfl, q, rfl⟩) | (go_at_call 20; refine (kind_any a ha _).mono ?_; rintro _ _ ⟨rfl, rfl⟩) | (go_at_call 18; refine (order_any a b ha hb _).mono ?_; rintro _ _ ⟨rfl, rfl⟩) | (go_at_call 11; refine (works06_any _).mono ?_; rintro _ w5 ⟨rfl, h5⟩)); go_ret; exact ⟨rfl, bt HW3.out (bt (bdrew _ _) h5)⟩
        · go_wp2_with (first | (go_at_call 16; refine (worth_any _ 14 _ (by assumption) _).mono ?_; rintro _ _ ⟨rfl, q, rfl⟩) | (go_at_call 20; refine (kind_any a ha _).mono ?_; rintro _ _ ⟨rfl, rfl⟩) | (go_at_call 18; refine (order_any a b ha hb _).mono ?_; rintro _ _ ⟨rfl, rfl⟩) | (go_at_call 11; refine (works06_any _).mono ?_; rintro _ w5 ⟨rfl, h5⟩)); generalize hw3 : World.drewN w2 _ = w3 at *; (have HW3 : Hid (Below w.heap.size w w3) := Lib.hid (by rw [← hw3]; exact bt Hw2.out (bdrew w2 _))); (have d10 : w3.cell? ⟨w.heap.size + 1, 0, none⟩ = some (.int .u64 (a : Int)) := by rw [← hw3]; exact c10); (have d11 : w3.cell? ⟨w.heap.size + 1, 1, none⟩ = some (.int .u64 (b : Int)) := by rw [← hw3]; exact c11); clear c00 c01 c10 c11 hw3; go_quiet ((go_at_call 19; exact Calls.quiet_of_same (from_any _ _))); go_wp2_with (first | (go_at_call 16; refine (worth_any _ 14 _ (by assumption) _).mono ?_; rintro _ _ ⟨rfl, q, rfl⟩) | (go_at_call 20; refine (kind_any a ha _).mono ?_; rintro _ _ ⟨rfl, rfl⟩) | (go_at_call 18; refine (order_any a b ha hb _).mono ?_; rintro _ _ ⟨rfl, rfl⟩) | (go_at_call 11; refine (works06_any _).mono ?_; rintro _ w5 ⟨rfl, h5⟩)); go_ret; exact ⟨rfl, bt HW3.out (bt (bdrew _ _) h5)⟩
    · have hk : (kindN a != 0) = true := by
        simp only [bne_iff_ne, ne_eq]
        intro h
        rw [F.2.2 h] at hwf; cases hwf
      cases ho : decide (ordN a b ≤ 0)
      · have HF := Lib.hid F
        clear F
        cases hwm : worthB (y : Nat) 14 a
        · go_wp2_with (first | (go_at_call 16; refine (worth_any _ 14 _ (by assumption) _).mono ?_; rintro _ _ ⟨rfl, q, rfl⟩) | (go_at_call 20; refine (kind_any a ha _).mono ?_; rintro _ _ ⟨rfl, rfl⟩) | (go_at_call 18; refine (order_any a b ha hb _).mono ?_; rintro _ _ ⟨rfl, rfl⟩) | (go_at_call 11; refine (works06_any _).mono ?_; rintro _ w5 ⟨rfl, h5⟩)); generalize hw3 : World.drewN w2 _ = w3 at *; (have HW3 : Hid (Below w.heap.size w w3) := Lib.hid (by rw [← hw3]; exact bt Hw2.out (bdrew w2 _))); (have d10 : w3.cell? ⟨w.heap.size + 1, 0, none⟩ = some (.int .u64 (a : Int)) := by rw [← hw3]; exact c10); (have d11 : w3.cell? ⟨w.heap.size + 1, 1, none⟩ = some (.int .u64 (b : Int)) := by rw [← hw3]; exact c11); clear c00 c01 c10 c11 hw3; go_quiet ((go_at_call 19; exact Calls.quiet_of_same (from_any _ _))); go_wp2_with (first | (go_at_call 16; refine (worth_any _ 14 _ (by assumption) _).mono ?_; rintro _ _ ⟨rfl, q, rfl⟩) | (go_at_call 20; refine (kind_any a ha _).mono ?_; rintro _ _ ⟨rfl, rfl⟩) | (go_at_call 18; refine (order_any a b ha hb _).mono ?_; rintro _ _ ⟨rfl, rfl⟩) | (go_at_call 11; refine (works06_any _).mono ?_; rintro _ w5 ⟨rfl, h5⟩)); go_ret; exact ⟨rfl, bt HW3.out (bt (bdrew _ _) h5)⟩
        · go_wp2_with (first | (go_at_call 16; refine (worth_any _ 14 _ (by assumption) _).mono ?_; rintro _ _ ⟨rfl, q, rfl⟩) | (go_at_call 20; refine (kind_any a ha _).mono ?_; rintro _ _ ⟨rfl, rfl⟩) | (go_at_call 18; refine (order_any a b ha hb _).mono ?_; rintro _ _ ⟨rfl, rfl⟩) | (go_at_call 11; refine (works06_any _).mono ?_; rintro _ w5 ⟨rfl, h5⟩)); generalize hw3 : World.drewN w2 _ = w3 at *; (have HW3 : Hid (Below w.heap.size w w3) := Lib.hid (by rw [← hw3]; exact bt Hw2.out (bdrew w2 _))); (have d10 : w3.cell? ⟨w.heap.size + 1, 0, none⟩ = some (.int .u64 (a : Int)) := by rw [← hw3]; exact c10); (have d11 : w3.cell? ⟨w.heap.size + 1, 1, none⟩ = some (.int .u64 (b : Int)) := by rw [← hw3]; exact c11); clear c00 c01 c10 c11 hw3; go_quiet ((go_at_call 19; exact Calls.quiet_of_same (from_any _ _))); go_wp2_with (first | (go_at_call 16; refine (worth_any _ 14 _ (by assumption) _).mono ?_; rintro _ _ ⟨rfl, q, rfl⟩) | (go_at_call 20; refine (kind_any a ha _).mono ?_; rintro _ _ ⟨rfl, rfl⟩) | (go_at_call 18; refine (order_any a b ha hb _).mono ?_; rintro _ _ ⟨rfl, rfl⟩) | (go_at_call 11; refine (works06_any _).mono ?_; rintro _ w5 ⟨rfl, h5⟩)); go_ret; exact ⟨rfl, bt HW3.out (bt (bdrew _ _) h5)⟩
      · have hwg : worthB (x : Nat) 14 b = true := F.2.1 (by simpa using hk) (of_decide_eq_true ho) hwf
        have HF := Lib.hid F
        clear F
        cases hwm : worthB (y : Nat) 14 a
        · go_wp2_with (first | (go_at_call 16; refine (worth_any _ 14 _ (by assumption) _).mono ?_; rintro _ _ ⟨rfl, q, rfl⟩) | (go_at_call 20; refine (kind_any a ha _).mono ?_; rintro _ _ ⟨rfl, rfl⟩) | (go_at_call 18; refine (order_any a b ha hb _).mono ?_; rintro _ _ ⟨rfl, rfl⟩) | (go_at_call 11; refine (works06_any _).mono ?_; rintro _ w5 ⟨rfl, h5⟩)); generalize hw3 : World.drewN w2 _ = w3 at *; (have HW3 : Hid (Below w.heap.size w w3) := Lib.hid (by rw [← hw3]; exact bt Hw2.out (bdrew w2 _))); (have d10 : w3.cell? ⟨w.heap.size + 1, 0, none⟩ = some (.int .u64 (a : Int)) := by rw [← hw3]; exact c10); (have d11 : w3.cell? ⟨w.heap.size + 1, 1, none⟩ = some (.int .u64 (b : Int)) := by rw [← hw3]; exact c11); clear c00 c01 c10 c11 hw3; go_quiet ((go_at_call 19; exact Calls.quiet_of_same (from_any _ _))); go_wp2_with (first | (go_at_call 16; refine (worth_any _ 14 _ (by assumption) _).mono ?_; rintro _ _ ⟨rfl, q, rfl⟩) | (go_at_call 20; refine (kind_any a ha _).mono ?_; rintro _ _ ⟨rfl, rfl⟩) | (go_at_call 18; refine (order_any a b ha hb _).mono ?_; rintro _ _ ⟨rfl, rfl⟩) | (go_at_call 11; refine (works06_any _).mono ?_; rintro _ w5 ⟨rfl, h5⟩)); go_ret; exact ⟨rfl, bt HW3.out (bt (bdrew _ _) h5)⟩
        · go_wp2_with (first | (go_at_call 16; refine (worth_any _ 14 _ (by assumption) _).mono ?_; rintro _ _ ⟨rfl, q, rfl⟩) | (go_at_call 20; refine (kind_any a ha _).mono ?_; rintro _ _ ⟨rfl, rfl⟩) | (go_at_call 18; refine (order_any a b ha hb _).mono ?_; rintro _ _ ⟨rfl, rfl⟩) | (go_at_call 11; refine (works06_any _).mono ?_; rintro _ w5 ⟨rfl, h5⟩)); generalize hw3 : World.drewN w2 _ = w3 at *; (have HW3 : Hid (Below w.heap.size w w3) := Lib.hid (by rw [← hw3]; exact bt Hw2.out (bdrew w2 _))); (have d10 : w3.cell? ⟨w.heap.size + 1, 0, none⟩ = some (.int .u64 (a : Int)) := by rw [← hw3]; exact c10); (have d11 : w3.cell? ⟨w.heap.size + 1, 1, none⟩ = some (.int .u64 (b : Int)) := by rw [← hw3]; exact c11); clear c00 c01 c10 c11 hw3; go_quiet ((go_at_call 19; exact Calls.quiet_of_same (from_any _ _))); go_wp2_with (first | (go_at_call 16; refine (worth_any _ 14 _ (by assumption) _).mono ?_; rintro _ _ ⟨rfl, q, rfl⟩) | (go_at_call 20; refine (kind_any a ha _).mono ?_; rintro _ _ ⟨rfl, rfl⟩) | (go_at_call 18; refine (order_any a b ha hb _).mono ?_; rintro _ _ ⟨rfl, rfl⟩) | (go_at_call 11; refine (works06_any _).mono ?_; rintro _ w5 ⟨rfl, h5⟩)); go_ret; exact ⟨rfl, bt HW3.out (bt (bdrew _ _) h5)⟩
  · have F := fewer_facts (b := b) (Nat.le_refl x) hx ha
    subst h
    have e2 : ¬ ((x : Int) < x) := by omega
    go_region
    have Hw2 := Lib.hid (bt Hw.out (bdrew w1 1))
    replace c00 : w1.drew.cell? _ = _ := c00
    replace c01 : w1.drew.cell? _ = _ := c01
    replace c10 : w1.drew.cell? _ = _ := c10
    replace c11 : w1.drew.cell? _ = _ := c11
    replace Hw2 : Hid (Below w.heap.size w w1.drew) := Hw2
    generalize w1.drew = w2 at *
    clear Hw
    cases hwf : worthB (x : Nat) 14 a
    · have hwm : worthB (x : Nat) 14 a = false := by
        cases h : worthB (x : Nat) 14 a
        · rfl
        · rw [F.1 h] at hwf; cases hwf
      have HF := Lib.hid F
      clear F
      cases hk : (kindN a != 0)
      · go_wp2_with (first | (go_at_call 16; refine (worth_any _ 14 _ (by assumption) _).mono ?_; rintro _ _ ⟨rfl, q, rfl⟩) | (go_at_call 20; refine (kind_any a ha _).mono ?_; rintro _ _ ⟨rfl, rfl⟩) | (go_at_call 18; refine (order_any a b ha hb _).mono ?_; rintro _ _ ⟨rfl, rfl⟩) | (go_at_call 11; refine (works06_any _).mono ?_; rintro _ w5 ⟨rfl, h5⟩)); generalize hw3 : World.drewN w2 _ = w3 at *; (have HW3 : Hid (Below w.heap.size w w3) := Lib.hid (by rw [← hw3]; exact bt Hw2.out (bdrew w2 _))); (have d10 : w3.cell? ⟨w.heap.size + 1, 0, none⟩ = some (.int .u64 (a : Int)) := by rw [← hw3]; exact c10); (have d11 : w3.cell? ⟨w.heap.size + 1, 1, none⟩ = some (.int .u64 (b : Int)) := by rw [← hw3]; exact c11); clear c00 c01 c10 c11 hw3; go_quiet ((go_at_call 19; exact Calls.quiet_of_same (from_any _ _))); go_wp2_with (first | (go_at_call 16; refine (worth_any _ 14 _ (by assumption) _).mono ?_; rintro _ _ ⟨rfl, q, rfl⟩) | (go_at_call 20; refine (kind_any a ha _).mono ?_; rintro _ _ ⟨rfl, rfl⟩) | (go_at_call 18; refine (order_any a b ha hb _).mono ?_; rintro _ _ ⟨rfl, rfl⟩) | (go_at_call 11; refine (works06_any _).mono ?_; rintro _ w5 ⟨rfl, h5⟩)); go_ret; exact ⟨rfl, bt HW3.out (bt (bdrew _ _) h5)⟩
      · cases ho : decide (ordN a b ≤ 0)
        · go_wp2_with (first | (go_at_call 16; refine (worth_any _ 14 _ (by assumption) _).mono ?_; rintro _ _ ⟨rfl, q, rfl⟩) | (go_at_call 20; refine (kind_any a ha _).mono ?_; rintro _ _ ⟨rfl, rfl⟩) | (go_at_call 18; refine (order_any a b ha hb _).mono ?_; rintro _ _ ⟨rfl, rfl⟩) | (go_at_call 11; refine (works06_any _).mono ?_; rintro _ w5 ⟨rfl, h5⟩)); generalize hw3 : World.drewN w2 _ = w3 at *; (have HW3 : Hid (Below w.heap.size w w3) := Lib.hid (by rw [← hw3]; exact bt Hw2.out (bdrew w2 _))); (have d10 : w3.cell? ⟨w.heap.size + 1, 0, none⟩ = some (.int .u64 (a : Int)) := by rw [← hw3]; exact c10); (have d11 : w3.cell? ⟨w.heap.size + 1, 1, none⟩ = some (.int .u64 (b : Int)) := by rw [← hw3]; exact c11); clear c00 c01 c10 c11 hw3; go_quiet ((go_at_call 19; exact Calls.quiet_of_same (from_any _ _))); go_wp2_with (first | (go_at_call 16; refine (worth_any _ 14 _ (by assumption) _).mono ?_; rintro _ _ ⟨rfl, q, rfl⟩) | (go_at_call 20; refine (kind_any a ha _).mono ?_; rintro _ _ ⟨rfl, rfl⟩) | (go_at_call 18; refine (order_any a b ha hb _).mono ?_; rintro _ _ ⟨rfl, rfl⟩) | (go_at_call 11; refine (works06_any _).mono ?_; rintro _ w5 ⟨rfl, h5⟩)); go_ret; exact ⟨rfl, bt HW3.out (bt (bdrew _ _) h5)⟩
        · go_wp2_with (first | (go_at_call 16; refine (worth_any _ 14 _ (by assumption) _).mono ?_; rintro _ _ ⟨rfl, q, rfl⟩) | (go_at_call 20; refine (kind_any a ha _).mono ?_; rintro _ _ ⟨rfl, rfl⟩) | (go_at_call 18; refine (order_any a b ha hb _).mono ?_; rintro _ _ ⟨rfl, rfl⟩) | (go_at_call 11; refine (works06_any _).mono ?_; rintro _ w5 ⟨rfl, h5⟩)); generalize hw3 : World.drewN w2 _ = w3 at *; (have HW3 : Hid (Below w.heap.size w w3) := Lib.hid (by rw [← hw3]; exact bt Hw2.out (bdrew w2 _))); (have d10 : w3.cell? ⟨w.heap.size + 1, 0, none⟩ = some (.int .u64 (a : Int)) := by rw [← hw3]; exact c10); (have d11 : w3.cell? ⟨w.heap.size + 1, 1, none⟩ = some (.int .u64 (b : Int)) := by rw [← hw3]; exact c11); clear c00 c01 c10 c11 hw3; go_quiet ((go_at_call 19; exact Calls.quiet_of_same (from_any _ _))); go_wp2_with (first | (go_at_call 16; refine (worth_any _ 14 _ (by assumption) _).mono ?_; rintro _ _ ⟨rfl, q, rfl⟩) | (go_at_call 20; refine (kind_any a ha _).mono ?_; rintro _ _ ⟨rfl, rfl⟩) | (go_at_call 18; refine (order_any a b ha hb _).mono ?_; rintro _ _ ⟨rfl, rfl⟩) | (go_at_call 11; refine (works06_any _).mono ?_; rintro _ w5 ⟨rfl, h5⟩)); go_ret; exact ⟨rfl, bt HW3.out (bt (bdrew _ _) h5)⟩
    · have hk : (kindN a != 0) = true := by
        simp only [bne_iff_ne, ne_eq]
        intro h
        rw [F.2.2 h] at hwf; cases hwf
      cases ho : decide (ordN a b ≤ 0)
      · have HF := Lib.hid F
        clear F
        cases hwm : worthB (x : Nat) 14 a
        · go_wp2_with (first | (go_at_call 16; refine (worth_any _ 14 _ (by assumption) _).mono ?_; rintro _ _ ⟨rfl, q, rfl⟩) | (go_at_call 20; refine (kind_any a ha _).mono ?_; rintro _ _ ⟨rfl, rfl⟩) | (go_at_call 18; refine (order_any a b ha hb _).mono ?_; rintro _ _ ⟨rfl, rfl⟩) | (go_at_call 11; refine (works06_any _).mono ?_; rintro _ w5 ⟨rfl, h5⟩)); generalize hw3 : World.drewN w2 _ = w3 at *; (have HW3 : Hid (Below w.heap.size w w3) := Lib.hid (by rw [← hw3]; exact bt Hw2.out (bdrew w2 _))); (have d10 : w3.cell? ⟨w.heap.size + 1, 0, none⟩ = some (.int .u64 (a : Int)) := by rw [← hw3]; exact c10); (have d11 : w3.cell? ⟨w.heap.size + 1, 1, none⟩ = some (.int .u64 (b : Int)) := by rw [← hw3]; exact c11); clear c00 c01 c10 c11 hw3; go_quiet ((go_at_call 19; exact Calls.quiet_of_same (from_any _ _))); go_wp2_with (first | (go_at_call 16; refine (worth_any _ 14 _ (by assumption) _).mono ?_; rintro _ _ ⟨rfl, q, rfl⟩) | (go_at_call 20; refine (kind_any a ha _).mono ?_; rintro _ _ ⟨rfl, rfl⟩) | (go_at_call 18; refine (order_any a b ha hb _).mono ?_; rintro _ _ ⟨rfl, rfl⟩) | (go_at_call 11; refine (works06_any _).mono ?_; rintro _ w5 ⟨rfl, h5⟩)); go_ret; exact ⟨rfl, bt HW3.out (bt (bdrew _ _) h5)⟩
        · go_wp2_with (first | (go_at_call 16; refine (worth_any _ 14 _ (by assumption) _).mono ?_; rintro _ _ ⟨rfl, q, rfl⟩) | (go_at_call 20; refine (kind_any a ha _).mono ?_; rintro _ _ ⟨rfl, rfl⟩) | (go_at_call 18; refine (order_any a b ha hb _).mono ?_; rintro _ _ ⟨rfl, rfl⟩) | (go_at_call 11; refine (works06_any _).mono ?_; rintro _ w5 ⟨rfl, h5⟩)); generalize hw3 : World.drewN w2 _ = w3 at *; (have HW3 : Hid (Below w.heap.size w w3) := Lib.hid (by rw [← hw3]; exact bt Hw2.out (bdrew w2 _))); (have d10 : w3.cell? ⟨w.heap.size + 1, 0, none⟩ = some (.int .u64 (a : Int)) := by rw [← hw3]; exact c10); (have d11 : w3.cell? ⟨w.heap.size + 1, 1, none⟩ = some (.int .u64 (b : Int)) := by rw [← hw3]; exact c11); clear c00 c01 c10 c11 hw3; go_quiet ((go_at_call 19; exact Calls.quiet_of_same (from_any _ _))); go_wp2_with (first | (go_at_call 16; refine (worth_any _ 14 _ (by assumption) _).mono ?_; rintro _ _ ⟨rfl, q, rfl⟩) | (go_at_call 20; refine (kind_any a ha _).mono ?_; rintro _ _ ⟨rfl, rfl⟩) | (go_at_call 18; refine (order_any a b ha hb _).mono ?_; rintro _ _ ⟨rfl, rfl⟩) | (go_at_call 11; refine (works06_any _).mono ?_; rintro _ w5 ⟨rfl, h5⟩)); go_ret; exact ⟨rfl, bt HW3.out (bt (bdrew _ _) h5)⟩
      · have hwg : worthB (x : Nat) 14 b = true := F.2.1 (by simpa using hk) (of_decide_eq_true ho) hwf
        have HF := Lib.hid F
        clear F
        cases hwm : worthB (x : Nat) 14 a
        · go_wp2_with (first | (go_at_call 16; refine (worth_any _ 14 _ (by assumption) _).mono ?_; rintro _ _ ⟨rfl, q, rfl⟩) | (go_at_call 20; refine (kind_any a ha _).mono ?_; rintro _ _ ⟨rfl, rfl⟩) | (go_at_call 18; refine (order_any a b ha hb _).mono ?_; rintro _ _ ⟨rfl, rfl⟩) | (go_at_call 11; refine (works06_any _).mono ?_; rintro _ w5 ⟨rfl, h5⟩)); generalize hw3 : World.drewN w2 _ = w3 at *; (have HW3 : Hid (Below w.heap.size w w3) := Lib.hid (by rw [← hw3]; exact bt Hw2.out (bdrew w2 _))); (have d10 : w3.cell? ⟨w.heap.size + 1, 0, none⟩ = some (.int .u64 (a : Int)) := by rw [← hw3]; exact c10); (have d11 : w3.cell? ⟨w.heap.size + 1, 1, none⟩ = some (.int .u64 (b : Int)) := by rw [← hw3]; exact c11); clear c00 c01 c10 c11 hw3; go_quiet ((go_at_call 19; exact Calls.quiet_of_same (from_any _ _))); go_wp2_with (first | (go_at_call 16; refine (worth_any _ 14 _ (by assumption) _).mono ?_; rintro _ _ ⟨rfl, q, rfl⟩) | (go_at_call 20; refine (kind_any a ha _).mono ?_; rintro _ _ ⟨rfl, rfl⟩) | (go_at_call 18; refine (order_any a b ha hb _).mono ?_; rintro _ _ ⟨rfl, rfl⟩) | (go_at_call 11; refine (works06_any _).mono ?_; rintro _ w5 ⟨rfl, h5⟩)); go_ret; exact ⟨rfl, bt HW3.out (bt (bdrew _ _) h5)⟩
        · go_wp2_with (first | (go_at_call 16; refine (worth_any _ 14 _ (by assumption) _).mono ?_; rintro _ _ ⟨rfl, q, rfl⟩) | (go_at_call 20; refine (kind_any a ha _).mono ?_; rintro _ _ ⟨rfl, rfl⟩) | (go_at_call 18; refine (order_any a b ha hb _).mono ?_; rintro _ _ ⟨rfl, rfl⟩) | (go_at_call 11; refine (works06_any _).mono ?_; rintro _ w5 ⟨rfl, h5⟩)); generalize hw3 : World.drewN w2 _ = w3 at *; (have HW3 : Hid (Below w.heap.size w w3) := Lib.hid (by rw [← hw3]; exact bt Hw2.out (bdrew w2 _))); (have d10 : w3.cell? ⟨w.heap.size + 1, 0, none⟩ = some (.int .u64 (a : Int)) := by rw [← hw3]; exact c10); (have d11 : w3.cell? ⟨w.heap.size + 1, 1, none⟩ = some (.int .u64 (b : Int)) := by rw [← hw3]; exact c11); clear c00 c01 c10 c11 hw3; go_quiet ((go_at_call 19; exact Calls.quiet_of_same (from_any _ _))); go_wp2_with (first | (go_at_call 16; refine (worth_any _ 14 _ (by assumption) _).mono ?_; rintro _ _ ⟨rfl, q, rfl⟩) | (go_at_call 20; refine (kind_any a ha _).mono ?_; rintro _ _ ⟨rfl, rfl⟩) | (go_at_call 18; refine (order_any a b ha hb _).mono ?_; rintro _ _ ⟨rfl, rfl⟩) | (go_at_call 11; refine (works06_any _).mono ?_; rintro _ w5 ⟨rfl, h5⟩)); go_ret; exact ⟨rfl, bt HW3.out (bt (bdrew _ _) h5)⟩
  · have F := fewer_facts (b := b) (Nat.le_of_lt h) hx ha
    have e1 : (y : Int) < x := by omega
    have e2 : ¬ ((x : Int) < y) := by omega
    clear h
    go_region
    have Hw2 := Lib.hid (bt Hw.out (bdrew w1 1))
    replace c00 : w1.drew.cell? _ = _ := c00
    replace c01 : w1.drew.cell? _ = _ := c01
    replace c10 : w1.drew.cell? _ = _ := c10
    replace c11 : w1.drew.cell? _ = _ := c11
    replace Hw2 : Hid (Below w.heap.size w w1.drew) := Hw2
    generalize w1.drew = w2 at *
    clear Hw
    cases hwf : worthB (y : Nat) 14 a
    · have hwm : worthB (x : Nat) 14 a = false := by
        cases h : worthB (x : Nat) 14 a
        · rfl
        · rw [F.1 h] at hwf; cases hwf
      have HF := Lib.hid F
      clear F
      cases hk : (kindN a != 0)
      · go_wp2_with (first | (go_at_call 16; refine (worth_any _ 14 _ (by assumption) _).mono ?_; rintro _ _ ⟨rfl, q, rfl⟩) | (go_at_call 20; refine (kind_any a ha _).mono ?_; rintro _ _ ⟨rfl, rfl⟩) | (go_at_call 18; refine (order_any a b ha hb _).mono ?_; rintro _ _ ⟨rfl, rfl⟩) | (go_at_call 11; refine (works06_any _).mono ?_; rintro _ w5 ⟨rfl, h5⟩)); generalize hw3 : World.drewN w2 _ = w3 at *; (have HW3 : Hid (Below w.heap.size w w3) := Lib.hid (by rw [← hw3]; exact bt Hw2.out (bdrew w2 _))); (have d10 : w3.cell? ⟨w.heap.size + 1, 0, none⟩ = some (.int .u64 (a : Int)) := by rw [← hw3]; exact c10); (have d11 : w3.cell? ⟨w.heap.size + 1, 1, none⟩ = some (.int .u64 (b : Int)) := by rw [← hw3]; exact c11); clear c00 c01 c10 c11 hw3; go_quiet ((go_at_call 19; exact Calls.quiet_of_same (from_any _ _))); go_wp2_with (first | (go_at_call 16; refine (worth_any _ 14 _ (by assumption) _).mono ?_; rintro _ _ ⟨rfl, q, rfl⟩) | (go_at_call 20; refine (kind_any a ha _).mono ?_; rintro _ _ ⟨rfl, rfl⟩) | (go_at_call 18; refine (order_any a b ha hb _).mono ?_; rintro _ _ ⟨rfl, rfl⟩) | (go_at_call 11; refine (works06_any _).mono ?_; rintro _ w5 ⟨rfl, h5⟩)); go_ret; exact ⟨rfl, bt HW3.out (bt (bdrew _ _) h5)⟩
      · cases ho : decide (ordN a b ≤ 0)
        · go_wp2_with (first | (go_at_call 16; refine (worth_any _ 14 _ (by assumption) _).mono ?_; rintro _ _ ⟨rfl, q, rfl⟩) | (go_at_call 20; refine (kind_any a ha _).mono ?_; rintro _ _ ⟨rfl, rfl⟩) | (go_at_call 18; refine (order_any a b ha hb _).mono ?_; rintro _ _ ⟨rfl, rfl⟩) | (go_at_call 11; refine (works06_any _).mono ?_; rintro _ w5 ⟨rfl, h5⟩)); generalize hw3 : World.drewN w2 _ = w3 at *; (have HW3 : Hid (Below w.heap.size w w3) := Lib.hid (by rw [← hw3]; exact bt Hw2.out (bdrew w2 _))); (have d10 : w3.cell? ⟨w.heap.size + 1, 0, none⟩ = some (.int .u64 (a : Int)) := by rw [← hw3]; exact c10); (have d11 : w3.cell? ⟨w.heap.size + 1, 1, none⟩ = some (.int .u64 (b : Int)) := by rw [← hw3]; exact c11); clear c00 c01 c10 c11 hw3; go_quiet ((go_at_call 19; exact Calls.quiet_of_same (from_any _ _))); go_wp2_with (first | (go_at_call 16; refine (worth_any _ 14 _ (by assumption) _).mono ?_; rintro _ _ ⟨rfl, q, rfl⟩) | (go_at_call 20; refine (kind_any a ha _).mono ?_; rintro _ _ ⟨rfl, rfl⟩) | (go_at_call 18; refine (order_any a b ha hb _).mono ?_; rintro _ _ ⟨rfl, rfl⟩) | (go_at_call 11; refine (works06_any _).mono ?_; rintro _ w5 ⟨rfl, h5⟩)); go_ret; exact ⟨rfl, bt HW3.out (bt (bdrew _ _) h5)⟩
        · go_wp2_with (first | (go_at_call 16; refine (worth_any _ 14 _ (by assumption) _).mono ?_; rintro _ _ ⟨rfl, q, rfl⟩) | (go_at_call 20; refine (kind_any a ha _).mono ?_; rintro _ _ ⟨rfl, rfl⟩) | (go_at_call 18; refine (order_any a b ha hb _).mono ?_; rintro _ _ ⟨rfl, rfl⟩) | (go_at_call 11; refine (works06_any _).mono ?_; rintro _ w5 ⟨rfl, h5⟩)); generalize hw3 : World.drewN w2 _ = w3 at *; (have HW3 : Hid (Below w.heap.size w w3) := Lib.hid (by rw [← hw3]; exact bt Hw2.out (bdrew w2 _))); (have d10 : w3.cell? ⟨w.heap.size + 1, 0, none⟩ = some (.int .u64 (a : Int)) := by rw [← hw3]; exact c10); (have d11 : w3.cell? ⟨w.heap.size + 1, 1, none⟩ = some (.int .u64 (b : Int)) := by rw [← hw3]; exact c11); clear c00 c01 c10 c11 hw3; go_quiet ((go_at_call 19; exact Calls.quiet_of_same (from_any _ _))); go_wp2_with (first | (go_at_call 16; refine (worth_any _ 14 _ (by assumption) _).mono ?_; rintro _ _ ⟨rfl, q, rfl⟩) | (go_at_call 20; refine (kind_any a ha _).mono ?_; rintro _ _ ⟨rfl, rfl⟩) | (go_at_call 18; refine (order_any a b ha hb _).mono ?_; rintro _ _ ⟨rfl, rfl⟩) | (go_at_call 11; refine (works06_any _).mono ?_; rintro _ w5 ⟨rfl, h5⟩)); go_ret; exact ⟨rfl, bt HW3.out (bt (bdrew _ _) h5)⟩
    · have hk : (kindN a != 0) = true := by
        simp only [bne_iff_ne, ne_eq]
        intro h
        rw [F.2.2 h] at hwf; cases hwf
      cases ho : decide (ordN a b ≤ 0)
      · have HF := Lib.hid F
        clear F
        cases hwm : worthB (x : Nat) 14 a
        · go_wp2_with (first | (go_at_call 16; refine (worth_any _ 14 _ (by assumption) _).mono ?_; rintro _ _ ⟨rfl, q, rfl⟩) | (go_at_call 20; refine (kind_any a ha _).mono ?_; rintro _ _ ⟨rfl, rfl⟩) | (go_at_call 18; refine (order_any a b ha hb _).mono ?_; rintro _ _ ⟨rfl, rfl⟩) | (go_at_call 11; refine (works06_any _).mono ?_; rintro _ w5 ⟨rfl, h5⟩)); generalize hw3 : World.drewN w2 _ = w3 at *; (have HW3 : Hid (Below w.heap.size w w3) := Lib.hid (by rw [← hw3]; exact bt Hw2.out (bdrew w2 _))); (have d10 : w3.cell? ⟨w.heap.size + 1, 0, none⟩ = some (.int .u64 (a : Int)) := by rw [← hw3]; exact c10); (have d11 : w3.cell? ⟨w.heap.size + 1, 1, none⟩ = some (.int .u64 (b : Int)) := by rw [← hw3]; exact c11); clear c00 c01 c10 c11 hw3; go_quiet ((go_at_call 19; exact Calls.quiet_of_same (from_any _ _))); go_wp2_with (first | (go_at_call 16; refine (worth_any _ 14 _ (by assumption) _).mono ?_; rintro _ _ ⟨rfl, q, rfl⟩) | (go_at_call 20; refine (kind_any a ha _).mono ?_; rintro _ _ ⟨rfl, rfl⟩) | (go_at_call 18; refine (order_any a b ha hb _).mono ?_; rintro _ _ ⟨rfl, rfl⟩) | (go_at_call 11; refine (works06_any _).mono ?_; rintro _ w5 ⟨rfl, h5⟩)); go_ret; exact ⟨rfl, bt HW3.out (bt (bdrew _ _) h5)⟩
        · go_wp2_with (first | (go_at_call 16; refine (worth_any _ 14 _ (by assumption) _).mono ?_; rintro _ _ ⟨rfl, q, rfl⟩) | (go_at_call 20; refine (kind_any a ha _).mono ?_; rintro _ _ ⟨rfl, rfl⟩) | (go_at_call 18; refine (order_any a b ha hb _).mono ?_; rintro _ _ ⟨rfl, rfl⟩) | (go_at_call 11; refine (works06_any _).mono ?_; rintro _ w5 ⟨rfl, h5⟩)); generalize hw3 : World.drewN w2 _ = w3 at *; (have HW3 : Hid (Below w.heap.size w w3) := Lib.hid (by rw [← hw3]; exact bt Hw2.out (bdrew w2 _))); (have d10 : w3.cell? ⟨w.heap.size + 1, 0, none⟩ = some (.int .u64 (a : Int)) := by rw [← hw3]; exact c10); (have d11 : w3.cell? ⟨w.heap.size + 1, 1, none⟩ = some (.int .u64 (b : Int)) := by rw [← hw3]; exact c11); clear c00 c01 c10 c11 hw3; go_quiet ((go_at_call 19; exact Calls.quiet_of_same (from_any _ _))); go_wp2_with (first | (go_at_call 16; refine (worth_any _ 14 _ (by assumption) _).mono ?_; rintro _ _ ⟨rfl, q, rfl⟩) | (go_at_call 20; refine (kind_any a ha _).mono ?_; rintro _ _ ⟨rfl, rfl⟩) | (go_at_call 18; refine (order_any a b ha hb _).mono ?_; rintro _ _ ⟨rfl, rfl⟩) | (go_at_call 11; refine (works06_any _).mono ?_; rintro _ w5 ⟨rfl, h5⟩)); go_ret; exact ⟨rfl, bt HW3.out (bt (bdrew _ _) h5)⟩
      · have hwg : worthB (y : Nat) 14 b = true := F.2.1 (by simpa using hk) (of_decide_eq_true ho) hwf
        have HF := Lib.hid F
        clear F
        cases hwm : worthB (x : Nat) 14 a
        · go_wp2_with (first | (go_at_call 16; refine (worth_any _ 14 _ (by assumption) _).mono ?_; rintro _ _ ⟨rfl, q, rfl⟩) | (go_at_call 20; refine (kind_any a ha _).mono ?_; rintro _ _ ⟨rfl, rfl⟩) | (go_at_call 18; refine (order_any a b ha hb _).mono ?_; rintro _ _ ⟨rfl, rfl⟩) | (go_at_call 11; refine (works06_any _).mono ?_; rintro _ w5 ⟨rfl, h5⟩)); generalize hw3 : World.drewN w2 _ = w3 at *; (have HW3 : Hid (Below w.heap.size w w3) := Lib.hid (by rw [← hw3]; exact bt Hw2.out (bdrew w2 _))); (have d10 : w3.cell? ⟨w.heap.size + 1, 0, none⟩ = some (.int .u64 (a : Int)) := by rw [← hw3]; exact c10); (have d11 : w3.cell? ⟨w.heap.size + 1, 1, none⟩ = some (.int .u64 (b : Int)) := by rw [← hw3]; exact c11); clear c00 c01 c10 c11 hw3; go_quiet ((go_at_call 19; exact Calls.quiet_of_same (from_any _ _))); go_wp2_with (first | (go_at_call 16; refine (worth_any _ 14 _ (by assumption) _).mono ?_; rintro _ _ ⟨rfl, q, rfl⟩) | (go_at_call 20; refine (kind_any a ha _).mono ?_; rintro _ _ ⟨rfl, rfl⟩) | (go_at_call 18; refine (order_any a b ha hb _).mono ?_; rintro _ _ ⟨rfl, rfl⟩) | (go_at_call 11; refine (works06_any _).mono ?_; rintro _ w5 ⟨rfl, h5⟩)); go_ret; exact ⟨rfl, bt HW3.out (bt (bdrew _ _) h5)⟩
        · go_wp2_with (first | (go_at_call 16; refine (worth_any _ 14 _ (by assumption) _).mono ?_; rintro _ _ ⟨rfl, q, rfl⟩) | (go_at_call 20; refine (kind_any a ha _).mono ?_; rintro _ _ ⟨rfl, rfl⟩) | (go_at_call 18; refine (order_any a b ha hb _).mono ?_; rintro _ _ ⟨rfl, rfl⟩) | (go_at_call 11; refine (works06_any _).mono ?_; rintro _ w5 ⟨rfl, h5⟩)); generalize hw3 : World.drewN w2 _ = w3 at *; (have HW3 : Hid (Below w.heap.size w w3) := Lib.hid (by rw [← hw3]; exact bt Hw2.out (bdrew w2 _))); (have d10 : w3.cell? ⟨w.heap.size + 1, 0, none⟩ = some (.int .u64 (a : Int)) := by rw [← hw3]; exact c10); (have d11 : w3.cell? ⟨w.heap.size + 1, 1, none⟩ = some (.int .u64 (b : Int)) := by rw [← hw3]; exact c11); clear c00 c01 c10 c11 hw3; go_quiet ((go_at_call 19; exact Calls.quiet_of_same (from_any _ _))); go_wp2_with (first | (go_at_call 16; refine (worth_any _ 14 _ (by assumption) _).mono ?_; rintro _ _ ⟨rfl, q, rfl⟩) | (go_at_call 20; refine (kind_any a ha _).mono ?_; rintro _ _ ⟨rfl, rfl⟩) | (go_at_call 18; refine (order_any a b ha hb _).mono ?_; rintro _ _ ⟨rfl, rfl⟩) | (go_at_call 11; refine (works06_any _).mono ?_; rintro _ w5 ⟨rfl, h5⟩)); go_ret; exact ⟨rfl, bt HW3.out (bt (bdrew _ _) h5)⟩

end Go.Proofs.Ytjceaaononbliaa
