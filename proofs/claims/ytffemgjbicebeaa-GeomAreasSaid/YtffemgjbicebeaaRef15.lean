/-
  Contracts of the document's answer 15: Area, Count, Is, Where.
-/
import Derived.Test.YtffemgjbicebeaaGeo1
namespace Go.Proofs.Ytffemgjbicebeaa
open Go.RowKit

set_option maxHeartbeats 1600000 in
theorem area_any (l : Lay14) (no : Int) (hno : no < 9223372036854775808) (w : World) :
    Calls Try.prog 12 #[.agg l.val, .int .i64 no] w fun e w' => e = .returned (.int .i64 (l.area no)) ∧ Below w.heap.size w w' := by
  go_enter Try.func12, Try.ntmps12
  go_wp2_with (refine wpList_box_row rfl _ _ rfl _ rfl ?_)
  apply Stop.go; intro w1 Hg1 Hb1
  go_wp2_with (refine wpList_load_blk rfl _ _ rfl _ rfl _ _ Hb1.out _ Try.underlying24 rfl Try.laySize ?_)
  refine (rmay_any l _).mono ?_; rintro e w2 ⟨rfl, hb2⟩
  have Hbel := Lib.hid (bt Hg1.out.1 hb2)
  have Hb2 := Lib.hid (Hb1.out.ext hb2)
  clear hb2
  have c0 := Hb2.out.lay0
  have c1 := Hb2.out.lay1
  obtain ⟨b, Hm⟩ : ∃ b, Hid (l.may = b) := ⟨_, Lib.hid rfl⟩
  rw [Hm.out]
  cases b
  · go_wp2_with fail
    go_ret
    rw [Lay14.area_off Hm.out]
    exact ⟨rfl, Hbel.out⟩
  · have h := Lay14.on Hm.out
    have h1 : 16 ≤ l.blocks := by omega
    have h2 : l.blocks ≤ 512 := by omega
    have HI := Lib.hid (show l.inodes = 8 * l.tn ∧ l.data = 2 + l.tn from ⟨h.2.2.1, h.2.2.2.2.2.1⟩)
    clear h
    by_cases t0 : no < 0
    · go_wp2_with fail
      go_ret
      rw [Lay14.area_out no (Or.inl t0)]
      exact ⟨rfl, Hbel.out⟩
    by_cases t1 : l.blocks ≤ no
    · go_wp2_with fail
      go_ret
      rw [Lay14.area_out no (Or.inr t1)]
      exact ⟨rfl, Hbel.out⟩
    by_cases t2 : no < 2
    · go_wp2_with fail
      go_ret
      rw [Lay14.area_low Hm.out no (by omega) t2]
      exact ⟨rfl, Hbel.out⟩
    have t3 : 2 ≤ no := by omega
    have t4 : no ≤ 512 := by omega
    by_cases t5 : (no - 2) * 8 < l.inodes
    · go_wp2_with fail
      go_ret
      rw [Lay14.area_ino Hm.out no t3 (by have := HI.out; omega)]
      exact ⟨rfl, Hbel.out⟩
    · go_wp2_with fail
      go_ret
      rw [Lay14.area_data Hm.out no (by have := HI.out; omega) (by omega)]
      exact ⟨rfl, Hbel.out⟩

set_option maxHeartbeats 1600000 in
theorem count_any (l : Lay14) (a : Int) (lo hi : Nat) (hh : hi ≤ 512) (ha : ∀ k : Nat, k < 512 → (l.area k = a ↔ lo ≤ k ∧ k < hi)) (w : World) :
    Calls Try.prog 6 #[.agg l.val, .int .i64 a] w fun e w' => e = .returned (.tuple #[.int .i64 (cntF lo hi 0 : Nat), .int .i64 (fstF lo hi 0 : Nat)]) ∧ Below w.heap.size w w' := by
  have HA := Lib.hid ha
  clear ha
  go_enter Try.func6, Try.ntmps6
  go_wp2_with (refine wpList_box_row rfl _ _ rfl _ rfl ?_)
  apply Stop.go; intro w1 Hg1 Hb1
  go_wp2_with fail
  go_loopw [6, 7, 8] (fun u f i wr => ∃ k : Nat, k ≤ 512 ∧ i = .int .i64 ((k : Int) - 1) ∧ u = .int .i64 (cntF lo hi k : Nat) ∧ f = .int .i64 (fstF lo hi k : Nat) ∧ Blk wr w.heap.size 24 l.val ∧ Below w.heap.size w wr) (fun _ _ i _ => (intOf i + 1).toNat)
  case atStart =>
    have h := cntF_end (lo := lo) hh
    exact ⟨512, Nat.le_refl _, rfl, by rw [h.1]; rfl, by rw [h.2]; rfl, Hb1.out, Hg1.out.1⟩
  case round =>
    obtain ⟨k, hk, rfl, rfl, rfl, hbk, hbw⟩ := hrel
    have Hbk := Lib.hid hbk
    have Hbw := Lib.hid hbw
    clear hbk hbw
    cases k with
    | zero =>
      have d0 : decide (0 ≤ (((0 : Nat) : Int) - 1)) = false := by decide
      go_wp2_with fail
      go_ret2
      exact ⟨rfl, Hbw.out⟩
    | succ k =>
      have e1 : (((k + 1 : Nat) : Int) - 1) = (k : Int) := by omega
      rw [e1]
      have d0 : decide (0 ≤ (k : Int)) = true := by simp
      have hkb : k < 512 := by omega
      have HAk := Lib.hid (HA.out k hkb)
      have hcl : cntF lo hi (k + 1) ≤ 512 := by unfold cntF; omega
      go_wp2_with (refine wpList_load_blk rfl _ _ rfl _ rfl _ _ Hbk.out _ Try.underlying24 rfl Try.laySize ?_)
      refine (area_any l k (by omega) _).mono ?_; rintro e w2 ⟨rfl, hb2⟩
      have Hbk2 := Lib.hid (Hbk.out.ext hb2)
      have Hbw2 := Lib.hid (bt Hbw.out hb2)
      clear hb2 Hbk Hbw
      obtain ⟨x, hx⟩ : ∃ x, l.area k = x := ⟨_, rfl⟩
      rw [hx] at HAk ⊢
      clear hx
      by_cases hxa : x = a
      · have hin := HAk.out.1 hxa
        have HC := Lib.hid (cntF_in hin.1 hin.2)
        subst hxa
        generalize cntF lo hi (k + 1) = C at *
        have d1 : (x == x) = true := by simp
        go_wp2_with fail
        go_roundw
        case rel => exact ⟨k, by omega, rfl, by rw [HC.out.1]; rfl, by rw [HC.out.2], Hbk2.out, Hbw2.out⟩
        case measure => simp [intOf]
      · have hout : k < lo ∨ hi ≤ k := by
          have h : ¬ (lo ≤ k ∧ k < hi) := fun h => hxa (HAk.out.2 h)
          omega
        have HC := Lib.hid (cntF_out hout)
        have d1 : (x == a) = false := by simpa using hxa
        clear hxa hout
        go_wp2_with fail
        go_roundw
        case rel => exact ⟨k, by omega, rfl, by rw [HC.out.1], by rw [HC.out.2], Hbk2.out, Hbw2.out⟩
        case measure => simp [intOf]
/-- The blocks that have inodes: how many, and the first one. -/
theorem count3_any (l : Lay14) (w : World) :
    Calls Try.prog 6 #[.agg l.val, .int .i64 3] w fun e w' => e = .returned (.tuple #[.int .i64 l.tn, .int .i64 l.tf]) ∧ Below w.heap.size w w' := by
  cases hm : l.may
  · have h := count_any l 3 0 0 (by omega) (fun k _ => by rw [Lay14.area_off hm]; omega) w
    rwa [(cntF_end (Nat.le_refl 0)).1, (cntF_end (Nat.le_refl 0)).2, show (((0 : Nat) : Int)) = 0 from rfl, ← (Lay14.off hm).2.1, show l.tn = l.tf by rw [(Lay14.off hm).1, (Lay14.off hm).2.1]] at *
  · have ho := Lay14.on hm
    have h := count_any l 3 2 l.data.toNat (by omega) (fun k _ => by rw [Lay14.area3_iff hm]; omega) w
    rw [cntF_zero, fstF_zero (by omega), show ((l.data.toNat - 2 : Nat) : Int) = l.tn by omega, show ((2 : Nat) : Int) = l.tf by rw [ho.1]; rfl] at h
    exact h
/-- The data blocks. -/
theorem count4_any (l : Lay14) (w : World) :
    Calls Try.prog 6 #[.agg l.val, .int .i64 4] w fun e w' => e = .returned (.tuple #[.int .i64 l.many, .int .i64 l.data]) ∧ Below w.heap.size w w' := by
  cases hm : l.may
  · have ho := Lay14.off hm
    have h := count_any l 4 0 0 (by omega) (fun k _ => by rw [Lay14.area_off hm]; omega) w
    rw [(cntF_end (Nat.le_refl 0)).1, (cntF_end (Nat.le_refl 0)).2] at h
    rw [ho.2.2.1, ho.2.2.2]
    exact h
  · have ho := Lay14.on hm
    have h := count_any l 4 l.data.toNat l.blocks.toNat (by omega) (fun k _ => by rw [Lay14.area4_iff hm]; omega) w
    rw [cntF_zero, fstF_zero (by omega), show ((l.blocks.toNat - l.data.toNat : Nat) : Int) = l.many by omega, show ((l.data.toNat : Nat) : Int) = l.data by omega] at h
    exact h

set_option maxHeartbeats 800000 in
theorem ris_any (l : Lay14) (i : Int) (w : World) :
    Calls Try.prog 17 #[.agg l.val, .int .i64 i] w fun e w' => e = .returned (.bool (l.isI i)) ∧ Below w.heap.size w w' := by
  go_enter Try.func17, Try.ntmps17
  go_wp2_with (refine wpList_box_row rfl _ _ rfl _ rfl ?_)
  apply Stop.go; intro w1 Hg1 Hb1
  go_wp2_with (refine wpList_load_blk rfl _ _ rfl _ rfl _ _ Hb1.out _ Try.underlying24 rfl Try.laySize ?_)
  refine (rmay_any l _).mono ?_; rintro e w2 ⟨rfl, hb2⟩
  have Hbel := Lib.hid (bt Hg1.out.1 hb2)
  have Hb2 := Lib.hid (Hb1.out.ext hb2)
  clear hb2
  obtain ⟨b, Hm⟩ : ∃ b, Hid (l.may = b) := ⟨_, Lib.hid rfl⟩
  rw [Hm.out]
  cases b
  · go_wp2_with fail
    go_ret
    rw [Lay14.isI_off Hm.out]
    exact ⟨rfl, Hbel.out⟩
  · have c1 := Hb2.out.lay1
    by_cases h1 : 1 ≤ i <;> by_cases h2 : i ≤ l.inodes
    all_goals
      go_wp2_with fail
      go_ret
      exact ⟨congrArg (fun b => Ending.returned (.bool b)) (Bool.eq_iff_iff.2 (by rw [Lay14.isI_on Hm.out]; simp only [decide_eq_true_eq, Bool.false_eq_true, false_iff, true_iff]; omega)), Hbel.out⟩

set_option maxHeartbeats 1600000 in
theorem rwhere_any (l : Lay14) (i : Int) (w : World) :
    Calls Try.prog 15 #[.agg l.val, .int .i64 i] w fun e w' => e = .returned (.tuple #[.int .i64 (l.wb i), .int .i64 (l.wk i), .bool (l.isI i)]) ∧ Below w.heap.size w w' := by
  go_enter Try.func15, Try.ntmps15
  go_wp2_with (refine wpList_box_row rfl _ _ rfl _ rfl ?_)
  apply Stop.go; intro w1 Hg1 Hb1
  go_wp2_with (refine wpList_load_blk rfl _ _ rfl _ rfl _ _ Hb1.out _ Try.underlying24 rfl Try.laySize ?_)
  refine (ris_any l i _).mono ?_; rintro e w2 ⟨rfl, hb2⟩
  have Hbel := Lib.hid (bt Hg1.out.1 hb2)
  clear hb2
  obtain ⟨b, Hm⟩ : ∃ b, Hid (l.isI i = b) := ⟨_, Lib.hid rfl⟩
  rw [Hm.out]
  cases b
  · have h := Lay14.where_off Hm.out
    go_wp2_with fail
    go_ret3
    rw [Hm.out, h.1, h.2]
    exact ⟨rfl, Hbel.out⟩
  · have h := Lay14.where_on Hm.out
    have ho := Lay14.on h.1
    have HV := Lib.hid (And.intro h.2.2.2.1 h.2.2.2.2.1)
    obtain ⟨N, rfl⟩ : ∃ N : Nat, i = (N : Int) + 1 := ⟨(i - 1).toNat, by omega⟩
    have HN := Lib.hid (show N < 128 by omega)
    clear h ho
    go_wp2_with fail
    go_loopw [7, 8, 9] (fun b k i wr => ∃ n : Nat, n ≤ N ∧ i = .int .i64 ((n : Int) + 1) ∧ b = .int .i64 (2 + (n / 8 : Nat)) ∧ k = .int .i64 (n % 8 : Nat) ∧ wr = w2) (fun _ _ i _ => N + 1 - (intOf i).toNat)
    case atStart => exact ⟨0, Nat.zero_le _, rfl, rfl, rfl, rfl⟩
    case round =>
      obtain ⟨n, hn, rfl, rfl, rfl, rfl⟩ := hrel
      have hb := HN.out
      by_cases hlt : n < N
      · have d0 : decide ((n : Int) + 1 < (N : Int) + 1) = true := by simp; omega
        obtain ⟨q, hq⟩ : ∃ q, n / 8 = q := ⟨_, rfl⟩
        obtain ⟨r, hr⟩ : ∃ r, n % 8 = r := ⟨_, rfl⟩
        have HQ := Lib.hid (And.intro hq hr)
        have hqb : q ≤ 16 := by omega
        have hrb : r < 8 := by omega
        rw [hq, hr]
        clear hq hr
        by_cases h8 : r = 7
        · subst h8
          go_wp2_with fail
          go_roundw
          case rel => exact ⟨n + 1, by omega, by go_num, by have h := HQ.out; rw [show (n + 1) / 8 = q + 1 by omega]; go_num, by have h := HQ.out; rw [show (n + 1) % 8 = 0 by omega]; rfl, by first | rfl | trivial⟩
          case measure => simp [intOf]; omega
        · have d1 : ((r : Int) + 1 == 8) = false := by simp; omega
          have H8 := Lib.hid h8
          clear h8
          go_wp2_with fail
          go_roundw
          case rel => exact ⟨n + 1, by omega, by go_num, by have h := HQ.out; have h' := H8.out; rw [show (n + 1) / 8 = q by omega], by have h := HQ.out; have h' := H8.out; rw [show (n + 1) % 8 = r + 1 by omega]; go_num, by first | rfl | trivial⟩
          case measure => simp [intOf]; omega
      · obtain rfl : n = N := by omega
        go_wp2_with fail
        go_ret3
        rw [Hm.out, HV.out.1, HV.out.2]
        exact ⟨by rw [show (n : Int) + 1 - 1 = n by omega]; rfl, Hbel.out⟩

end Go.Proofs.Ytffemgjbicebeaa
