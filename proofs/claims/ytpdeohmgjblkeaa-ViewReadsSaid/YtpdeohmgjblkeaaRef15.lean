/-
  Contracts of the document's answer 15: Area, Count, Is, Where.
-/
import Derived.Test.YtpdeohmgjblkeaaGeo1
namespace Go.Proofs.Ytpdeohmgjblkeaa
open Go.RowKit



set_option maxHeartbeats 800000 in
theorem ris_any (l : Lay14) (i : Int) (w : World) :
    Calls Try.prog 57 #[.agg l.val, .int .i64 i] w fun e w' => e = .returned (.bool (l.isI i)) ∧ Below w.heap.size w w' := by
  go_enter Try.func57, Try.ntmps57
  go_wp2_with (refine wpList_box_row rfl _ _ rfl _ rfl ?_)
  apply Stop.go; intro w1 Hg1 Hb1
  go_wp2_with (refine wpList_load_blk rfl _ _ rfl _ rfl _ _ Hb1.out _ Try.underlying26 rfl Try.laySize ?_)
  refine (rmay_any l _).mono ?_; rintro e w2 ⟨rfl, hb2⟩
  have Hbel := Lib.hid (bt Hg1.out.1 hb2)
  have Hb2 := Lib.hid (Hb1.out.ext hb2)
  clear hb2
  obtain ⟨b, Hm⟩ : ∃ b, Hid (l.may = b) := ⟨_, Lib.hid rfl⟩
  rw [Hm.out]
  cases b
  · go_wp2_with fail
    go_ret
    rw [Lay14.isI_off Hm.out]
    exact ⟨rfl, Hbel.out⟩
  · have c1 := Hb2.out.lay1
    by_cases h1 : 1 ≤ i <;> by_cases h2 : i ≤ l.inodes
    all_goals
      go_wp2_with fail
      go_ret
      exact ⟨congrArg (fun b => Ending.returned (.bool b)) (Bool.eq_iff_iff.2 (by rw [Lay14.isI_on Hm.out]; simp only [decide_eq_true_eq, Bool.false_eq_true, false_iff, true_iff]; omega)), Hbel.out⟩

set_option maxHeartbeats 1600000 in
theorem rwhere_any (l : Lay14) (i : Int) (w : World) :
    Calls Try.prog 35 #[.agg l.val, .int .i64 i] w fun e w' => e = .returned (.tuple #[.int .i64 (l.wb i), .int .i64 (l.wk i), .bool (l.isI i)]) ∧ Below w.heap.size w w' := by
  go_enter Try.func35, Try.ntmps35
  go_wp2_with (refine wpList_box_row rfl _ _ rfl _ rfl ?_)
  apply Stop.go; intro w1 Hg1 Hb1
  go_wp2_with (refine wpList_load_blk rfl _ _ rfl _ rfl _ _ Hb1.out _ Try.underlying26 rfl Try.laySize ?_)
  refine (ris_any l i _).mono ?_; rintro e w2 ⟨rfl, hb2⟩
  have Hbel := Lib.hid (bt Hg1.out.1 hb2)
  clear hb2
  obtain ⟨b, Hm⟩ : ∃ b, Hid (l.isI i = b) := ⟨_, Lib.hid rfl⟩
  rw [Hm.out]
  cases b
  · have h := Lay14.where_off Hm.out
    go_wp2_with fail
    go_ret3
    rw [Hm.out, h.1, h.2]
    exact ⟨rfl, Hbel.out⟩
  · have h := Lay14.where_on Hm.out
    have ho := Lay14.on h.1
    have HV := Lib.hid (And.intro h.2.2.2.1 h.2.2.2.2.1)
    obtain ⟨N, rfl⟩ : ∃ N : Nat, i = (N : Int) + 1 := ⟨(i - 1).toNat, by omega⟩
    have HN := Lib.hid (show N < 128 by omega)
    clear h ho
    go_wp2_with fail
    go_loopw [7, 8, 9] (fun b k i wr => ∃ n : Nat, n ≤ N ∧ i = .int .i64 ((n : Int) + 1) ∧ b = .int .i64 (2 + (n / 8 : Nat)) ∧ k = .int .i64 (n % 8 : Nat) ∧ wr = w2) (fun _ _ i _ => N + 1 - (intOf i).toNat)
    case atStart => exact ⟨0, Nat.zero_le _, rfl, rfl, rfl, rfl⟩
    case round =>
      obtain ⟨n, hn, rfl, rfl, rfl, rfl⟩ := hrel
      have hb := HN.out
      by_cases hlt : n < N
      · have d0 : decide ((n : Int) + 1 < (N : Int) + 1) = true := by simp; omega
        obtain ⟨q, hq⟩ : ∃ q, n / 8 = q := ⟨_, rfl⟩
        obtain ⟨r, hr⟩ : ∃ r, n % 8 = r := ⟨_, rfl⟩
        have HQ := Lib.hid (And.intro hq hr)
        have hqb : q ≤ 16 := by omega
        have hrb : r < 8 := by omega
        rw [hq, hr]
        clear hq hr
        by_cases h8 : r = 7
        · subst h8
          go_wp2_with fail
          go_roundw
          case rel => exact ⟨n + 1, by omega, by go_num, by have h := HQ.out; rw [show (n + 1) / 8 = q + 1 by omega]; go_num, by have h := HQ.out; rw [show (n + 1) % 8 = 0 by omega]; rfl, by first | rfl | trivial⟩
          case measure => simp [intOf]; omega
        · have d1 : ((r : Int) + 1 == 8) = false := by simp; omega
          have H8 := Lib.hid h8
          clear h8
          go_wp2_with fail
          go_roundw
          case rel => exact ⟨n + 1, by omega, by go_num, by have h := HQ.out; have h' := H8.out; rw [show (n + 1) / 8 = q by omega], by have h := HQ.out; have h' := H8.out; rw [show (n + 1) % 8 = r + 1 by omega]; go_num, by first | rfl | trivial⟩
          case measure => simp [intOf]; omega
      · obtain rfl : n = N := by omega
        go_wp2_with fail
        go_ret3
        rw [Hm.out, HV.out.1, HV.out.2]
        exact ⟨by rw [show (n : Int) + 1 - 1 = n by omega]; rfl, Hbel.out⟩

end Go.Proofs.Ytpdeohmgjblkeaa
