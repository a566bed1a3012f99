/-
  Contracts of package chart: Make, Patch.
-/
import Derived.Test.YtpdeohmgjblkeaaChart1
namespace Go.Proofs.Ytpdeohmgjblkeaa
open Go.RowKit
set_option maxRecDepth 10000

set_option maxHeartbeats 1600000 in
theorem make_any (A : Option Addr) (n cap : Nat) (l : List Int) (hn : l.length = n) (hm : n ≤ maxLen) (w : World) (hr : RC w A (ivals l)) :
    Calls Try.prog 41 #[.slice A n cap] w fun e w' => e = .returned (.agg (bcells (blockL 256 (makeF l)))) ∧ Below w.heap.size w w' := by
  unfold maxLen at hm
  have Hn := Lib.hid hn
  have Hr := Lib.hid hr
  clear hn hr
  go_enter Try.func41, Try.ntmps41
  go_wp2_with (refine wpList_alloc_row rfl _ rfl _ Try.blockZero ?_)
  apply Stop.go; intro w1 Hg1 Hb1
  go_wp2_with (refine wpList_alloc_row rfl _ rfl _ Try.blockZero ?_)
  apply Stop.go; intro w2 Hg2 Hb2
  have Z1 := Lib.hid Hg1.out.2
  have Z2 := Lib.hid Hg2.out.2
  have Hw2 := Lib.hid (bt Hg1.out.1 Hg2.out.1)
  have Hb1' := Lib.hid (Hb1.out.ext Hg2.out.1)
  go_wp2_with fail
  go_loopw [8] (fun i wr => ∃ k : Nat, k ≤ n ∧ i = .int .i64 k ∧ Blk wr w1.heap.size 49 (bcells (blockL 256 (makeF (l.take k)))) ∧ Blk wr w.heap.size 49 (bcells (zeros 256)) ∧ Below w.heap.size w wr) (fun i _ => n - (intOf i).toNat)
  case atStart => exact ⟨0, Nat.zero_le _, rfl, by rw [List.take_zero, make_start]; exact Hb2.out, Hb1'.out, Hw2.out⟩
  case round =>
    obtain ⟨k, hk, rfl, hbk, hbz, hbw⟩ := hrel
    have Hbk := Lib.hid hbk
    have Hbz := Lib.hid hbz
    have Hbw := Lib.hid hbw
    clear hbk hbz hbw
    by_cases hlt : k < n
    · have hkl : k < l.length := by rw [Hn.out]; exact hlt
      have d0 : decide ((k : Int) < n) = true := by simpa using hlt
      obtain ⟨ad, rfl, hc⟩ := (Hr.out.below Hbw.out).int k hkl
      have HL := Lib.hid (blockL_len 256 (makeF (l.take k)))
      have HN := Lib.hid (make_next 256 (l.take k) l[k])
      rw [← List.take_succ_eq_append_getElem hkl] at HN
      have HL3 := Lib.hid (blockL_len 256 (makeF (l.take (k + 1))))
      generalize l[k] = z at *
      go_wp2_with (refine wpList_load_arr rfl _ _ rfl _ rfl _ _ Hbk.out _ _ Try.underlying49 (Try.blockFits HL.out) ?_)
      refine (cwith_any _ HL.out z true _).mono ?_; rintro e w4 ⟨rfl, hb4⟩
      rw [HN.out]
      have Hb4 := Lib.hid hb4
      clear hb4
      go_wp2_with (refine wpList_store_arr rfl _ _ _ rfl _ _ rfl rfl _ _ (Hbk.out.ext Hb4.out) (Try.blockFits HL3.out) (by rw [bcells_size, bcells_size, HL3.out, HL.out]) (oneCell_bcells _) ?_)
      apply Stop.go; intro w5 Ho5 Hb5
      go_wp2_with fail
      go_roundw
      case rel => exact ⟨k + 1, by omega, by go_num, Hb5.out, (Hbz.out.ext Hb4.out).only Ho5.out (by rw [Z1.out]; omega), bonly (bt Hbw.out Hb4.out) Ho5.out (by rw [Z1.out]; omega)⟩
      case measure => simp [intOf]; omega
    · have d0 : decide ((k : Int) < n) = false := by simpa using hlt
      have Hl := Lib.hid (show l.take k = l from List.take_of_length_le (by rw [Hn.out]; omega))
      have HL := Lib.hid (blockL_len 256 (makeF l))
      rw [Hl.out] at Hbk
      go_wp2_with (first | refine wpList_load_arr rfl _ _ rfl _ rfl _ _ Hbk.out _ _ Try.underlying49 (Try.blockFits HL.out) ?_ | refine wpList_store_arr rfl _ _ _ rfl _ _ rfl rfl _ _ Hbz.out (Try.blockFits HL.out) (by rw [bcells_size, bcells_size, HL.out, zeros_len]) (oneCell_bcells _) ?_)
      apply Stop.go; intro w6 Ho6 Hb6
      go_wp2_with ((with_reducible show bodyPost _ _ _ _ _ _); refine bodyPost_cell rfl _ rfl _ _ Hb6.out _ _ Try.underlying49 (Try.blockFits HL.out) rfl ?_)
      apply Stop.go
      exact bonly Hbw.out Ho6.out (Nat.le_refl _)


end Go.Proofs.Ytpdeohmgjblkeaa
