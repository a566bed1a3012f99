/-
  Contracts of package chart: isBit, mask, Has, With.
-/
import Derived.Test.YtpdeohmgjblkeaaGrA
import Derived.Test.YtpdeohmgjblkeaaChartA
import Derived.Test.YtpdeohmgjblkeaaGrB
import Derived.BigQuiet
import Derived.Deep.QuietTactic
import Derived.StillTailTactics
namespace Go.Proofs.Ytpdeohmgjblkeaa
open Go.RowKit


set_option maxHeartbeats 400000 in
theorem isBit_any (x : Int) (w : World) :
    Calls Try.prog 54 #[.int .i64 x] w fun e w' => e = .returned (.bool (isBitB x)) ∧ w = w' := by
  by_cases h : 0 ≤ x
  · go_enter Try.func54, Try.ntmps54
    go_wp2
    go_ret
    simp [h, isBitB]
  · go_enter Try.func54, Try.ntmps54
    go_wp2
    go_ret
    simp [isBitB]; omega

theorem isBit_q (x : Int) (w : World) :
    Calls Try.prog 54 #[.int .i64 x] w fun e w' => e = .returned (.bool (isBitB x)) ∧ w' = w := (isBit_any x w).mono fun _ _ h => ⟨h.1, h.2.symm⟩

theorem mask_key (k : Nat) : (2 : Int) ^ (k % 8) % 256 = ((2 ^ (k % 8) : Nat) : Int) := by
  have h := pow_byte (show k % 8 < 8 by omega)
  have e : (2 : Int) ^ (k % 8) = ((2 ^ (k % 8) : Nat) : Int) := by push_cast; rfl
  rw [e]
  generalize 2 ^ (k % 8) = m at h ⊢
  omega
set_option maxHeartbeats 400000 in
theorem mask_any (k : Nat) (hk : k < 2048) (w : World) :
    Calls Try.prog 55 #[.int .i64 k] w fun e w' => e = .returned (.int .u8 ((2 ^ (k % 8) : Nat) : Int)) ∧ w = w' := by
  go_enter Try.func55, Try.ntmps55
  go_wp2
  go_ret
  rw [← mask_key]
  exact ⟨rfl, rfl⟩
theorem mask_q (k : Nat) (hk : k < 2048) (w : World) :
    Calls Try.prog 55 #[.int .i64 k] w fun e w' => e = .returned (.int .u8 ((2 ^ (k % 8) : Nat) : Int)) ∧ w' = w := (mask_any k hk w).mono fun _ _ h => ⟨h.1, h.2.symm⟩

/-- The byte in which a bit is. -/
theorem byte_of_bit {L : List UInt8} (hL : L.length = 256) {p : Nat} (hp : p < 2048) : ∃ x : UInt8, L[p / 8]? = some x ∧ bitAt L p = x.toNat.testBit (p % 8) ∧ L.getD (p / 8) 0 = x := by
  have h : p / 8 < L.length := by omega
  have e : L.getD (p / 8) 0 = L[p / 8] := by simp [List.getD, h]
  exact ⟨L[p / 8], List.getElem?_eq_getElem h, by unfold bitAt; rw [e], e⟩
theorem bit_neq (x : UInt8) (r : Nat) (h : r < 8) : (bits .and .u8 (x.toNat : Int) ((2 ^ r : Nat) : Int) != 0) = x.toNat.testBit r := by
  rw [bits_and_mask x r h]
  have := and_mask x.toNat r
  cases e : x.toNat.testBit r
  · rw [this.2 e]; rfl
  · have h2 : ¬ (x.toNat &&& 2 ^ r) = 0 := fun h => by rw [this.1 h] at e; cases e
    simp only [bne_iff_ne, ne_eq]
    omega
theorem bit_eql (x : UInt8) (r : Nat) (h : r < 8) : (bits .and .u8 (x.toNat : Int) ((2 ^ r : Nat) : Int) == 0) = !x.toNat.testBit r := by
  rw [← bit_neq x r h]
  simp [bne]

set_option maxHeartbeats 800000 in
theorem has_any (L : List UInt8) (hL : L.length = 256) (i : Int) (w : World) :
    Calls Try.prog 32 #[.agg (bcells L), .int .i64 i] w fun e w' => e = .returned (.bool (hasB L i)) ∧ Below w.heap.size w w' := by
  have HL := Lib.hid hL
  cases hf : isBitB i
  · have Hf := Lib.hid hf
    have Hh := Lib.hid (show hasB L i = false by unfold hasB; rw [hf]; rfl)
    clear hf hL
    go_enter Try.func32, Try.ntmps32
    go_wp2_with (refine wpList_box_row rfl _ _ rfl _ rfl ?_)
    apply Stop.go; intro w1 Hg1 Hb1
    have HB := Lib.hid (isBit_q i)
    rw [Hf.out] at HB
    go_wp2_with fail
    go_quiet ((go_at_call 54; exact Calls.quiet_of_same (HB.out _)))
    go_wp2_with fail
    go_ret
    rw [Hh.out]
    exact ⟨rfl, bt Hg1.out.1 (bdrew _ _)⟩
  · have Hf := Lib.hid hf
    have h := hf
    simp only [isBitB, decide_eq_true_eq] at h
    obtain ⟨h1, h2⟩ := h
    obtain ⟨p, rfl⟩ := Int.eq_ofNat_of_zero_le h1
    have hp : p < 2048 := by omega
    obtain ⟨x, hx, hbit, -⟩ := byte_of_bit hL hp
    have Hh := Lib.hid (show hasB L p = bitAt L p by unfold hasB; rw [hf]; rfl)
    obtain ⟨r, hr⟩ : ∃ r, bitAt L p = r := ⟨_, rfl⟩
    have hk := bit_neq x (p % 8) (by omega)
    rw [← hbit, hr] at hk
    rw [hr] at Hh
    have HB := Lib.hid (isBit_q p)
    rw [Hf.out] at HB
    have HM := Lib.hid (mask_q p hp)
    generalize ((2 ^ (p % 8) : Nat) : Int) = M at *
    clear hf hL hbit hr
    go_enter Try.func32, Try.ntmps32
    go_wp2_with (refine wpList_box_row rfl _ _ rfl _ rfl ?_)
    apply Stop.go; intro w1 Hg1 Hb1
    have hc : w1.cell? ⟨w.heap.size, p / 8, none⟩ = some (.int .u8 (x.toNat : Int)) := by rw [Hb1.out.cell, bcells_get, hx]; rfl
    have hxlt := x.toNat_lt
    go_wp2_with fail
    go_quiet (first | (go_at_call 54; exact Calls.quiet_of_same (HB.out _)) | (go_at_call 55; exact Calls.quiet_of_same (HM.out _)))
    go_wp2_with fail
    go_ret
    rw [Hh.out]
    exact ⟨rfl, bt Hg1.out.1 (bdrew _ _)⟩

set_option maxRecDepth 20000 in
set_option maxHeartbeats 800000 in
theorem cwith_any (L : List UInt8) (hL : L.length = 256) (i : Int) (on : Bool) (w : World) :
    Calls Try.prog 68 #[.agg (bcells L), .int .i64 i, .bool on] w fun e w' => e = .returned (.agg (bcells (withL L i on))) ∧ Below w.heap.size w w' := by
  have HL := Lib.hid hL
  cases hf : isBitB i
  · have Hf := Lib.hid hf
    have Hh := Lib.hid (show withL L i on = L from withL_out L i on (by unfold isBitB at hf; simp at hf; omega))
    clear hf hL
    go_enter Try.func68, Try.ntmps68
    go_wp2_with (refine wpList_box_row rfl _ _ rfl _ rfl ?_)
    apply Stop.go; intro w1 Hg1 Hb1
    go_wp2_with (refine wpList_alloc_row rfl _ rfl _ Try.blockZero ?_)
    apply Stop.go; intro w2 Hg2 Hb2
    have z1 := Lib.hid Hg1.out.2
    go_wp2_with fail
    refine (isBit_any i _).mono ?_; rintro e w' ⟨rfl, rfl⟩
    rw [Hf.out]
    go_wp2_with (first | refine wpList_load_arr rfl _ _ rfl _ rfl _ _ (Hb1.out.ext Hg2.out.1) _ _ Try.underlying49 (Try.blockFits HL.out) ?_ | refine wpList_store_arr rfl _ _ _ rfl _ _ rfl rfl _ _ Hb2.out (Try.blockFits HL.out) (by rw [bcells_size, bcells_size, HL.out, zeros_len]) (oneCell_bcells _) ?_)
    apply Stop.go; intro w4 Ho4 Hb4
    go_wp2_with ((with_reducible show bodyPost _ _ _ _ _ _); refine bodyPost_cell rfl _ rfl _ _ Hb4.out _ _ Try.underlying49 (Try.blockFits HL.out) rfl ?_)
    apply Stop.go
    rw [Hh.out]
    exact ⟨rfl, bonly (bt Hg1.out.1 Hg2.out.1) Ho4.out (by have := z1.out; omega)⟩
  · have Hf := Lib.hid hf
    have h := hf
    simp only [isBitB, decide_eq_true_eq] at h
    obtain ⟨h1, h2⟩ := h
    obtain ⟨p, rfl⟩ := Int.eq_ofNat_of_zero_le h1
    have hp : p < 2048 := by omega
    obtain ⟨x, hx, -, hxd⟩ := byte_of_bit hL hp
    have Hw := Lib.hid (withL_flip L p on (by omega))
    have HL3 : Hid ((withL L p on).length = 256) := Lib.hid (by rw [withL_len, hL])
    rw [hxd] at Hw
    have HM := Lib.hid (mask_q p hp)
    have hxlt := x.toNat_lt
    clear hf hxd
    obtain ⟨q, hq⟩ : ∃ q, p / 8 = q := ⟨_, rfl⟩
    have hqw : IntKind.i64.wrap (q : Int) = q := IntWalk.i64_in _ (by omega)
    have hqq : (p : Int) / 8 = q := by omega
    have hqn : q < 256 := by omega
    have hql : (q : Int) < 256 := by omega
    rw [hq] at hx Hw
    clear hq
    cases on
    · have ho := bits_not_mask x (p % 8) (by omega)
      obtain ⟨y, hy⟩ : ∃ y, flipU x (p % 8) false = y := ⟨_, rfl⟩
      have hy' := hy
      unfold flipU at hy'
      simp only [Bool.false_eq_true, if_false] at hy'
      rw [hy'] at ho
      rw [hy] at Hw
      clear hy hy'
      generalize ((2 ^ (p % 8) : Nat) : Int) = M at *
      go_enter Try.func68, Try.ntmps68
      go_wp2_with (refine wpList_box_row rfl _ _ rfl _ rfl ?_)
      apply Stop.go; intro w1 Hg1 Hb1
      go_wp2_with (refine wpList_alloc_row rfl _ rfl _ Try.blockZero ?_)
      apply Stop.go; intro w2 Hg2 Hb2
      have z1 := Lib.hid Hg1.out.2
      go_wp2_with fail
      refine (isBit_any p _).mono ?_; rintro e w' ⟨rfl, rfl⟩
      rw [Hf.out]
      have Hb1' := Lib.hid (Hb1.out.ext Hg2.out.1)
      have hc : w2.cell? ⟨w.heap.size, q, none⟩ = some (.int .u8 (x.toNat : Int)) := by rw [Hb1'.out.cell, bcells_get, hx]; rfl
      go_wp2_with fail
      refine wp_region_still_tail 8 (by kernel_rfl) (by kernel_rfl) ?_
      simp only [List.take_succ_cons, List.take_zero, List.drop_succ_cons, List.drop_zero]
      iterate 5 still_step
      still_call (HM.out _)
      still_step
      still_step
      refine wpStill_nil ?_
      change wpList _ _ _ _ _ w2.drew
      refine wpList_store_cell rfl _ _ _ rfl Try.byteSize _ q rfl (.int .u8 (y.toNat : Int)) rfl rfl rfl _ _ Hb1'.out (by rw [bcells_size, HL.out]; exact hqn) ?_
      apply Stop.go; intro w3 Ho3 Hb3
      rw [bcells_set, Hw.out] at Hb3
      have Ho3' := Lib.hid (show Only w2 w3 w.heap.size from ⟨Ho3.out.os, Ho3.out.tape, Ho3.out.output, Ho3.out.size, Ho3.out.block⟩)
      clear hc
      go_wp2_with (first | refine wpList_load_arr rfl _ _ rfl _ rfl _ _ Hb3.out _ _ Try.underlying49 (Try.blockFits HL3.out) ?_ | refine wpList_store_arr rfl _ _ _ rfl _ _ rfl rfl _ _ (Hb2.out.only Ho3'.out (by rw [z1.out]; omega)) (Try.blockFits HL3.out) (by rw [bcells_size, bcells_size, HL3.out, zeros_len]) (oneCell_bcells _) ?_)
      apply Stop.go; intro w4 Ho4 Hb4
      go_wp2_with ((with_reducible show bodyPost _ _ _ _ _ _); refine bodyPost_cell rfl _ rfl _ _ Hb4.out _ _ Try.underlying49 (Try.blockFits HL3.out) rfl ?_)
      apply Stop.go
      exact bonly (bonly (bt Hg1.out.1 Hg2.out.1) Ho3'.out (Nat.le_refl _)) Ho4.out (by rw [z1.out]; omega)
    · have ho := bits_or_mask x (p % 8) (by omega)
      obtain ⟨y, hy⟩ : ∃ y, flipU x (p % 8) true = y := ⟨_, rfl⟩
      have hy' := hy
      unfold flipU at hy'
      simp only [if_true] at hy'
      rw [hy'] at ho
      rw [hy] at Hw
      clear hy hy'
      generalize ((2 ^ (p % 8) : Nat) : Int) = M at *
      go_enter Try.func68, Try.ntmps68
      go_wp2_with (refine wpList_box_row rfl _ _ rfl _ rfl ?_)
      apply Stop.go; intro w1 Hg1 Hb1
      go_wp2_with (refine wpList_alloc_row rfl _ rfl _ Try.blockZero ?_)
      apply Stop.go; intro w2 Hg2 Hb2
      have z1 := Lib.hid Hg1.out.2
      go_wp2_with fail
      refine (isBit_any p _).mono ?_; rintro e w' ⟨rfl, rfl⟩
      rw [Hf.out]
      have Hb1' := Lib.hid (Hb1.out.ext Hg2.out.1)
      have hc : w2.cell? ⟨w.heap.size, q, none⟩ = some (.int .u8 (x.toNat : Int)) := by rw [Hb1'.out.cell, bcells_get, hx]; rfl
      go_wp2_with fail
      refine wp_region_still_tail 8 (by kernel_rfl) (by kernel_rfl) ?_
      simp only [List.take_succ_cons, List.take_zero, List.drop_succ_cons, List.drop_zero]
      iterate 5 still_step
      still_call (HM.out _)
      still_step
      still_step
      refine wpStill_nil ?_
      change wpList _ _ _ _ _ w2.drew
      refine wpList_store_cell rfl _ _ _ rfl Try.byteSize _ q rfl (.int .u8 (y.toNat : Int)) rfl rfl rfl _ _ Hb1'.out (by rw [bcells_size, HL.out]; exact hqn) ?_
      apply Stop.go; intro w3 Ho3 Hb3
      rw [bcells_set, Hw.out] at Hb3
      have Ho3' := Lib.hid (show Only w2 w3 w.heap.size from ⟨Ho3.out.os, Ho3.out.tape, Ho3.out.output, Ho3.out.size, Ho3.out.block⟩)
      clear hc
      go_wp2_with (first | refine wpList_load_arr rfl _ _ rfl _ rfl _ _ Hb3.out _ _ Try.underlying49 (Try.blockFits HL3.out) ?_ | refine wpList_store_arr rfl _ _ _ rfl _ _ rfl rfl _ _ (Hb2.out.only Ho3'.out (by rw [z1.out]; omega)) (Try.blockFits HL3.out) (by rw [bcells_size, bcells_size, HL3.out, zeros_len]) (oneCell_bcells _) ?_)
      apply Stop.go; intro w4 Ho4 Hb4
      go_wp2_with ((with_reducible show bodyPost _ _ _ _ _ _); refine bodyPost_cell rfl _ rfl _ _ Hb4.out _ _ Try.underlying49 (Try.blockFits HL3.out) rfl ?_)
      apply Stop.go
      exact bonly (bonly (bt Hg1.out.1 Hg2.out.1) Ho3'.out (Nat.le_refl _)) Ho4.out (by rw [z1.out]; omega)

end Go.Proofs.Ytpdeohmgjblkeaa
