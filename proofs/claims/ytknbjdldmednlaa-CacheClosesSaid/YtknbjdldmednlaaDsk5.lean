/-
  Contracts of package disk: Fuse, Up, Down, Writes, Reads, Size.
-/
import Derived.Test.YtknbjdldmednlaaGrI
namespace Go.Proofs.Ytknbjdldmednlaa
open Go.RowKit

/-- Fuse. -/
theorem fuse_any (b g : Nat) (n : Int) (d : Dev) (w : World) (h : DV w b g d) (hn : n < 9223372036854775808) :
    Calls Try.prog 43 #[.pointer (some ⟨b, 0, none⟩), .int .i64 n] w fun e w' => e = .returned (.tuple #[]) ∧ Only w w' b ∧ DV w' b g (d.setFuse n) := by
  obtain ⟨fz, hb, hq⟩ := h.ds
  have H := Lib.hid h
  clear h
  obtain ⟨r, Hr⟩ : ∃ r, Hid (decide (0 ≤ n) = r) := ⟨_, Lib.hid rfl⟩
  have hr := Hr.out
  go_enter Try.func43, Try.ntmps43
  go_wp2_with (refine wpList_store_cell rfl _ _ _ rfl Try.boolSize _ _ rfl (.bool r) rfl rfl rfl _ _ hb (by rw [dcells_size]; omega) ?_)
  apply Stop.go; intro w1 Ho1 Hb1
  go_wp2_with (refine wpList_store_cell rfl _ _ _ rfl Try.intSize _ _ rfl (.int .i64 n) rfl rfl rfl _ _ Hb1.out (by rw [Array.size_setIfInBounds, dcells_size]; omega) ?_)
  apply Stop.go; intro w2 Ho2 Hb2
  go_wp2_with fail
  go_end0
  have ho := Ho1.out.trans Ho2.out
  have hd : decide (0 ≤ (if n < 0 then -1 else n)) = r := by
    rw [← Hr.out]
    by_cases h0 : n < 0
    · rw [if_pos h0, decide_eq_false (show ¬ 0 ≤ n by omega)]; rfl
    · rw [if_neg h0]
  refine ⟨rfl, ho, ⟨n, ?_, fun h0 => ?_⟩, H.out.bks, H.out.blk.only ho (Ne.symm H.out.ne), H.out.ne, H.out.len, ?_⟩
  · show Blk w2 b _ (dcells _ _ (decide (0 ≤ (if n < 0 then -1 else n))) _ _ _)
    rw [hd]
    exact Hb2.out
  · have h0' : 0 ≤ (if n < 0 then -1 else n) := h0
    show n = (if n < 0 then -1 else n)
    split <;> (try split at h0') <;> omega
  · show (if n < 0 then -1 else n) < _
    split <;> omega

/-- Up. -/
theorem up_any (b g : Nat) (d : Dev) (w : World) (h : DV w b g d) :
    Calls Try.prog 23 #[.pointer (some ⟨b, 0, none⟩)] w fun e w' => e = .returned (.tuple #[]) ∧ Only w w' b ∧ DV w' b g d.up := by
  obtain ⟨fz, hb, hq⟩ := h.ds
  have H := Lib.hid h
  clear h
  go_enter Try.func23, Try.ntmps23
  go_wp2_with (refine wpList_store_cell rfl _ _ _ rfl Try.boolSize _ _ rfl (.bool false) rfl rfl rfl _ _ hb (by rw [dcells_size]; omega) ?_)
  apply Stop.go; intro w1 Ho1 Hb1
  go_wp2_with (refine wpList_store_cell rfl _ _ _ rfl Try.boolSize _ _ rfl (.bool false) rfl rfl rfl _ _ Hb1.out (by rw [Array.size_setIfInBounds, dcells_size]; omega) ?_)
  apply Stop.go; intro w2 Ho2 Hb2
  go_wp2_with fail
  go_end0
  have ho := Ho1.out.trans Ho2.out
  refine ⟨rfl, ho, ⟨fz, Hb2.out, fun h0 => ?_⟩, H.out.bks, H.out.blk.only ho (Ne.symm H.out.ne), H.out.ne, H.out.len, ?_⟩
  · exact absurd h0 (by show ¬ (0 : Int) ≤ -1; decide)
  · show (-1 : Int) < _
    decide

section
variable (b : Nat) (V : Value) (d : Dev) (w : World) (h : DS w 91 b V d)
include h
/-- Writes. -/
theorem writes_any : Calls Try.prog 25 #[.pointer (some ⟨b, 0, none⟩)] w fun e w' => e = .returned (.int .i64 d.wr) ∧ w' = w := by
  obtain ⟨fz, hb, hq⟩ := h
  have c1 := hb.cell 4
  simp only [dcells, List.getElem?_toArray, List.getElem?_cons_zero, List.getElem?_cons_succ] at c1
  go_enter Try.func25, Try.ntmps25
  go_wp2_with fail
  go_ret
  exact ⟨rfl, rfl⟩
end
/-! What is told of a device that is nil. -/
theorem fuse_nil (n : Int) (w : World) : Calls Try.prog 43 #[.pointer none, .int .i64 n] w fun e w' => e = .returned (.tuple #[]) ∧ w' = w := by
  go_enter Try.func43, Try.ntmps43
  go_wp2_with fail
  go_end0
  exact ⟨rfl, rfl⟩
theorem up_nil (w : World) : Calls Try.prog 23 #[.pointer none] w fun e w' => e = .returned (.tuple #[]) ∧ w' = w := by
  go_enter Try.func23, Try.ntmps23
  go_wp2_with fail
  go_end0
  exact ⟨rfl, rfl⟩
theorem writes_nil (w : World) : Calls Try.prog 25 #[.pointer none] w fun e w' => e = .returned (.int .i64 0) ∧ w' = w := by
  go_enter Try.func25, Try.ntmps25
  go_wp2_with fail
  go_ret
  exact ⟨rfl, rfl⟩
theorem image_nil (w : World) : Calls Try.prog 24 #[.pointer none] w fun e w' => e = .returned (.slice none 0 0) ∧ w' = w := by
  go_enter Try.func24, Try.ntmps24
  go_wp2_with fail
  go_ret
  exact ⟨rfl, rfl⟩
theorem read_nil (no : Int) (w : World) : Calls Try.prog 42 #[.pointer none, .int .i64 no] w fun e w' => e = .returned (.tuple #[.agg (bcells (zeros 256)), .int .i64 1]) ∧ Below w.heap.size w w' := by
  go_enter Try.func42, Try.ntmps42
  go_wp2_with (refine wpList_alloc_row rfl _ rfl _ Try.blockZero ?_)
  apply Stop.go; intro w1 Hg1 Hb1
  have Hx1 := ((Blk.new w 42 #[.pointer none]).alloc (.cells #[.int .i64 no] 3)).ext Hg1.out.1
  have W1 := bt (Below.two w (.cells #[.pointer none] 42) (.cells #[.int .i64 no] 3)) Hg1.out.1
  have c1 := Hx1.cell 0
  simp only [List.getElem?_toArray, List.getElem?_cons_zero] at c1
  go_wp2_with (first | refine wpList_build_zero rfl _ rfl _ Try.blockZero _ _ Try.underlying27 Try.byteSize ?_ | refine wpList_store_arr rfl _ _ _ rfl _ _ rfl rfl _ _ Hb1.out (Try.blockFits (zeros_len 256)) rfl (oneCell_bcells _) ?_)
  apply Stop.go; intro w5 Ho5 Hb5
  go_wp2_with ((with_reducible show bodyPost _ _ _ _ _ _); refine bodyPost_cell_tmp rfl _ rfl _ _ Hb5.out _ _ Try.underlying27 (Try.blockFits (zeros_len 256)) rfl _ rfl ?_)
  apply Stop.go
  refine bonly W1 Ho5.out ?_
  omega
theorem write_nil (no : Int) (z : List UInt8) (w : World) : Calls Try.prog 35 #[.pointer none, .int .i64 no, .agg (bcells z)] w fun e w' => e = .returned (.int .i64 1) ∧ Below w.heap.size w w' := by
  go_enter Try.func35, Try.ntmps35
  go_wp2_with (refine wpList_box_row rfl _ _ rfl _ rfl ?_)
  apply Stop.go; intro w1 Hg1 Hb1
  have Hx1 := ((Blk.new w 42 #[.pointer none]).alloc (.cells #[.int .i64 no] 3)).ext Hg1.out.1
  have W1 := Lib.hid (bt (Below.two w (.cells #[.pointer none] 42) (.cells #[.int .i64 no] 3)) Hg1.out.1)
  have c1 := Hx1.cell 0
  simp only [List.getElem?_toArray, List.getElem?_cons_zero] at c1
  go_wp2_with fail
  go_ret
  exact ⟨rfl, W1.out⟩

end Go.Proofs.Ytknbjdldmednlaa
