/-
  Contracts of package disk: Fuse, Up, Down, Writes, Reads, Size.
-/
import Derived.Test.YtknbjdldmednlaaGreatGrI
namespace Go.Proofs.YtknbjdldmednlaaGreat
open Go.RowKit

/-- Fuse. -/
theorem fuse_any (b g : Nat) (n : Int) (d : Dev) (w : World) (h : DV w b g d) (hn : n < 9223372036854775808) :
    Calls Tryz.prog 33 #[.pointer (some ⟨b, 0, none⟩), .int .i64 n] w fun e w' => e = .returned (.tuple #[]) ∧ Only w w' b ∧ DV w' b g (d.setFuse n) := by
  obtain ⟨fz, hb, hq⟩ := h.ds
  have H := Lib.hid h
  clear h
  obtain ⟨r, Hr⟩ : ∃ r, Hid (decide (0 ≤ n) = r) := ⟨_, Lib.hid rfl⟩
  have hr := Hr.out
  go_enter Tryz.func33, Tryz.ntmps33
  go_wp2_with (refine wpList_store_cell rfl _ _ _ rfl Tryz.boolSize _ _ rfl (.bool r) rfl rfl rfl _ _ hb (by rw [dcells_size]; omega) ?_)
  apply Stop.go; intro w1 Ho1 Hb1
  go_wp2_with (refine wpList_store_cell rfl _ _ _ rfl Tryz.intSize _ _ rfl (.int .i64 n) rfl rfl rfl _ _ Hb1.out (by rw [Array.size_setIfInBounds, dcells_size]; omega) ?_)
  apply Stop.go; intro w2 Ho2 Hb2
  go_wp2_with fail
  go_end0
  have ho := Ho1.out.trans Ho2.out
  have hd : decide (0 ≤ (if n < 0 then -1 else n)) = r := by
    rw [← Hr.out]
    by_cases h0 : n < 0
    · rw [if_pos h0, decide_eq_false (show ¬ 0 ≤ n by omega)]; rfl
    · rw [if_neg h0]
  refine ⟨rfl, ho, ⟨n, ?_, fun h0 => ?_⟩, H.out.bks, H.out.blk.only ho (Ne.symm H.out.ne), H.out.ne, H.out.len, ?_⟩
  · show Blk w2 b _ (dcells _ _ (decide (0 ≤ (if n < 0 then -1 else n))) _ _ _)
    rw [hd]
    exact Hb2.out
  · have h0' : 0 ≤ (if n < 0 then -1 else n) := h0
    show n = (if n < 0 then -1 else n)
    split <;> (try split at h0') <;> omega
  · show (if n < 0 then -1 else n) < _
    split <;> omega

/-- Up. -/
theorem up_any (b g : Nat) (d : Dev) (w : World) (h : DV w b g d) :
    Calls Tryz.prog 34 #[.pointer (some ⟨b, 0, none⟩)] w fun e w' => e = .returned (.tuple #[]) ∧ Only w w' b ∧ DV w' b g d.up := by
  obtain ⟨fz, hb, hq⟩ := h.ds
  have H := Lib.hid h
  clear h
  go_enter Tryz.func34, Tryz.ntmps34
  go_wp2_with (refine wpList_store_cell rfl _ _ _ rfl Tryz.boolSize _ _ rfl (.bool false) rfl rfl rfl _ _ hb (by rw [dcells_size]; omega) ?_)
  apply Stop.go; intro w1 Ho1 Hb1
  go_wp2_with (refine wpList_store_cell rfl _ _ _ rfl Tryz.boolSize _ _ rfl (.bool false) rfl rfl rfl _ _ Hb1.out (by rw [Array.size_setIfInBounds, dcells_size]; omega) ?_)
  apply Stop.go; intro w2 Ho2 Hb2
  go_wp2_with fail
  go_end0
  have ho := Ho1.out.trans Ho2.out
  refine ⟨rfl, ho, ⟨fz, Hb2.out, fun h0 => ?_⟩, H.out.bks, H.out.blk.only ho (Ne.symm H.out.ne), H.out.ne, H.out.len, ?_⟩
  · exact absurd h0 (by show ¬ (0 : Int) ≤ -1; decide)
  · show (-1 : Int) < _
    decide

section
variable (b : Nat) (V : Value) (d : Dev) (w : World) (h : DS w 69 b V d)
include h
/-- Down. -/
theorem down_any : Calls Tryz.prog 13 #[.pointer (some ⟨b, 0, none⟩)] w fun e w' => e = .returned (.bool d.off) ∧ w' = w := by
  obtain ⟨fz, hb, hq⟩ := h
  have c1 := hb.cell 1
  simp only [dcells, List.getElem?_toArray, List.getElem?_cons_zero, List.getElem?_cons_succ] at c1
  go_enter Tryz.func13, Tryz.ntmps13
  go_wp2_with fail
  go_ret
  exact ⟨rfl, rfl⟩
/-- Writes. -/
theorem writes_any : Calls Tryz.prog 12 #[.pointer (some ⟨b, 0, none⟩)] w fun e w' => e = .returned (.int .i64 d.wr) ∧ w' = w := by
  obtain ⟨fz, hb, hq⟩ := h
  have c1 := hb.cell 4
  simp only [dcells, List.getElem?_toArray, List.getElem?_cons_zero, List.getElem?_cons_succ] at c1
  go_enter Tryz.func12, Tryz.ntmps12
  go_wp2_with fail
  go_ret
  exact ⟨rfl, rfl⟩
end
/-! What is told of a device that is nil. -/

end Go.Proofs.YtknbjdldmednlaaGreat
