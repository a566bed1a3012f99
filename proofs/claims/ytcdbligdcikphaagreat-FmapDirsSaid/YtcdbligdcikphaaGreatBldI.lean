/-
  A number laid into a block of its own. Plain; no program is named here.
-/
import Derived.Test.YtcdbligdcikphaaGreatGrC
import Derived.Great.BuildSlice
namespace Go.Proofs.YtcdbligdcikphaaGreat
open Go.RowKit

section
variable {P : Program} {w : World} {a : Act} {o : Oper} {K : Act → World → Prop} {Q : Exit → Act → World → Prop}
theorem run_build_int (P : Program) (w : World) (t e : TypeId) (ht : P.underlying t = some (.slice e)) (z : Value) (by_ : Nat) (hi : (P.info? e).map (fun i => (i.zero, i.size, i.bytes)) = some (some z, 1, by_)) (X : Int) :
    (Instr.buildSlice t 1 #[(0, .int .i64 X)]).run P w = .ok (.slice (some ⟨w.heap.size, 0, none⟩) 1 1) (w.alloc (.cells #[.int .i64 X] e)) := by
  obtain ⟨i, h1, h2, h3, h4⟩ := info_parts hi
  have hf : Instr.fill (fun i => some (i * 1, 1)) ((Array.range 1).map (z.cells[· % z.cells.size]!)) [(0, .int .i64 X)] = some #[.int .i64 X] := by
    have hsz : ((Array.range 1).map (z.cells[· % z.cells.size]!)).size = 1 := by simp
    generalize (Array.range 1).map (z.cells[· % z.cells.size]!) = cs at hsz
    obtain ⟨l⟩ := cs
    match l, hsz with
    | [c0], _ => simp [Instr.fill, Value.cells]
  exact run_buildSlice w t e 1 _ _ i z ht h1 h2 (by omega) (by omega) (by rw [h3]; exact hf)
theorem ow_build_int (t e : TypeId) (x : Operand) (ho : o.op = .buildSlice t 1 #[(0, x)]) (ht : P.underlying t = some (.slice e)) (z : Value) (by_ : Nat) (hi : (P.info? e).map (fun i => (i.zero, i.size, i.bytes)) = some (some z, 1, by_)) (X : Int) (hx : a.eval x = .int .i64 X)
    (h : K (a.put o.dst (.slice (some ⟨w.heap.size, 0, none⟩) 1 1)) (w.alloc (.cells #[.int .i64 X] e))) : o.wp P a w K Q := by
  unfold Oper.wp execOp
  simp only [ho, hx, Sem.run_bind, List.map_toArray, List.map_cons, List.map_nil, run_build_int P w t e ht z by_ hi X, Result.andThen_ok]
  exact h
/-- The same, wherever that block lies. -/
theorem ow_build_own (t e : TypeId) (x : Operand) (ho : o.op = .buildSlice t 1 #[(0, x)]) (ht : P.underlying t = some (.slice e)) (z : Value) (by_ : Nat) (hi : (P.info? e).map (fun i => (i.zero, i.size, i.bytes)) = some (some z, 1, by_)) (X : Int) (hx : a.eval x = .int .i64 X)
    (h : Stop (∀ v w', Hid (Grew w w') → Hid (OwnC w' w.heap.size e v [.int .i64 X]) → K (a.put o.dst v) w')) : o.wp P a w K Q :=
  ow_build_int t e x ho ht z by_ hi X hx (h _ _ (Grew.alloc w _) (World.ownsRow_lit w #[.int .i64 X] 1 (Nat.le_refl _) (by unfold maxLen; omega) rfl))
end

end Go.Proofs.YtcdbligdcikphaaGreat
