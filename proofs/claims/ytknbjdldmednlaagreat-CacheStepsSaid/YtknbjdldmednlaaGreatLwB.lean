/-
  Laws on slices that are built of a few values, and of a few structs. Plain; no program is named here. Cut out of the texts on a law's works.
-/
import Derived.Test.YtknbjdldmednlaaGreatGrF
import Derived.Test.YtknbjdldmednlaaGreatGrG
namespace Go.Proofs.YtknbjdldmednlaaGreat
open Go.RowKit

section
variable {P : Program} {ops : Array Oper} {rest : List Oper} {o : Oper} {a : Act} {w : World} {K : Act → World → Prop} {Q : Exit → Act → World → Prop}
/-- A slice of one value of one cell. -/
theorem wpList_build_one1 (hgd : Region.wanted o (yielded ops a.tmps) = true) (t e : TypeId) (x : Operand) (ho : o.op = .buildSlice t 1 #[(0, x)]) (ht : P.underlying t = some (.slice e)) (by_ : Nat) (z : Value) (hi : (P.info? e).map (fun i => (i.zero, i.size, i.bytes)) = some (some z, 1, by_))
    (v : Value) (hx : a.eval x = v) (hv : v.cells = #[v]) (_ : z.cells = #[z])
    (h : Stop (∀ w', Hid (Grew w w') → Hid (Blk w' w.heap.size e #[v]) → wpList P ops Q rest (a.put o.dst (.slice (some ⟨w.heap.size, 0, none⟩) 1 1)) w')) : wpList P ops Q (o :: rest) a w := by
  refine wpList_wanted hgd fun K hK => ?_
  obtain ⟨i, h1, h2, h3, h4⟩ := info_parts hi
  have hf : Instr.fill (fun j => some (j * 1, 1)) ((Array.range (1 * 1)).map (z.cells[· % z.cells.size]!)) [(0, v)] = some #[v] := by
    have hsz : ((Array.range (1 * 1)).map (z.cells[· % z.cells.size]!)).size = 1 := by simp
    generalize (Array.range (1 * 1)).map (z.cells[· % z.cells.size]!) = cc at hsz
    obtain ⟨l⟩ := cc
    match l, hsz with
    | [c], _ => simp [Instr.fill, hv]
  have hr := run_buildSlice (P := P) w t e 1 #[(0, v)] #[v] i z ht h1 h2 (by omega) (by omega) (by rw [h3]; exact hf)
  unfold Oper.wp execOp
  simp only [ho, hx, Sem.run_bind, List.map_toArray, List.map_cons, List.map_nil, hr, Result.andThen_ok]
  exact hK _ _ (h _ (Grew.alloc w _) (Blk.new w e _))
end
theorem RC.of_blk1 {w : World} {g : Nat} {t : TypeId} {x : Int} (h : Blk w g t #[.int .i64 x]) : RC w (some ⟨g, 0, none⟩) (ivals [x]) := fun k hk => by
  obtain rfl : k = 0 := by simp [ivals] at hk; omega
  exact ⟨_, rfl, h.cell 0⟩
theorem RB.of_blk1 {w : World} {g : Nat} {t : TypeId} (h : Blk w g t #[.int .u8 1]) : RB w (some ⟨g, 0, none⟩) [1] := fun k hk => by
  obtain rfl : k = 0 := by simp at hk; omega
  exact ⟨_, rfl, h.cell 0⟩
theorem RB.of_blk9 {w : World} {g : Nat} {t : TypeId} (h : Blk w g t #[.int .u8 9]) : RB w (some ⟨g, 0, none⟩) [9] := fun k hk => by
  obtain rfl : k = 0 := by simp at hk; omega
  exact ⟨_, rfl, h.cell 0⟩
theorem RCL.drop {w : World} {ad : Addr} {l : List Cg} (h : RCL w (some ad) l) (m : Nat) : RCL w (some (ad.add (m * 5))) (l.drop m) := fun k hk => by
  have hk' : m + k < l.length := by simp at hk; omega
  obtain ⟨ad', v0, v1, v2, v3, v4, e, h0, h1, h2, h3, h4, hr⟩ := h (m + k) hk'
  injection e with e
  subst e
  have e0 : ∀ i, (ad.add (m * 5)).add (k * 5 + i) = ad.add ((m + k) * 5 + i) := fun i => by rw [add_of_add]; congr 1; omega
  refine ⟨_, v0, v1, v2, v3, v4, rfl, ?_, ?_, ?_, ?_, ?_, ?_⟩
  · have := e0 0
    rw [Nat.add_zero, Nat.add_zero] at this
    rw [this]; exact h0
  · rw [e0]; exact h1
  · rw [e0]; exact h2
  · rw [e0]; exact h3
  · rw [e0]; exact h4
  · simpa using hr
section
variable {P : Program} {ops : Array Oper} {rest : List Oper} {o : Oper} {a : Act} {w : World} {K : Act → World → Prop} {Q : Exit → Act → World → Prop}
end

end Go.Proofs.YtknbjdldmednlaaGreat
