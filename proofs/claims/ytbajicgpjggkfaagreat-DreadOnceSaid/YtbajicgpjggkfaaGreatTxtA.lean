/-
  A constant text as bytes, within a drawn region: its four bytes built, then marked. Plain; no program is named here.
-/
import Derived.Test.YtbajicgpjggkfaaGreatPatO
namespace Go.Proofs.YtbajicgpjggkfaaGreat
open Go.RowKit

section
variable {P : Program} {o : Oper} {a : Act} {w : World} {Q : Exit → Act → World → Prop} {K : Act → World → Prop}

theorem run_build4 (P : Program) (w : World) (t e : TypeId) (ht : P.underlying t = some (.slice e)) (z : Value) (by_ : Nat) (hi : (P.info? e).map (fun i => (i.zero, i.size, i.bytes)) = some (some z, 1, by_)) (b0 b1 b2 b3 : UInt8) :
    (Instr.buildSlice t 4 #[(0, .int .u8 (b0.toNat : Int)), (1, .int .u8 (b1.toNat : Int)), (2, .int .u8 (b2.toNat : Int)), (3, .int .u8 (b3.toNat : Int))]).run P w = .ok (.slice (some ⟨w.heap.size, 0, none⟩) 4 4) (w.alloc (.cells (bcells [b0, b1, b2, b3]) e)) := by
  obtain ⟨i, h1, h2, h3, h4⟩ := info_parts hi
  have hf : Instr.fill (fun i => some (i * 1, 1)) ((Array.range 4).map (z.cells[· % z.cells.size]!)) [(0, .int .u8 (b0.toNat : Int)), (1, .int .u8 (b1.toNat : Int)), (2, .int .u8 (b2.toNat : Int)), (3, .int .u8 (b3.toNat : Int))] = some (bcells [b0, b1, b2, b3]) := by
    have hsz : ((Array.range 4).map (z.cells[· % z.cells.size]!)).size = 4 := by simp
    generalize (Array.range 4).map (z.cells[· % z.cells.size]!) = cs at hsz
    obtain ⟨l⟩ := cs
    match l, hsz with
    | [c0, c1, c2, c3], _ => simp [Instr.fill, Value.cells, bcells]
  exact run_buildSlice w t e 4 _ _ i z ht h1 h2 (by rw [h3]; decide) (by rw [h3]; decide) (by rw [h3]; exact hf)
theorem ow_build4 (t e : TypeId) (x0 x1 x2 x3 : Operand) (ho : o.op = .buildSlice t 4 #[(0, x0), (1, x1), (2, x2), (3, x3)]) (ht : P.underlying t = some (.slice e)) (z : Value) (by_ : Nat) (hi : (P.info? e).map (fun i => (i.zero, i.size, i.bytes)) = some (some z, 1, by_)) (b0 b1 b2 b3 : UInt8)
    (h0 : a.eval x0 = .int .u8 (b0.toNat : Int)) (h1 : a.eval x1 = .int .u8 (b1.toNat : Int)) (h2 : a.eval x2 = .int .u8 (b2.toNat : Int)) (h3 : a.eval x3 = .int .u8 (b3.toNat : Int))
    (h : Stop (∀ w', Hid (Grew w w') → Hid (Blk w' w.heap.size e (bcells [b0, b1, b2, b3])) → K (a.put o.dst (.slice (some ⟨w.heap.size, 0, none⟩) 4 4)) w')) : o.wp P a w K Q := by
  unfold Oper.wp execOp
  simp only [ho, h0, h1, h2, h3, Sem.run_bind, List.map_toArray, List.map_cons, List.map_nil, run_build4 P w t e ht z by_ hi b0 b1 b2 b3, Result.andThen_ok]
  exact h _ (Grew.alloc w _) (Blk.new w e _)

theorem run_conv_text (P : Program) (w : World) (t e : TypeId) (ht : P.underlying t = some (.slice e)) (he : P.underlying e = some (.int .u8)) (l : List UInt8) (g n c : Nat) (hg : Blk w g e (bcells l)) :
    ∃ w', (convert t t (.slice (some ⟨g, 0, none⟩) n c)).run P w = .ok (.slice (some ⟨g, 0, none⟩) n c) w' ∧ Only w w' g ∧ RB w' (some ⟨g, 0, none⟩) l := by
  have hg' : w.heap[g]? = some (.cells (bcells l) e (0, 0)) := hg
  have hsh : w.shape? g = some (e, (bcells l).size) := by
    unfold World.shape?
    rw [hg']
  refine ⟨w.freeze ⟨g, (bcells l).size, none⟩ 1, ?_, ?_, ?_⟩
  · simp [convert, run_underlying ht, run_underlying he, markStringish, hsh]
  · unfold World.freeze
    rw [if_neg (by decide)]
    exact ⟨rfl, rfl, rfl, by simp, fun k hk => by simp [Array.getElem?_modify, Ne.symm hk]⟩
  · intro k hk
    refine ⟨_, rfl, ?_⟩
    have e1 : (⟨g, 0, none⟩ : Addr).add k = ⟨g, k, none⟩ := by unfold Addr.add; split <;> simp_all
    have hb := bcells_get l k
    rw [List.getElem?_eq_getElem hk] at hb
    rw [e1]
    unfold World.freeze
    rw [if_neg (by decide)]
    simp [World.cell?, Array.getElem?_modify, hg', hb]
theorem ow_conv_text (t e : TypeId) (x : Operand) (ho : o.op = .convert t t x) (ht : P.underlying t = some (.slice e)) (he : P.underlying e = some (.int .u8)) (l : List UInt8) (g n c : Nat) (hx : a.eval x = .slice (some ⟨g, 0, none⟩) n c) (hg : Blk w g e (bcells l))
    (h : Stop (∀ w', Hid (Only w w' g) → Hid (RB w' (some ⟨g, 0, none⟩) l) → K (a.put o.dst (.slice (some ⟨g, 0, none⟩) n c)) w')) : o.wp P a w K Q := by
  obtain ⟨w', hrun, h1, h2⟩ := run_conv_text P w t e ht he l g n c hg
  unfold Oper.wp execOp
  simp only [ho, hx, Sem.run_bind, Sem.run_pure, Result.andThen_ok, hrun]
  exact h w' h1 h2
end

end Go.Proofs.YtbajicgpjggkfaaGreat
