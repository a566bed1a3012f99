/-
  Bytes appended to bytes: where there is no room, and to a slice of the call's own; a constant text as bytes. Plain; no program is named here.
-/
import Derived.Test.YtfhghcodhacneaaGrA
import Derived.ArgAppend
import Derived.Lib.SlBytesConst
namespace Go.Proofs.Ytfhghcodhacneaa
open Go.RowKit

section
variable {P : Program} {ops : Array Oper} {rest : List Oper} {o : Oper} {a : Act} {w : World} {Q : Exit → Act → World → Prop}

theorem RB.cellsOf {A : Addr} {l : List UInt8} (h : RB w (some A) l) : ∀ j u, (l.map fun x => Value.int .u8 (x.toNat : Int))[j]? = some u → w.cell? (A.add j) = some u := fun j u hj => by
  rw [List.getElem?_map] at hj
  obtain ⟨x, hx, rfl⟩ := Option.map_eq_some_iff.1 hj
  obtain ⟨hjl, rfl⟩ := List.getElem?_eq_some_iff.1 hx
  obtain ⟨ad, e1, hc⟩ := h j hjl
  injection e1 with e1
  subst e1
  exact hc
theorem oneCell_bytes (l : List UInt8) : ∀ u ∈ l.map fun x => Value.int .u8 (x.toNat : Int), u.oneCell' = true := fun u hu => by
  obtain ⟨x, _, rfl⟩ := List.mem_map.1 hu
  rfl
/-- There is no room. -/
theorem wpList_append_grow_bytes (hgd : Region.wanted o (yielded ops a.tmps) = true) (s x : Operand) (t e : TypeId) (ho : o.op = .call { callee := .builtin .append, args := #[s, x], argTypes := #[t, t] })
    (ht : P.underlying t = some (.slice e)) (hi : (P.info? e).map (fun i => (i.zero, i.size, i.bytes)) = some (some (.int .u8 0), 1, 1))
    (ad : Addr) (n c : Nat) (l : List UInt8) (hs : a.eval s = .slice (some ad) n c) (hn : l.length = n) (hr : RB w (some ad) l)
    (A : Option Addr) (m c' : Nat) (l' : List UInt8) (hx : a.eval x = .slice A m c') (hm : l'.length = m) (hr' : RB w A l') (h0 : 0 < m) (hfull : c < n + m) (hlen : n + m ≤ 140737488355328)
    (h : Stop (∀ v' w', Hid (OwnB w' w.heap.size e v' (l ++ l')) → Hid (Below w.heap.size w w') → wpList P ops Q rest (a.put o.dst v') w')) : wpList P ops Q (o :: rest) a w := by
  obtain ⟨i, h1, h2, h3, h4⟩ := info_parts hi
  obtain ⟨ad', rfl⟩ := hr'.addr (by omega)
  obtain ⟨v', w', hrun, r1, r2⟩ := run_append_arg_grows (P := P) w t o.type e i (.int .u8 0) 1 1 ht h1 h2 h3 h4 rfl (by omega) ad n c (l.map fun x => Value.int .u8 (x.toNat : Int)) (by simp [hn]) hr.cellsOf ad' m c' (l'.map fun x => Value.int .u8 (x.toNat : Int)) (by simp [hm]) hr'.cellsOf hfull (by unfold maxLen; omega) (by omega)
  refine wpList_wanted hgd fun K hK => ?_
  unfold Oper.wp execOp
  simp only [ho, resolve, invoke, builtin, Sem.run_bind, Sem.run_pure, Result.andThen_ok, List.map_toArray, List.map_cons, List.map_nil, hs, hx, hrun]
  refine hK _ _ (h v' w' ?_ ?_)
  · unfold OwnB
    rw [List.length_append, hn, hm, List.map_append]
    exact r1
  · exact (Below.refl _ _).grown r2 (Nat.le_refl _) (fun k hk => by cases hk)
/-- The slice is the call's own. -/
theorem run_append_own_bytes (P : Program) (w : World) (t ty e : TypeId)
    (ht : P.underlying t = some (.slice e)) (hi : (P.info? e).map (fun i => (i.zero, i.size, i.bytes)) = some (some (.int .u8 0), 1, 1))
    (B : Nat) (v : Value) (l : List UInt8) (hown : OwnB w B e v l) (hB : B ≤ w.heap.size)
    (A : Option Addr) (m c' : Nat) (l' : List UInt8) (hm : l'.length = m) (hr' : RB w A l') (h0 : 0 < m) (hlen : l.length + m ≤ 140737488355328) :
    ∃ v' w', (Builtin.append_ #[t, t] ty #[v, .slice A m c']).run P w = .ok v' w' ∧ OwnB w' B e v' (l ++ l') ∧ Below B w w' := by
  obtain ⟨i, h1, h2, h3, h4⟩ := info_parts hi
  obtain ⟨ad', rfl⟩ := hr'.addr (by omega)
  obtain ⟨v', w', hrun, r1, r2, _⟩ := run_append_own (P := P) w B t ty e i (.int .u8 0) 1 1 ht h1 h2 h3 h4 rfl (by omega) v l.length _ hown ad' m c' (l'.map fun x => Value.int .u8 (x.toNat : Int)) (by simp [hm]) hr'.cellsOf (oneCell_bytes l') (by unfold maxLen; omega) (by omega) hB
  refine ⟨v', w', hrun, ?_, ?_⟩
  · unfold OwnB
    rw [List.length_append, hm, List.map_append]
    exact r1
  · exact (Below.refl _ _).grown r2 hB (fun k hk => (World.ownsRow.lt hown k hk).1)
theorem wpList_append_own_bytes (hgd : Region.wanted o (yielded ops a.tmps) = true) (s x : Operand) (t e : TypeId) (ho : o.op = .call { callee := .builtin .append, args := #[s, x], argTypes := #[t, t] })
    (ht : P.underlying t = some (.slice e)) (hi : (P.info? e).map (fun i => (i.zero, i.size, i.bytes)) = some (some (.int .u8 0), 1, 1))
    (B : Nat) (v : Value) (l : List UInt8) (hs : a.eval s = v) (hown : OwnB w B e v l) (hB : B ≤ w.heap.size)
    (A : Option Addr) (m c' : Nat) (l' : List UInt8) (hx : a.eval x = .slice A m c') (hm : l'.length = m) (hr' : RB w A l') (h0 : 0 < m) (hlen : l.length + m ≤ 140737488355328)
    (h : Stop (∀ v' w', Hid (OwnB w' B e v' (l ++ l')) → Hid (Below B w w') → wpList P ops Q rest (a.put o.dst v') w')) : wpList P ops Q (o :: rest) a w := by
  obtain ⟨v', w', hrun, r1, r2⟩ := run_append_own_bytes P w t o.type e ht hi B v l hown hB A m c' l' hm hr' h0 hlen
  refine wpList_wanted hgd fun K hK => ?_
  unfold Oper.wp execOp
  simp only [ho, resolve, invoke, builtin, Sem.run_bind, Sem.run_pure, Result.andThen_ok, List.map_toArray, List.map_cons, List.map_nil, hs, hx, hrun]
  exact hK _ _ (h v' w' r1 r2)
variable {K : Act → World → Prop} in
theorem ow_append_own_bytes (s x : Operand) (t e : TypeId) (ho : o.op = .call { callee := .builtin .append, args := #[s, x], argTypes := #[t, t] })
    (ht : P.underlying t = some (.slice e)) (hi : (P.info? e).map (fun i => (i.zero, i.size, i.bytes)) = some (some (.int .u8 0), 1, 1))
    (B : Nat) (v : Value) (l : List UInt8) (hs : a.eval s = v) (hown : OwnB w B e v l) (hB : B ≤ w.heap.size)
    (A : Option Addr) (m c' : Nat) (l' : List UInt8) (hx : a.eval x = .slice A m c') (hm : l'.length = m) (hr' : RB w A l') (h0 : 0 < m) (hlen : l.length + m ≤ 140737488355328)
    (h : Stop (∀ v' w', Hid (OwnB w' B e v' (l ++ l')) → Hid (Below B w w') → K (a.put o.dst v') w')) : o.wp P a w K Q := by
  obtain ⟨v', w', hrun, r1, r2⟩ := run_append_own_bytes P w t o.type e ht hi B v l hown hB A m c' l' hm hr' h0 hlen
  unfold Oper.wp execOp
  simp only [ho, resolve, invoke, builtin, Sem.run_bind, Sem.run_pure, Result.andThen_ok, List.map_toArray, List.map_cons, List.map_nil, hs, hx, hrun]
  exact h v' w' r1 r2
variable {K : Act → World → Prop} in
theorem ow_make_bytes (lo co : Operand) (t e : TypeId) (ho : o.op = .makeSlice t lo co) (ht : P.underlying t = some (.slice e)) (hi : (P.info? e).map (fun i => (i.zero, i.size, i.bytes)) = some (some (.int .u8 0), 1, 1))
    (kl kc : IntKind) (L C : Int) (n : Nat) (hl : a.eval lo = .int kl L) (hc : a.eval co = .int kc C) (hL : L = n) (hC : C = n) (hn : n ≤ 281474976710656)
    (h : Stop (∀ w', Hid (Grew w w') → Hid (Blk w' w.heap.size e (bcells (zeros n))) → K (a.put o.dst (.slice (some ⟨w.heap.size, 0, none⟩) n n)) w')) : o.wp P a w K Q := by
  subst hL; subst hC
  have hr := run_make_zeros P w t e ht hi kl kc n hn
  unfold Oper.wp execOp
  simp only [ho, Sem.run_bind, Sem.run_pure, Result.andThen_ok, hl, hc, hr]
  exact h _ (Grew.alloc w _) (Blk.new w e _)
/-- A slice of the call's own, behind what leaves it. -/
theorem OwnB.below {w w' : World} {B : Nat} {e : TypeId} {v : Value} {l : List UInt8} (h : OwnB w B e v l) (hb : Below w.heap.size w w') : OwnB w' B e v l := by
  obtain ⟨hl, hx | ⟨g, cap, cur, hv, hB, hg, hn, hc, hs, ht⟩⟩ := h
  · exact ⟨hl, Or.inl hx⟩
  · have hlt : g < w.heap.size := by
      rcases Nat.lt_or_ge g w.heap.size with h' | h'
      · exact h'
      · rw [Array.getElem?_eq_none h'] at hg; cases hg
    exact ⟨hl, Or.inr ⟨g, cap, cur, hv, hB, (hb.block g hlt).trans hg, hn, hc, hs, ht⟩⟩
/-- A constant text, as bytes: its block. -/
theorem grew_marked (w : World) (C : Array Value) (e : TypeId) (fr : Nat × Nat) : Grew w (w.alloc (.cells C e fr)) := Grew.alloc w _
theorem rb_marked (w : World) (l : List UInt8) (e : TypeId) (fr : Nat × Nat) : RB (w.alloc (.cells (bcells l) e fr)) (some ⟨w.heap.size, 0, none⟩) l := fun k hk => by
  refine ⟨_, rfl, ?_⟩
  have e1 : (⟨w.heap.size, 0, none⟩ : Addr).add k = ⟨w.heap.size, k, none⟩ := by unfold Addr.add; split <;> simp_all
  rw [e1, World.cell?_alloc_mark, bcells_get, List.getElem?_eq_getElem hk]
  rfl
theorem wpList_conv_text (hgd : Region.wanted o (yielded ops a.tmps) = true) (t e : TypeId) (x : Operand) (ho : o.op = .convert t t x) (ht : P.underlying t = some (.slice e)) (he : P.underlying e = some (.int .u8))
    (l : List UInt8) (cs : Array Value) (hcs : cs = bcells l) (n c : Nat) (hx : a.eval x = .slice (some ⟨w.heap.size, 0, none⟩) n c)
    (h : Stop (∀ w', Hid (Grew w w') → Hid (RB w' (some ⟨w.heap.size, 0, none⟩) l) → wpList P ops Q rest (a.put o.dst (.slice (some ⟨w.heap.size, 0, none⟩) n c)) w')) : wpList P ops Q (o :: rest) a (w.alloc (.cells cs e)) := by
  subst hcs
  refine wpList_wanted hgd fun K hK => ?_
  have hrun := Lib.run_convert_bytes_const (P := P) w t e (bcells l) n c ht he
  unfold Oper.wp execOp
  simp only [ho, hx, Sem.run_bind, Sem.run_pure, Result.andThen_ok, hrun]
  exact hK _ _ (h _ (grew_marked w _ _ _) (rb_marked w l _ _))
end

end Go.Proofs.Ytfhghcodhacneaa
