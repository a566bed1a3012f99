/-
  A list of patches of the call's own, whose last one's bytes are the call's own too, and grow. Plain; no program is named here.
-/
import Derived.Test.YtnlcpkffaiegaaaPatO
namespace Go.Proofs.Ytnlcpkffaiegaaa
open Go.RowKit

structure StX (w : World) (B : Nat) (e eb : TypeId) (g cap : Nat) (cur : Array Value) (u0 : Value) (l0 : List Pt) (s : Int) (d : List UInt8) : Prop where
  base : B ≤ g
  blk : Blk w g e cur
  cap1 : l0.length + 1 ≤ cap
  cap2 : cap ≤ maxLen
  size : cur.size = cap * 2
  inner : ∀ k (h : k < l0.length), ∃ A n c, cur[k * 2]? = some (.int .i64 l0[k].at_) ∧ cur[k * 2 + 1]? = some (.slice A n c) ∧ PV w l0[k] A n c ∧ Away l0[k].data A (.slice (some ⟨g, 0, none⟩) 0 0) ∧ Away l0[k].data A u0
  lastAt : cur[l0.length * 2]? = some (.int .i64 s)
  lastD : cur[l0.length * 2 + 1]? = some u0
  own : OwnB w B eb u0 d
  apart : u0.ownBlock ≠ some g
  lo : -9223372036854775808 ≤ s
  hi : s < 9223372036854775808

theorem OwnB.ext {w w' : World} {B : Nat} {e : TypeId} {v : Value} {l : List UInt8} (h : OwnB w B e v l) (hb : Below w.heap.size w w') : OwnB w' B e v l := by
  obtain ⟨hl, h | ⟨g, cap, cur, hv, hbg, hg, h⟩⟩ := h
  · exact ⟨hl, Or.inl h⟩
  · exact ⟨hl, Or.inr ⟨g, cap, cur, hv, hbg, Blk.ext hg hb, h⟩⟩
theorem OwnB.only {w w' : World} {B g : Nat} {e : TypeId} {v : Value} {l : List UInt8} (h : OwnB w B e v l) (ho : Only w w' g) (hg : v.ownBlock ≠ some g) : OwnB w' B e v l := by
  obtain ⟨hl, h | ⟨g', cap, cur, hv, hbg, hg', h⟩⟩ := h
  · exact ⟨hl, Or.inl h⟩
  · refine ⟨hl, Or.inr ⟨g', cap, cur, hv, hbg, Blk.only hg' ho ?_, h⟩⟩
    intro e
    exact hg (by rw [hv, ← e]; rfl)
theorem OwnB.lt {w : World} {B : Nat} {e : TypeId} {v : Value} {l : List UInt8} (h : OwnB w B e v l) : ∀ k, v.ownBlock = some k → B ≤ k ∧ k < w.heap.size := World.ownsRow.lt h
theorem StX.ext {w w' : World} {B : Nat} {e eb : TypeId} {g cap : Nat} {cur : Array Value} {u0 : Value} {l0 : List Pt} {s : Int} {d : List UInt8} (h : StX w B e eb g cap cur u0 l0 s d) (hb : Below w.heap.size w w') : StX w' B e eb g cap cur u0 l0 s d :=
  ⟨h.base, h.blk.ext hb, h.cap1, h.cap2, h.size, fun k hk => by
    obtain ⟨A, n, c, h0, h1, h2, h3, h4⟩ := h.inner k hk
    exact ⟨A, n, c, h0, h1, h2.below hb, h3, h4⟩, h.lastAt, h.lastD, h.own.ext hb, h.apart, h.lo, h.hi⟩
/-- It is a list of patches of the call's own. -/
theorem StX.ownP {w : World} {B : Nat} {e eb : TypeId} {g cap : Nat} {cur : Array Value} {u0 : Value} {l0 : List Pt} {s : Int} {d : List UInt8} (h : StX w B e eb g cap cur u0 l0 s d) : OwnP w B e (.slice (some ⟨g, 0, none⟩) (l0.length + 1) cap) (l0 ++ [⟨s, d⟩]) := by
  have hl : (l0 ++ [(⟨s, d⟩ : Pt)]).length = l0.length + 1 := by simp
  have hc := h.cap1
  have hs := h.size
  have hget : ∀ i v, cur[i]? = some v → i < (l0.length + 1) * 2 → (cur.toList.take ((l0.length + 1) * 2))[i]? = some v := fun i v hi hil => by
    rw [List.getElem?_take_of_lt hil]
    simpa using hi
  refine ⟨cur.toList.take ((l0.length + 1) * 2), ?_, fun k hk => ?_⟩
  · rw [hl]
    exact ⟨by have h0 : cur.toList.length = cur.size := Array.length_toList; rw [List.length_take]; omega, Or.inr ⟨g, cap, cur, rfl, h.base, h.blk, h.cap1, h.cap2, hs, rfl⟩⟩
  · by_cases hkl : k < l0.length
    · obtain ⟨A, n, c, h0, h1, h2, h3, _⟩ := h.inner k hkl
      refine ⟨A, n, c, ?_, ?_, ?_, ?_⟩
      · rw [List.getElem_append_left hkl]; exact hget _ _ h0 (by omega)
      · exact hget _ _ h1 (by omega)
      · rw [List.getElem_append_left hkl]; exact h2
      · rw [List.getElem_append_left hkl]; exact h3
    · obtain rfl : k = l0.length := by omega
      have e1 : (l0 ++ [(⟨s, d⟩ : Pt)])[l0.length]'hk = ⟨s, d⟩ := by simp
      obtain ⟨A, c, hv, h1, h2, h3⟩ := h.own.read
      refine ⟨A, d.length, c, ?_, ?_, ?_, ?_⟩
      · rw [e1]; exact hget _ _ h.lastAt (by omega)
      · rw [← hv]; exact hget _ _ h.lastD (by omega)
      · rw [e1]; exact ⟨h.lo, h.hi, rfl, h1, h2, h3⟩
      · rw [e1]
        have := h.apart
        rw [hv] at this
        refine Or.inr fun e => this ?_
        cases A with
        | none => cases e
        | some ad => exact e
/-- A patch without bytes, appended: its bytes may grow. -/
theorem StX.start {w : World} {B : Nat} {e eb : TypeId} {v : Value} {l : List Pt} {s : Int} {xs : List Value} (h : OwnP w B e v (l ++ [⟨s, []⟩])) (hx : xs.length = l.length * 2) (ho : w.ownsRow B e 2 v (l.length + 1) (xs ++ [.int .i64 s, .slice none 0 0])) (h1 : -9223372036854775808 ≤ s) (h2 : s < 9223372036854775808) :
    ∃ g cap cur, v = .slice (some ⟨g, 0, none⟩) (l.length + 1) cap ∧ StX w B e eb g cap cur (.slice none 0 0) l s [] := by
  obtain ⟨ys, ⟨hyl, hyo⟩, hy⟩ := h.own
  obtain ⟨hl, ⟨_, hn⟩ | ⟨g, cap, cur, hv, hb, hg, hn, hc, hs, ht⟩⟩ := ho
  · omega
  · have hll : (l ++ [(⟨s, []⟩ : Pt)]).length = l.length + 1 := by simp
    rw [hll] at hyo hyl
    obtain ⟨_, hn0⟩ | ⟨g', cap', cur', hv', hb', hg', hn', hc', hs', ht'⟩ := hyo
    · omega
    rw [hv] at hv'
    injection hv' with e1 e2 e3
    injection e1 with e1
    injection e1 with e1 _ _
    subst e1; subst e3
    have hcc : cur = cur' := by
      have h3 : some (Obj.cells cur e (0, 0)) = some (Obj.cells cur' e (0, 0)) := by rw [← hg, ← hg']
      injection h3 with h3
      injection h3
    subst hcc
    have hyx : ys = xs ++ [.int .i64 s, .slice none 0 0] := by rw [← ht', ← ht]
    have hget : ∀ i v, ys[i]? = some v → i < (l.length + 1) * 2 → cur[i]? = some v := fun i v hi hil => by
      rw [← ht', List.getElem?_take_of_lt hil] at hi
      simpa using hi
    refine ⟨g, cap, cur, hv, ⟨hb, hg, hn, hc, hs, fun k hk => ?_, ?_, ?_, OwnB.nil_ _ _ _, by simp [Value.ownBlock], h1, h2⟩⟩
    · obtain ⟨A, n, c, g0, g1, g2, g3⟩ := hy k (by rw [hll]; omega)
      rw [List.getElem_append_left hk] at g0 g2 g3
      refine ⟨A, n, c, hget _ _ g0 (by omega), hget _ _ g1 (by omega), g2, ?_, ?_⟩
      · rw [hv] at g3; exact g3
      · by_cases hd : l[k].data = []
        · exact Or.inl hd
        · obtain ⟨ad, rfl⟩ := g2.read.addr (List.length_pos_iff.2 hd)
          exact Or.inr (by simp [Value.ownBlock])
    · refine hget _ _ ?_ (by omega)
      rw [hyx, List.getElem?_append_right (by omega), show l.length * 2 - xs.length = 0 by omega]
      rfl
    · refine hget _ _ ?_ (by omega)
      rw [hyx, List.getElem?_append_right (by omega), show l.length * 2 + 1 - xs.length = 1 by omega]
      rfl
/-- Its bytes have grown, and are laid where they were. -/
theorem StX.next {w w1 w2 : World} {B : Nat} {e eb : TypeId} {g cap : Nat} {cur : Array Value} {u0 u1 : Value} {l0 : List Pt} {s : Int} {d d' : List UInt8} (h : StX w B e eb g cap cur u0 l0 s d)
    (hown : OwnB w1 B eb u1 d') (hg : w.grownBy w1 u0.ownBlock) (hu : u1.ownBlock = u0.ownBlock ∨ ∃ k, u1.ownBlock = some k ∧ w.heap.size ≤ k)
    (ho : Only w1 w2 g) (hb : Blk w2 g e (cur.setIfInBounds (l0.length * 2 + 1) u1)) : StX w2 B e eb g cap (cur.setIfInBounds (l0.length * 2 + 1) u1) u1 l0 s d' := by
  have hgl := h.blk.lt
  have hap : u1.ownBlock ≠ some g := by
    rcases hu with hu | ⟨k, hu, hk⟩
    · rw [hu]; exact h.apart
    · rw [hu]; intro e; injection e with e; omega
  have hc := h.cap1
  have hs := h.size
  refine ⟨h.base, hb, h.cap1, h.cap2, by simpa using hs, fun k hk => ?_, ?_, ?_, hown.only ho hap, hap, h.lo, h.hi⟩
  · obtain ⟨A, n, c, h0, h1, h2, h3, h4⟩ := h.inner k hk
    refine ⟨A, n, c, by rw [Array.getElem?_setIfInBounds_ne (by omega)]; exact h0, by rw [Array.getElem?_setIfInBounds_ne (by omega)]; exact h1, ⟨h2.lo, h2.hi, h2.len, h2.cap, h2.max, ?_⟩, h3, away_grown h4 h2.read hu⟩
    have hr1 := away_read h4 h2.read hg
    intro j hj
    obtain ⟨ad, e, hcj⟩ := hr1 j hj
    refine ⟨ad, e, ?_⟩
    rw [← hcj]
    refine World.cell?_of_block (ho.block _ ?_)
    rw [block_of_add]
    rcases h3 with h3 | h3
    · rw [h3] at hj; simp at hj
    · rw [e] at h3
      simpa [Value.ownBlock] using h3
  · rw [Array.getElem?_setIfInBounds_ne (by omega)]; exact h.lastAt
  · rw [Array.getElem?_setIfInBounds_self_of_lt (by omega)]

section
variable {P : Program} {ops : Array Oper} {rest : List Oper} {o : Oper} {a : Act} {w : World} {K : Act → World → Prop} {Q : Exit → Act → World → Prop}
theorem ow_build_byte (t e : TypeId) (x : Operand) (ho : o.op = .buildSlice t 1 #[(0, x)]) (ht : P.underlying t = some (.slice e)) (hi : (P.info? e).map (fun i => (i.zero, i.size, i.bytes)) = some (some (.int .u8 0), 1, 1)) (z : Int) (hx : a.eval x = .int .u8 z)
    (h : K (a.put o.dst (.slice (some ⟨w.heap.size, 0, none⟩) 1 1)) (w.alloc (.cells #[.int .u8 z] e))) : o.wp P a w K Q := by
  obtain ⟨i, h1, h2, h3, h4⟩ := info_parts hi
  have hrun : (Instr.buildSlice t 1 #[(0, .int .u8 z)]).run P w = .ok (.slice (some ⟨w.heap.size, 0, none⟩) 1 1) (w.alloc (.cells #[.int .u8 z] e)) := by
    refine run_buildSlice w t e 1 _ _ i (.int .u8 0) ht h1 h2 (by omega) (by omega) ?_
    rw [h3]
    have hsz : ((Array.range (1 * 1)).map ((Value.int .u8 0).cells[· % (Value.int .u8 0).cells.size]!)).size = 1 := by simp
    generalize (Array.range (1 * 1)).map ((Value.int .u8 0).cells[· % (Value.int .u8 0).cells.size]!) = cs at hsz
    obtain ⟨l⟩ := cs
    match l, hsz with
    | [c0], _ => simp [Instr.fill, Value.cells]
  unfold Oper.wp execOp
  simp only [ho, hx, Sem.run_bind, List.map_toArray, List.map_cons, List.map_nil, hrun, Result.andThen_ok]
  exact h
/-- append of one byte to bytes of the call's own. -/
theorem ow_append_last (s x : Operand) (t e : TypeId) (ho : o.op = .call { callee := .builtin .append, args := #[s, x], argTypes := #[t, t] })
    (ht : P.underlying t = some (.slice e)) (hi : (P.info? e).map (fun i => (i.zero, i.size, i.bytes)) = some (some (.int .u8 0), 1, 1))
    (B : Nat) (v : Value) (d : List UInt8) (hown : OwnB w B e v d) (y : UInt8) (hs : a.eval s = v) (hx : a.eval x = .slice (some ⟨w.heap.size, 0, none⟩) 1 1) (hB : B ≤ w.heap.size) (hlen : d.length + 1 ≤ 140737488355328)
    (h : Stop (∀ v' w', Hid (OwnB w' B e v' (d ++ [y])) → Hid ((w.alloc (.cells #[.int .u8 (y.toNat : Int)] e)).grownBy w' v.ownBlock) → Hid (v'.ownBlock = v.ownBlock ∨ ∃ k, v'.ownBlock = some k ∧ (w.alloc (.cells #[.int .u8 (y.toNat : Int)] e)).heap.size ≤ k) → K (a.put o.dst v') w')) : o.wp P a (w.alloc (.cells #[.int .u8 (y.toNat : Int)] e)) K Q := by
  have hml : (d.map fun x : UInt8 => Value.int .u8 (x.toNat : Int)).length = d.length := by simp
  have hown' : OwnC (w.alloc (.cells #[.int .u8 (y.toNat : Int)] e)) B e v (d.map fun x => Value.int .u8 (x.toNat : Int)) := by
    unfold OwnC
    rw [hml]
    exact hown.alloc _
  obtain ⟨v', w', hr, h1, h2, h3⟩ := run_append_one P (w.alloc (.cells #[.int .u8 (y.toNat : Int)] e)) t o.type e ht (.int .u8 0) 1 hi rfl B v _ hown' (.int .u8 (y.toNat : Int)) rfl ⟨w.heap.size, 0, none⟩ 1 (by have h := cell_one_new w (.int .u8 (y.toNat : Int)) e 0 (.int .u8 (y.toNat : Int)) rfl; rwa [addr_add0] at h) (by simp; omega) (by rw [hml]; unfold maxLen; omega) (by rw [hml]; omega)
  unfold Oper.wp execOp
  simp only [ho, resolve, invoke, builtin, Sem.run_bind, Sem.run_pure, Result.andThen_ok, List.map_toArray, List.map_cons, List.map_nil, hs, hx, hr]
  refine h v' w' ?_ h2 ?_
  · unfold OwnB
    have h4 : OwnC w' B e v' ((d ++ [y]).map fun x => Value.int .u8 (x.toNat : Int)) := by rw [List.map_append]; exact h1
    unfold OwnC at h4
    rw [List.length_map] at h4
    exact h4
  · rcases h3 with h3 | h3
    · exact Or.inl h3
    · exact Or.inr ⟨_, h3, Nat.le_refl _⟩
theorem ow_load_cell (t : TypeId) (x : Operand) (ho : o.op = .load t x) (ad : Addr) (hx : a.eval x = .pointer (some ad)) (v : Value) (hc : w.cell? ad = some v)
    (dd : TypeDesc) (hu : P.underlying t = some dd) (hd : (match dd with | .struct _ | .array _ _ => true | _ => false) = false) (h : K (a.put o.dst v) w) : o.wp P a w K Q := by
  have hr := exec_load_cell (P := P) (a := a) (w := w) t x ho ad hx v hc dd hu hd
  unfold Oper.wp
  rw [hr]
  exact h
theorem ow_store_cell (ty : TypeId) (x y : Operand) (ho : o.op = .store ty x y) (hs : (P.info? ty).map (·.size) = some 1)
    (g i : Nat) (hx : a.eval x = .pointer (some ⟨g, i, none⟩)) (v : Value) (hy : a.eval y = v) (hv : v.cells = #[v]) (h1 : v.oneCell' = true) (t : TypeId) (cs : Array Value) (hg : Blk w g t cs) (hi : i < cs.size)
    (h : Stop (∀ w', Hid (Only w w' g) → Hid (Blk w' g t (cs.setIfInBounds i v)) → K (a.put o.dst undef) w')) : o.wp P a w K Q := by
  unfold Oper.wp execOp
  simp only [ho, hx, hy, Instr.storeAt, Instr.sureAddr, Sem.run_bind, Sem.run_pure, Result.andThen_ok, run_storeVar_cell P w ty hs g i t cs hg hi v hv h1]
  exact h _ ((Only.refl w g).setCell i v) (hg.set_ i v)
/-- append of a patch without bytes. -/
theorem wpList_append_start (hgd : Region.wanted o (yielded ops a.tmps) = true) (s x : Operand) (t e : TypeId) (ho : o.op = .call { callee := .builtin .append, args := #[s, x], argTypes := #[t, t] })
    (ht : P.underlying t = some (.slice e)) (z : Value) (by_ : Nat) (hi : (P.info? e).map (fun i => (i.zero, i.size, i.bytes)) = some (some z, 2, by_)) (hz : z.cells.size = 2)
    (B : Nat) (v : Value) (l : List Pt) (hown : OwnP w B e v l) (eb : TypeId) (k : Int) (h1 : -9223372036854775808 ≤ k) (h2 : k < 9223372036854775808) (hs : a.eval s = v) (hx : a.eval x = .slice (some ⟨w.heap.size, 0, none⟩) 1 1) (hB : B ≤ w.heap.size) (hlen : l.length + 1 ≤ 281474976710656) (hby : (l.length + 1) * by_ ≤ 140737488355328)
    (h : Stop (∀ g cap cur w', Hid (StX w' B e eb g cap cur (.slice none 0 0) l k []) → Hid (Below B w w') → wpList P ops Q rest (a.put o.dst (.slice (some ⟨g, 0, none⟩) (l.length + 1) cap)) w')) : wpList P ops Q (o :: rest) a (w.alloc (.cells #[.int .i64 k, .slice none 0 0] e)) := by
  refine wpList_wanted hgd fun K hK => ?_
  obtain ⟨v', w', hrun, g1, g2, _, xs, g3, g4⟩ := run_append_pt P w t o.type e ht z by_ hi hz B v l hown ⟨k, []⟩ none 0 0 ⟨h1, h2, rfl, Nat.le_refl _, by unfold maxLen; omega, RB.nil_ _ _⟩ (Or.inl rfl) hB hlen hby
  obtain ⟨g, cap, cur, hv, hst⟩ := StX.start (eb := eb) g1 g3 g4 h1 h2
  subst hv
  unfold Oper.wp execOp
  simp only [ho, resolve, invoke, builtin, Sem.run_bind, Sem.run_pure, Result.andThen_ok, List.map_toArray, List.map_cons, List.map_nil, hs, hx, hrun]
  exact hK _ _ (h g cap cur w' hst g2)
end

end Go.Proofs.Ytnlcpkffaiegaaa
