/-
  Words for bytes in memory: a slice that reads as a list of bytes, an array of bytes as a value. Plain; no program is named here.
-/
import Derived.Below
import Derived.Laws.OwnMore
import Derived.Deep.AppendLies
import Derived.Deep.Draws
import Derived.Lib.Hide
import Derived.WalkKit
import Derived.WalkSpells
import Derived.WalkLawsBesides
import Derived.Stop.BytesEq
namespace Go.Proofs.Ytennkfpehdijcaa
open Go.RowKit

/-- A byte as a value. -/
def bv (x : UInt8) : Value := .int .u8 (x.toNat : Int)

theorem block_of_add (a : Addr) (n : Nat) : (a.add n).block = a.block := by unfold Addr.add; split <;> rfl
theorem add_of_add (a : Addr) (i j : Nat) : (a.add i).add j = a.add (i + j) := by
  unfold Addr.add
  by_cases hi : i = 0 <;> by_cases hj : j = 0 <;> simp [hi, hj, Nat.add_assoc]

/-- A slice value with this address and this length reads as these bytes. -/
def RB (w : World) (A : Option Addr) (l : List UInt8) : Prop :=
  ∀ k (h : k < l.length), ∃ ad, A = some ad ∧ w.cell? (ad.add k) = some (.int .u8 (l[k].toNat : Int))

theorem RB.cut {w : World} {A : Option Addr} {l : List UInt8} (h : RB w A l) (p q : Nat) : RB w (A.map (·.add p)) ((l.drop p).take q) := fun k hk => by
  have hk' : p + k < l.length := by simp at hk; omega
  obtain ⟨ad, e, hc⟩ := h (p + k) hk'
  refine ⟨ad.add p, by rw [e]; rfl, ?_⟩
  rw [add_of_add, hc]
  simp
theorem RB.addr {w : World} {A : Option Addr} {l : List UInt8} (h : RB w A l) (hl : 0 < l.length) : ∃ ad, A = some ad := by
  obtain ⟨ad, e, _⟩ := h 0 hl
  exact ⟨ad, e⟩
theorem RB.nil_ (w : World) (A : Option Addr) : RB w A [] := fun k h => absurd h (by simp)
theorem RB.below {w w' : World} {A : Option Addr} {l : List UInt8} (h : RB w A l) (hb : Below w.heap.size w w') : RB w' A l := fun k hk => by
  obtain ⟨ad, e, hc⟩ := h k hk
  refine ⟨ad, e, ?_⟩
  have hlt : (ad.add k).block < w.heap.size := block_lt_of_cell hc
  rw [hb.cell hlt, hc]


/-- The bytes of a list as cells. -/
def bcells (l : List UInt8) : Array Value := (l.map fun x => Value.int .u8 (x.toNat : Int)).toArray
theorem bcells_size (l : List UInt8) : (bcells l).size = l.length := by simp [bcells]
theorem bcells_get (l : List UInt8) (k : Nat) : (bcells l)[k]? = (l[k]?).map fun x => Value.int .u8 (x.toNat : Int) := by simp [bcells]
theorem bcells_set (l : List UInt8) (k : Nat) (x : UInt8) : (bcells l).setIfInBounds k (.int .u8 (x.toNat : Int)) = bcells (l.set k x) := by
  simp [bcells, List.map_set]

/-- Block g is known whole. -/
def Blk (w : World) (g : Nat) (t : TypeId) (cs : Array Value) : Prop := w.heap[g]? = some (.cells cs t (0, 0))
/-- Nothing but block g has changed, and no block has come. -/
structure Only (w w' : World) (g : Nat) : Prop where
  os : w'.os = w.os
  tape : w'.tape = w.tape
  output : w'.output = w.output
  size : w'.heap.size = w.heap.size
  block : ∀ k, k ≠ g → w'.heap[k]? = w.heap[k]?

section
variable {w w' w'' : World} {g : Nat} {t : TypeId} {cs : Array Value}
theorem Blk.lt (h : Blk w g t cs) : g < w.heap.size := by
  rcases Nat.lt_or_ge g w.heap.size with hlt | hge
  · exact hlt
  · unfold Blk at h; rw [Array.getElem?_eq_none hge] at h; cases h
theorem Blk.cell (h : Blk w g t cs) (i : Nat) : w.cell? ⟨g, i, none⟩ = cs[i]? := cell_of_row w g i cs t (0, 0) h
theorem Blk.byte {l : List UInt8} (h : Blk w g t (bcells l)) (i : Nat) (hi : i < l.length) : ∃ x : UInt8, l[i]? = some x ∧ w.cell? ⟨g, i, none⟩ = some (.int .u8 (x.toNat : Int)) :=
  ⟨l[i], List.getElem?_eq_getElem hi, by rw [h.cell, bcells_get, List.getElem?_eq_getElem hi]; rfl⟩
theorem Blk.frozen (h : Blk w g t cs) (i : Nat) : w.frozen? ⟨g, i, none⟩ = false := by
  unfold Blk at h
  simp [World.frozen?, h]
theorem Blk.new (w : World) (t : TypeId) (cs : Array Value) : Blk (w.alloc (.cells cs t)) w.heap.size t cs := heap_alloc_new w _
theorem Blk.alloc (h : Blk w g t cs) (o : Obj) : Blk (w.alloc o) g t cs := (Below.heap_alloc w o g h.lt).trans h
theorem Blk.set_ (h : Blk w g t cs) (i : Nat) (u : Value) : Blk (w.setCell ⟨g, i, none⟩ u) g t (cs.setIfInBounds i u) := by
  unfold Blk at h ⊢
  simp [World.setCell, Array.getElem?_modify, h]
theorem Blk.far (h : Blk w g t cs) {p : Addr} (hp : g ≠ p.block) (u : Value) : Blk (w.setCell p u) g t cs := (Below.heap_setCell w p u g hp).trans h
theorem Blk.below {B : Nat} (h : Blk w g t cs) (hb : Below B w w') (hg : g < B) : Blk w' g t cs := (hb.block g hg).trans h
theorem Blk.only {g' : Nat} (h : Blk w g t cs) (ho : Only w w' g') (hne : g ≠ g') : Blk w' g t cs := (ho.block g hne).trans h
theorem Only.refl (w : World) (g : Nat) : Only w w g := ⟨rfl, rfl, rfl, rfl, fun _ _ => rfl⟩
theorem Only.trans (h : Only w w' g) (h' : Only w' w'' g) : Only w w'' g :=
  ⟨h'.os.trans h.os, h'.tape.trans h.tape, h'.output.trans h.output, h'.size.trans h.size, fun k hk => (h'.block k hk).trans (h.block k hk)⟩
theorem Only.setCell (h : Only w w' g) (i : Nat) (u : Value) : Only w (w'.setCell ⟨g, i, none⟩ u) g :=
  ⟨h.os, h.tape, h.output, by simpa using h.size, fun k hk => (Below.heap_setCell w' ⟨g, i, none⟩ u k hk).trans (h.block k hk)⟩
theorem Only.below {B : Nat} (h : Only w w' g) (hB : B ≤ g) : Below B w w' :=
  ⟨h.os, h.tape, h.output, Nat.le_of_eq h.size.symm, fun k hk => h.block k (by omega)⟩
theorem RB.of_blk {l : List UInt8} (h : Blk w g t cs) (o : Nat) (hl : ∀ k (hk : k < l.length), cs[o + k]? = some (.int .u8 (l[k].toNat : Int))) : RB w (some ⟨g, o, none⟩) l := fun k hk => by
  refine ⟨_, rfl, ?_⟩
  have e : (⟨g, o, none⟩ : Addr).add k = ⟨g, o + k, none⟩ := by unfold Addr.add; split <;> simp_all
  rw [e, h.cell, hl k hk]
end

/-- The list with other bytes from a place on (where there is room for all of them). -/
def splice (L : List UInt8) (o : Nat) (d : List UInt8) : List UInt8 := L.take o ++ d ++ L.drop (o + d.length)
theorem splice_len (L : List UInt8) (o : Nat) (d : List UInt8) (h : o + d.length ≤ L.length) : (splice L o d).length = L.length := by
  simp [splice]; omega
theorem splice_all (L d : List UInt8) (h : d.length = L.length) : splice L 0 d = d := by
  simp [splice, h]
theorem splice_nil (L : List UInt8) (o : Nat) : splice L o [] = L := by simp [splice]
theorem splice_get (L : List UInt8) (o : Nat) (d : List UInt8) (h : o + d.length ≤ L.length) (i : Nat) :
    (splice L o d)[i]? = if o ≤ i ∧ i < o + d.length then d[i - o]? else L[i]? := by
  unfold splice
  rw [List.append_assoc, List.getElem?_append]
  by_cases h1 : i < o
  · rw [if_pos (by simp; omega), if_neg (by omega), List.getElem?_take_of_lt h1]
  · rw [if_neg (by simp; omega), List.getElem?_append]
    have e : (L.take o).length = o := by simp; omega
    rw [e]
    by_cases h2 : i < o + d.length
    · rw [if_pos (by omega), if_pos (by omega)]
    · rw [if_neg (by omega), if_neg (by omega), List.getElem?_drop]
      congr 1; omega
theorem splice_set (L : List UInt8) (o : Nat) (d : List UInt8) (x : UInt8) (h : o + d.length < L.length) :
    (splice L o d).set (o + d.length) x = splice L o (d ++ [x]) := by
  apply List.ext_getElem?
  intro i
  rw [List.getElem?_set, splice_get _ _ _ (by omega), splice_get _ _ _ (by simp; omega)]
  have hl := splice_len L o d (by omega)
  simp only [List.length_append, List.length_cons, List.length_nil]
  by_cases h1 : o + d.length = i
  · subst h1
    rw [if_pos rfl, if_pos (by omega), if_pos (by omega), List.getElem?_append_right (by omega)]
    simp
  · rw [if_neg h1]
    by_cases h2 : o ≤ i ∧ i < o + d.length
    · rw [if_pos h2, if_pos (by omega), List.getElem?_append_left (by omega)]
    · rw [if_neg h2, if_neg (by omega)]

theorem bt {a b c : World} (h : Below a.heap.size a b) (k : Below b.heap.size b c) : Below a.heap.size a c := h.trans (k.mono h.size)
theorem bdrew (w : World) (n : Nat) : Below w.heap.size w (w.drewN n) := ⟨rfl, rfl, rfl, Nat.le_refl _, fun _ _ => rfl⟩
theorem Blk.ext {w w' : World} {g : Nat} {t : TypeId} {cs : Array Value} (h : Blk w g t cs) (e : Below w.heap.size w w') : Blk w' g t cs := h.below e h.lt
theorem bonly {a b c : World} {g : Nat} (h : Below a.heap.size a b) (k : Only b c g) (hg : a.heap.size ≤ g) : Below a.heap.size a c := h.trans (k.below hg)
theorem sizeOf_of {P : Program} {e n : Nat} (h : (P.info? e).map (·.size) = some n) (w : World) : (sizeOf e).run P w = .ok n w := by
  obtain ⟨i, hi, hs⟩ := Option.map_eq_some_iff.1 h
  simp [sizeOf, typeInfo, hi, hs]
theorem wrap_u64_nat (z : Int) : ∃ V : Nat, IntKind.u64.wrap z = V ∧ V < 18446744073709551616 := by
  have h0 := wrap_u64_nonneg z
  have h1 : IntKind.u64.wrap z < 18446744073709551616 := by
    simp [IntKind.wrap, IntKind.bits, IntKind.signed]; omega
  exact ⟨(IntKind.u64.wrap z).toNat, by omega, by omega⟩
/-- This value, and the world as it was, but for what was drawn. -/
def RetQ (v : Value) (w : World) (e : Ending) (w' : World) : Prop := e = .returned v ∧ ∃ k, w' = w.drewN k
/-- Where a walk is to stop. -/
def Stop (p : Prop) : Prop := p
theorem Stop.go {p : Prop} (h : p) : Stop p := h
theorem RB.of_blk0 {w : World} {g : Nat} {t : TypeId} {l : List UInt8} (h : Blk w g t (bcells l)) : RB w (some ⟨g, 0, none⟩) l :=
  RB.of_blk h 0 fun k hk => by rw [Nat.zero_add, bcells_get, List.getElem?_eq_getElem hk]; rfl
theorem RB.of_blk_at {w : World} {g : Nat} {t : TypeId} {l : List UInt8} (h : Blk w g t (bcells l)) (o n : Nat) : RB w (some ⟨g, o, none⟩) ((l.drop o).take n) :=
  RB.of_blk h o fun k hk => by
    have hk' : o + k < l.length := by simp at hk; omega
    rw [bcells_get, List.getElem?_eq_getElem hk']; simp
def zeros (n : Nat) : List UInt8 := List.replicate n 0
theorem zeros_len (n : Nat) : (zeros n).length = n := by simp [zeros]
/-! ### The operations, each with the world that it leaves as a variable -/

/-- One block more. -/
def Grew (w w' : World) : Prop := Below w.heap.size w w' ∧ w'.heap.size = w.heap.size + 1
theorem Grew.alloc (w : World) (o : Obj) : Grew w (w.alloc o) := ⟨(Below.refl _ _).alloc (Nat.le_refl _) o, by simp⟩
theorem oneCell_bcells (l : List UInt8) : (bcells l).all (·.oneCell') = true := by
  rw [Array.all_eq_true_iff_forall_mem]
  intro v hv
  simp [bcells] at hv
  obtain ⟨x, _, rfl⟩ := hv
  rfl

section
variable {P : Program} {ops : Array Oper} {rest : List Oper} {o : Oper} {a : Act} {w : World} {Q : Exit → Act → World → Prop}

theorem wpList_wanted (hgd : Region.wanted o (yielded ops a.tmps) = true)
    (h : ∀ K : Act → World → Prop, (∀ a w, wpList P ops Q rest a w → K a w) → o.wp P a w K Q) : wpList P ops Q (o :: rest) a w :=
  wpList_step fun K hK => by rw [if_pos hgd]; exact h K hK
/-- '==' on two arrays of bytes. -/
theorem wpList_eql_arr (hgd : Region.wanted o (yielded ops a.tmps) = true) (t t' : TypeId) (x y : Operand) (ho : o.op = .binOp .eql t x y t') (hm : P.eqGuardType P.depth t = false) (n e : Nat) (ht : P.underlying t = some (.array n e)) (he : P.underlying e = some (.int .u8)) (hs : (P.info? e).map (·.size) = some 1)
    (xs ys : List UInt8) (hx : a.eval x = .agg (bcells xs)) (hy : a.eval y = .agg (bcells ys)) (hxl : xs.length = n) (hyl : ys.length = n) (r : Bool) (hr : (xs == ys) = r)
    (h : wpList P ops Q rest (a.put o.dst (.bool r)) w) : wpList P ops Q (o :: rest) a w := by
  refine wpList_wanted hgd fun K hK => ?_
  have hrun : (binOp .eql t (.agg (bcells xs)) (.agg (bcells ys))).run P w = .ok (.bool (xs == ys)) w := run_eql_bytes w t e n ht he (sizeOf_of hs) xs ys hxl hyl
  rw [hr] at hrun
  unfold Oper.wp execOp
  simp only [ho, hx, hy, Sem.run_bind, run_eqGuard_agg w .eql t x y (bcells xs) (bcells ys) hm, Result.andThen_ok, hrun]
  exact hK _ _ h
theorem run_box_row (P : Program) (w : World) (t : TypeId) (cs : Array Value) : (Instr.box t (.agg cs)).run P w = .ok (.pointer (some ⟨w.heap.size, 0, none⟩)) (w.alloc (.cells cs t)) := by
  simp [Instr.box, newVar, Value.cells]; rfl
theorem run_alloc_row (P : Program) (w : World) (t : TypeId) (cs : Array Value) (hz : (P.info? t).map (·.zero) = some (some (.agg cs))) :
    (Instr.alloc t true (.tuple #[])).run P w = .ok (.pointer (some ⟨w.heap.size, 0, none⟩)) (w.alloc (.cells cs t)) := by
  obtain ⟨i, hi, hiz⟩ := Option.map_eq_some_iff.1 hz
  simp [Instr.alloc, newVar, zeroValue, typeInfo, hi, hiz, Value.cells]; rfl

theorem run_build_zero (P : Program) (w : World) (t : TypeId) (cs : Array Value) (hz : (P.info? t).map (·.zero) = some (some (.agg cs))) (n e : Nat) (hu : P.underlying t = some (.array n e)) (he : (P.info? e).map (·.size) = some 1) :
    (Instr.build t #[]).run P w = .ok (.agg cs) w := by
  obtain ⟨i, hi, hiz⟩ := Option.map_eq_some_iff.1 hz
  obtain ⟨j, hj, hjz⟩ := Option.map_eq_some_iff.1 he
  simp [Instr.build, zeroValue, typeInfo, hi, hiz, Value.cells, run_underlying hu, sizeOf, hj, Instr.fill]
theorem wpList_build_zero (hgd : Region.wanted o (yielded ops a.tmps) = true) (t : TypeId) (ho : o.op = .build t #[]) (cs : Array Value) (hz : (P.info? t).map (·.zero) = some (some (.agg cs))) (n e : Nat) (hu : P.underlying t = some (.array n e)) (he : (P.info? e).map (·.size) = some 1)
    (h : wpList P ops Q rest (a.put o.dst (.agg cs)) w) : wpList P ops Q (o :: rest) a w := by
  refine wpList_wanted hgd fun K hK => ?_
  unfold Oper.wp execOp
  simp only [ho, Sem.run_bind, List.map_toArray, List.map_nil, run_build_zero P w t cs hz n e hu he, Result.andThen_ok]
  exact hK _ _ h

theorem wpList_box_row (hgd : Region.wanted o (yielded ops a.tmps) = true) (t : TypeId) (x : Operand) (ho : o.op = .box t x) (cs : Array Value) (hx : a.eval x = .agg cs)
    (h : Stop (∀ w', Hid (Grew w w') → Hid (Blk w' w.heap.size t cs) → wpList P ops Q rest (a.put o.dst (.pointer (some ⟨w.heap.size, 0, none⟩))) w')) : wpList P ops Q (o :: rest) a w := by
  refine wpList_wanted hgd fun K hK => ?_
  unfold Oper.wp execOp
  simp only [ho, hx, Sem.run_bind, run_box_row, Result.andThen_ok]
  exact hK _ _ (h _ (Grew.alloc w _) (Blk.new w t cs))

theorem wpList_alloc_row (hgd : Region.wanted o (yielded ops a.tmps) = true) (t : TypeId) (ho : o.op = .alloc t) (cs : Array Value) (hz : (P.info? t).map (·.zero) = some (some (.agg cs)))
    (h : Stop (∀ w', Hid (Grew w w') → Hid (Blk w' w.heap.size t cs) → wpList P ops Q rest (a.put o.dst (.pointer (some ⟨w.heap.size, 0, none⟩))) w')) : wpList P ops Q (o :: rest) a w := by
  refine wpList_wanted hgd fun K hK => ?_
  unfold Oper.wp execOp
  simp only [ho, Sem.run_bind, run_alloc_row P w t cs hz, Result.andThen_ok]
  exact hK _ _ (h _ (Grew.alloc w _) (Blk.new w t cs))

theorem wpList_load_arr (hgd : Region.wanted o (yielded ops a.tmps) = true) (t : TypeId) (x : Operand) (ho : o.op = .load t x) (g : Nat) (hx : a.eval x = .pointer (some ⟨g, 0, none⟩)) (t' : TypeId) (cs : Array Value) (hg : Blk w g t' cs)
    (n : Nat) (e : TypeId) (hu : P.underlying t = some (.array n e)) (hi : (P.info? t).map (·.size) = some cs.size)
    (h : wpList P ops Q rest (a.put o.dst (.agg cs)) w) : wpList P ops Q (o :: rest) a w :=
  wpList_wanted hgd fun _ hK => wp_load_row t x ho g hx t' cs (0, 0) _ hg hu rfl hi (hK _ _ h)

theorem Only.setRow {w : World} {g : Nat} {t : TypeId} {old : Array Value} (_h : Blk w g t old) (cs : Array Value) : Only w (w.setRow g cs) g :=
  ⟨rfl, rfl, rfl, size_setRow _ _ _, fun k hk => setRow_other w g k cs hk⟩
theorem Blk.setRow {w : World} {g : Nat} {t : TypeId} {old : Array Value} (h : Blk w g t old) (cs : Array Value) : Blk (w.setRow g cs) g t cs := setRow_heap w g old cs t _ h

theorem wpList_store_arr (hgd : Region.wanted o (yielded ops a.tmps) = true) (t : TypeId) (x y : Operand) (ho : o.op = .store t x y)
    (g : Nat) (cs : Array Value) (hx : a.eval x = .pointer (some ⟨g, 0, none⟩)) (hy : a.eval y = .agg cs)
    (t' : TypeId) (old : Array Value) (hg : Blk w g t' old) (hi : (P.info? t).map (·.size) = some cs.size) (hold : old.size = cs.size) (h1 : cs.all (·.oneCell') = true)
    (h : Stop (∀ w', Hid (Only w w' g) → Hid (Blk w' g t' cs) → wpList P ops Q rest (a.put o.dst undef) w')) : wpList P ops Q (o :: rest) a w :=
  wpList_wanted hgd fun _ hK => wp_store_row t x y ho g cs hx hy t' old hg hi hold h1 (hK _ _ (h _ (Only.setRow hg cs) (hg.setRow cs)))

theorem addr_add0 (g l : Nat) : (⟨g, 0, none⟩ : Addr).add l = ⟨g, l, none⟩ := by unfold Addr.add; split <;> simp_all
/-- A cut of an array of one-cell elements. -/
theorem run_slice_arr (P : Program) (w : World) (t N e : Nat) (hu : P.underlying t = some (.array N e)) (hs : (P.info? e).map (·.size) = some 1) (g l h : Nat) (h1 : l ≤ h) (h2 : h ≤ N) (h3 : l < N) (kl kh : IntKind) :
    (Instr.sliceAt t (.pointer (some ⟨g, 0, none⟩)) (some (.int kl l)) (some (.int kh h)) none).run P w = .ok (.slice (some ⟨g, l, none⟩) (h - l) (N - l)) w ∧
    (h = N → (Instr.sliceAt t (.pointer (some ⟨g, 0, none⟩)) (some (.int kl l)) none none).run P w = .ok (.slice (some ⟨g, l, none⟩) (N - l) (N - l)) w) ∧
    (l = 0 → (Instr.sliceAt t (.pointer (some ⟨g, 0, none⟩)) none (some (.int kh h)) none).run P w = .ok (.slice (some ⟨g, 0, none⟩) h N) w) ∧
    (l = 0 → h = N → (Instr.sliceAt t (.pointer (some ⟨g, 0, none⟩)) none none none).run P w = .ok (.slice (some ⟨g, 0, none⟩) N N) w) := by
  obtain ⟨i, hi, hiz⟩ := Option.map_eq_some_iff.1 hs
  have n3 : ¬ N = l := by omega
  refine ⟨?_, fun e => ?_, fun e => ?_, fun e1 e2 => ?_⟩
  · simp [Instr.sliceAt, Instr.sureAddr, run_underlying hu, Instr.sliceBounds, Instr.sliceBound, asIntOf, sizeOf, typeInfo, hi, hiz, n3, addr_add0, h1, h2]
  · subst e
    simp [Instr.sliceAt, Instr.sureAddr, run_underlying hu, Instr.sliceBounds, Instr.sliceBound, asIntOf, sizeOf, typeInfo, hi, hiz, n3, addr_add0, h1]
  · subst e
    simp [Instr.sliceAt, Instr.sureAddr, run_underlying hu, Instr.sliceBounds, Instr.sliceBound, asIntOf, sizeOf, typeInfo, hi, h2, addr_add0]
  · subst e1; subst e2
    simp [Instr.sliceAt, Instr.sureAddr, run_underlying hu, Instr.sliceBounds, sizeOf, typeInfo, hi, addr_add0]
theorem wpList_slice_arr_lh (hgd : Region.wanted o (yielded ops a.tmps) = true) (t : TypeId) (x lo hi : Operand) (ho : o.op = .slice t x (some lo) (some hi) none) (N e : Nat) (hu : P.underlying t = some (.array N e)) (hs : (P.info? e).map (·.size) = some 1)
    (g : Nat) (hx : a.eval x = .pointer (some ⟨g, 0, none⟩)) (kl kh : IntKind) (L H : Int) (hlo : a.eval lo = .int kl L) (hhi : a.eval hi = .int kh H) (l h : Nat) (hL : L = l) (hH : H = h) (h1 : l ≤ h) (h2 : h ≤ N) (h3 : l < N)
    (hk : wpList P ops Q rest (a.put o.dst (.slice (some ⟨g, l, none⟩) (h - l) (N - l))) w) : wpList P ops Q (o :: rest) a w := by
  refine wpList_wanted hgd fun K hK => ?_
  subst hL; subst hH
  have hr := (run_slice_arr P w t N e hu hs g l h h1 h2 h3 kl kh).1
  unfold Oper.wp execOp
  simp only [ho, Sem.run_bind, Sem.run_pure, Result.andThen_ok, Option.map_some, Option.map_none, hx, hlo, hhi, hr]
  exact hK _ _ hk
theorem wpList_slice_arr_l (hgd : Region.wanted o (yielded ops a.tmps) = true) (t : TypeId) (x lo : Operand) (ho : o.op = .slice t x (some lo) none none) (N e : Nat) (hu : P.underlying t = some (.array N e)) (hs : (P.info? e).map (·.size) = some 1)
    (g : Nat) (hx : a.eval x = .pointer (some ⟨g, 0, none⟩)) (kl : IntKind) (L : Int) (hlo : a.eval lo = .int kl L) (l : Nat) (hL : L = l) (h3 : l < N)
    (hk : wpList P ops Q rest (a.put o.dst (.slice (some ⟨g, l, none⟩) (N - l) (N - l))) w) : wpList P ops Q (o :: rest) a w := by
  refine wpList_wanted hgd fun K hK => ?_
  subst hL
  have hr := (run_slice_arr P w t N e hu hs g l N (by omega) (by omega) h3 kl .i64).2.1 rfl
  unfold Oper.wp execOp
  simp only [ho, Sem.run_bind, Sem.run_pure, Result.andThen_ok, Option.map_some, Option.map_none, hx, hlo, hr]
  exact hK _ _ hk
theorem wpList_slice_arr_h (hgd : Region.wanted o (yielded ops a.tmps) = true) (t : TypeId) (x hi : Operand) (ho : o.op = .slice t x none (some hi) none) (N e : Nat) (hu : P.underlying t = some (.array N e)) (hs : (P.info? e).map (·.size) = some 1)
    (g : Nat) (hx : a.eval x = .pointer (some ⟨g, 0, none⟩)) (kh : IntKind) (H : Int) (hhi : a.eval hi = .int kh H) (h : Nat) (hH : H = h) (h2 : h ≤ N) (h3 : 0 < N)
    (hk : wpList P ops Q rest (a.put o.dst (.slice (some ⟨g, 0, none⟩) h N)) w) : wpList P ops Q (o :: rest) a w := by
  refine wpList_wanted hgd fun K hK => ?_
  subst hH
  have hr := (run_slice_arr P w t N e hu hs g 0 h (by omega) h2 h3 .i64 kh).2.2.1 rfl
  unfold Oper.wp execOp
  simp only [ho, Sem.run_bind, Sem.run_pure, Result.andThen_ok, Option.map_some, Option.map_none, hx, hhi, hr]
  exact hK _ _ hk
theorem wpList_slice_arr_all (hgd : Region.wanted o (yielded ops a.tmps) = true) (t : TypeId) (x : Operand) (ho : o.op = .slice t x none none none) (N e : Nat) (hu : P.underlying t = some (.array N e)) (hs : (P.info? e).map (·.size) = some 1)
    (g : Nat) (hx : a.eval x = .pointer (some ⟨g, 0, none⟩)) (h3 : 0 < N)
    (hk : wpList P ops Q rest (a.put o.dst (.slice (some ⟨g, 0, none⟩) N N)) w) : wpList P ops Q (o :: rest) a w := by
  refine wpList_wanted hgd fun K hK => ?_
  have hr := (run_slice_arr P w t N e hu hs g 0 N (by omega) (by omega) h3 .i64 .i64).2.2.2 rfl rfl
  unfold Oper.wp execOp
  simp only [ho, Sem.run_bind, Sem.run_pure, Result.andThen_ok, Option.map_none, hx, hr]
  exact hK _ _ hk

/-- The result lies in a block. -/
theorem bodyPost_cell {R : Ending → World → Prop} {fn : Func} {p : Tmp} {t : TypeId} (hf : fn.results = #[ResultVar.cell p t]) (g : Nat) (hp : a.tmps.getD p undef = .pointer (some ⟨g, 0, none⟩)) (t' : TypeId) (cs : Array Value) (hg : Blk w g t' cs)
    (n : Nat) (e : TypeId) (hu : P.underlying t = some (.array n e)) (hi : (P.info? t).map (·.size) = some cs.size) (hd : a.defers = []) (hR : Stop (R (.returned (.agg cs)) w)) : bodyPost P fn R .ret a w :=
  bodyPost_ret (results_cell_row hf a.tmps w g t' cs (0, 0) _ hp hg hu rfl hi) hd hR

/-- copy into a block of bytes, whatever the source is, nil too. -/
theorem run_copy_bytes (P : Program) (w : World) (dT sT ty elem : TypeId) (hu : P.underlying dT = some (.slice elem)) (hs : (P.info? elem).map (·.size) = some 1)
    (g off dLen dCap : Nat) (cur : List UInt8) (t : TypeId) (hg : Blk w g t (bcells cur)) (hd : off + dLen ≤ cur.length) (A : Option Addr) (n c : Nat) (l : List UInt8) (hn : l.length = n) (hr : RB w A l) :
    ∃ w', (Builtin.copy_ #[dT, sT] ty #[.slice (some ⟨g, off, none⟩) dLen dCap, .slice A n c]).run P w = .ok (.int .i64 ((min n dLen : Nat) : Int)) w' ∧ Only w w' g ∧ Blk w' g t (bcells (splice cur off (l.take dLen))) := by
  subst hn
  by_cases h0 : min l.length dLen = 0
  · refine ⟨w, ?_, Only.refl _ _, ?_⟩
    · rw [run_copy_none w dT sT ty elem _ _ _ _ _ _ hu hs h0, h0]; rfl
    · have : l.take dLen = [] := by rw [← List.length_eq_zero_iff, List.length_take]; omega
      rw [this, splice_nil]; exact hg
  · obtain ⟨ad, rfl⟩ := hr.addr (by omega)
    have hlen : ((l.take dLen).map fun x : UInt8 => Value.int .u8 (x.toNat : Int)).length = min l.length dLen := by simp; omega
    have hrun := run_copy_row P w dT sT ty elem g off dLen dCap ad l.length c (bcells cur) t ((l.take dLen).map fun x => Value.int .u8 (x.toNat : Int)) hu hs hg hlen ?_ ?_ ?_
    · rw [hlen] at hrun
      refine ⟨_, hrun, Only.setRow hg _, ?_⟩
      have e : (List.take off (bcells cur).toList ++ ((l.take dLen).map fun x => Value.int .u8 (x.toNat : Int)) ++ List.drop (off + min l.length dLen) (bcells cur).toList).toArray = bcells (splice cur off (l.take dLen)) := by
        have e2 : (l.take dLen).length = min l.length dLen := by simp; omega
        simp only [bcells, splice, e2, List.map_append, List.map_take, List.map_drop]
      rw [e]
      exact hg.setRow _
    · intro j v hj
      rw [List.getElem?_map] at hj
      obtain ⟨x, hx, rfl⟩ := Option.map_eq_some_iff.1 hj
      have hjl : j < l.length := by
        have := (List.getElem?_eq_some_iff.1 hx).1
        simp at this; omega
      obtain ⟨ad', e, hc⟩ := hr j hjl
      injection e with e
      subst e
      rw [hc]
      rw [List.getElem?_take_of_lt (by have := (List.getElem?_eq_some_iff.1 hx).1; simp at this; omega), List.getElem?_eq_getElem hjl] at hx
      injection hx with hx
      rw [hx]
    · rw [hlen, bcells_size]; omega
    · intro v hv
      obtain ⟨x, _, rfl⟩ := List.mem_map.1 hv
      rfl

theorem wpList_copy_bytes (hgd : Region.wanted o (yielded ops a.tmps) = true) (s x : Operand) (dT sT : TypeId) (ho : o.op = .call { callee := .builtin .copy, args := #[s, x], argTypes := #[dT, sT] }) (elem : TypeId) (hu : P.underlying dT = some (.slice elem)) (hs : (P.info? elem).map (·.size) = some 1)
    (g off dLen dCap : Nat) (cur : List UInt8) (t : TypeId) (hsv : a.eval s = .slice (some ⟨g, off, none⟩) dLen dCap) (hg : Blk w g t (bcells cur)) (hd : off + dLen ≤ cur.length) (A : Option Addr) (n c : Nat) (l : List UInt8) (hxv : a.eval x = .slice A n c) (hn : l.length = n) (hr : RB w A l)
    (h : Stop (∀ w', Hid (Only w w' g) → Hid (Blk w' g t (bcells (splice cur off (l.take dLen)))) → wpList P ops Q rest (a.put o.dst (.int .i64 ((min n dLen : Nat) : Int))) w')) : wpList P ops Q (o :: rest) a w := by
  refine wpList_wanted hgd fun K hK => ?_
  obtain ⟨w', hrun, h1, h2⟩ := run_copy_bytes P w dT sT o.type elem hu hs g off dLen dCap cur t hg hd A n c l hn hr
  unfold Oper.wp execOp
  simp only [ho, resolve, invoke, builtin, Sem.run_bind, Sem.run_pure, Result.andThen_ok, List.map_toArray, List.map_cons, List.map_nil, hsv, hxv, hrun]
  exact hK _ _ (h w' h1 h2)

/-- make of n noughts. -/
theorem run_make_zeros (P : Program) (w : World) (t e : TypeId) (ht : P.underlying t = some (.slice e)) (hi : (P.info? e).map (fun i => (i.zero, i.size, i.bytes)) = some (some (.int .u8 0), 1, 1)) (kl kc : IntKind) (n : Nat) (hn : n ≤ 281474976710656) :
    (Instr.makeSlice t (.int kl n) (.int kc n)).run P w = .ok (.slice (some ⟨w.heap.size, 0, none⟩) n n) (w.alloc (.cells (bcells (zeros n)) e)) := by
  obtain ⟨i, h1, h2, h3, h4⟩ := info_parts hi
  have hr := run_make (P := P) w t e i (.int .u8 0) ht h1 h2 kl kc n n (by omega) (by omega) (by rw [h4]; omega) (by omega)
  have e1 : madeCells (Value.int .u8 0).cells ((n : Int).toNat * i.size) = bcells (zeros n) := by
    rw [h3, zeros]
    apply Array.ext_getElem?
    intro j
    rw [bcells_get]
    simp [madeCells, Value.cells, Array.getElem?_map, List.getElem?_replicate]
    by_cases hj : j < n <;> simp [hj]
    all_goals simp [Nat.mod_one]
  rw [e1] at hr
  simpa using hr
theorem wpList_make_bytes (hgd : Region.wanted o (yielded ops a.tmps) = true) (lo co : Operand) (t e : TypeId) (ho : o.op = .makeSlice t lo co) (ht : P.underlying t = some (.slice e)) (hi : (P.info? e).map (fun i => (i.zero, i.size, i.bytes)) = some (some (.int .u8 0), 1, 1))
    (kl kc : IntKind) (L C : Int) (n : Nat) (hl : a.eval lo = .int kl L) (hc : a.eval co = .int kc C) (hL : L = n) (hC : C = n) (hn : n ≤ 281474976710656)
    (h : Stop (∀ w', Hid (Grew w w') → Hid (Blk w' w.heap.size e (bcells (zeros n))) → wpList P ops Q rest (a.put o.dst (.slice (some ⟨w.heap.size, 0, none⟩) n n)) w')) : wpList P ops Q (o :: rest) a w := by
  refine wpList_wanted hgd fun K hK => ?_
  subst hL; subst hC
  have hr := run_make_zeros P w t e ht hi kl kc n hn
  unfold Oper.wp execOp
  simp only [ho, Sem.run_bind, Sem.run_pure, Result.andThen_ok, hl, hc, hr]
  exact hK _ _ (h _ (Grew.alloc w _) (Blk.new w e _))

/-- A slice value of the call's own (no block below B) that reads as these bytes. -/
def OwnB (w : World) (B : Nat) (e : TypeId) (v : Value) (l : List UInt8) : Prop := w.ownsRow B e 1 v l.length (l.map fun x => Value.int .u8 (x.toNat : Int))
theorem OwnB.nil_ (w : World) (B : Nat) (e : TypeId) : OwnB w B e (.slice none 0 0) [] := World.ownsRow_nil w B e 1
theorem OwnB.read {w : World} {B : Nat} {e : TypeId} {v : Value} {l : List UInt8} (h : OwnB w B e v l) : ∃ A c, v = .slice A l.length c ∧ l.length ≤ c ∧ c ≤ maxLen ∧ RB w A l := by
  obtain ⟨hl, h | ⟨g, cap, cur, hv, hb, hg, hn, hc, hs, ht⟩⟩ := h
  · refine ⟨none, 0, by rw [h.1, h.2], by omega, by unfold maxLen; omega, ?_⟩
    have : l = [] := List.eq_nil_of_length_eq_zero h.2
    subst this
    exact RB.nil_ _ _
  · refine ⟨_, cap, hv, hn, hc, RB.of_blk hg 0 fun k hk => ?_⟩
    have h2 : (cur.toList.take (l.length * 1))[k]? = (l.map fun x => Value.int .u8 (x.toNat : Int))[k]? := by rw [ht]
    rw [List.getElem?_take_of_lt (by omega), List.getElem?_map, List.getElem?_eq_getElem hk] at h2
    simpa using h2
theorem OwnB.alloc {w : World} {B : Nat} {e : TypeId} {v : Value} {l : List UInt8} (h : OwnB w B e v l) (o : Obj) : OwnB (w.alloc o) B e v l := World.ownsRow.alloc h o

theorem wpList_append_byte (hgd : Region.wanted o (yielded ops a.tmps) = true) (s x : Operand) (t e : TypeId) (ho : o.op = .call { callee := .builtin .append, args := #[s, x], argTypes := #[t, t] })
    (ht : P.underlying t = some (.slice e)) (hi : (P.info? e).map (fun i => (i.zero, i.size, i.bytes)) = some (some (.int .u8 0), 1, 1))
    (B : Nat) (v : Value) (l : List UInt8) (hs : a.eval s = v) (hown : OwnB w B e v l) (X : Int) (b : UInt8) (hX : X = (b.toNat : Int)) (hx : a.eval x = .slice (some ⟨w.heap.size, 0, none⟩) 1 1)
    (hB : B ≤ w.heap.size) (hlen : l.length + 1 ≤ 140737488355328)
    (h : Stop (∀ v' w', Hid (OwnB w' B e v' (l ++ [b])) → Hid (Below B w w') → wpList P ops Q rest (a.put o.dst v') w')) : wpList P ops Q (o :: rest) a (w.alloc (.cells #[.int .u8 X] e)) := by
  obtain ⟨i, h1, h2, h3, h4⟩ := info_parts hi
  subst hX
  refine wpList_wanted hgd fun _ hK => wp_append_own _ s x t ho B e i (.int .u8 0) 1 1 ht h1 h2 h3 h4 rfl (by omega) v l.length _ hs (hown.alloc _) ⟨w.heap.size, 0, none⟩ 1 1 [.int .u8 (b.toNat : Int)] hx rfl (cell_one_new _ _ _) ?_ (by unfold maxLen; omega) (by omega) (by simp; omega) ?_
  · intro u hu
    simp at hu
    subst hu
    rfl
  · intro v' w' ho' hg _
    refine hK _ _ (h v' w' ?_ ?_)
    · have e1 : (l ++ [b]).length = l.length + 1 := by simp
      unfold OwnB
      rw [e1, List.map_append]
      exact ho'
    · refine (((Below.refl B w).alloc (by omega) _)).grown hg (by simp; omega) ?_
      intro k hk
      exact (World.ownsRow.lt hown k hk).1

end

end Go.Proofs.Ytennkfpehdijcaa
