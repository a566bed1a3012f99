/-
  Texts of this claim joined: Base, LeV, Num1, Rets, Num2, ZerA, Ref01b.
-/
import Derived.Below
import Derived.Laws.OwnMore
import Derived.Deep.AppendLies
import Derived.Deep.Draws
import Derived.Lib.Hide
import Derived.WalkKit
import Derived.WalkSpells
import Derived.WalkLawsBesides
import Derived.Stop.BytesEq
import Derived.Test.YtkakihbfhmiabaaGreatRows
import Derived.BigQuiet
import Derived.Deep.QuietTactic

/-
  Words for bytes in memory: a slice that reads as a list of bytes, an array of bytes as a value. Plain; no program is named here.
-/
namespace Go.Proofs.YtkakihbfhmiabaaGreat
open Go.RowKit

/-- A byte as a value. -/
def bv (x : UInt8) : Value := .int .u8 (x.toNat : Int)

theorem block_of_add (a : Addr) (n : Nat) : (a.add n).block = a.block := by unfold Addr.add; split <;> rfl
theorem add_of_add (a : Addr) (i j : Nat) : (a.add i).add j = a.add (i + j) := by
  unfold Addr.add
  by_cases hi : i = 0 <;> by_cases hj : j = 0 <;> simp [hi, hj, Nat.add_assoc]

/-- A slice value with this address and this length reads as these bytes. -/
def RB (w : World) (A : Option Addr) (l : List UInt8) : Prop :=
  ∀ k (h : k < l.length), ∃ ad, A = some ad ∧ w.cell? (ad.add k) = some (.int .u8 (l[k].toNat : Int))

theorem RB.cut {w : World} {A : Option Addr} {l : List UInt8} (h : RB w A l) (p q : Nat) : RB w (A.map (·.add p)) ((l.drop p).take q) := fun k hk => by
  have hk' : p + k < l.length := by simp at hk; omega
  obtain ⟨ad, e, hc⟩ := h (p + k) hk'
  refine ⟨ad.add p, by rw [e]; rfl, ?_⟩
  rw [add_of_add, hc]
  simp
theorem RB.addr {w : World} {A : Option Addr} {l : List UInt8} (h : RB w A l) (hl : 0 < l.length) : ∃ ad, A = some ad := by
  obtain ⟨ad, e, _⟩ := h 0 hl
  exact ⟨ad, e⟩
theorem RB.nil_ (w : World) (A : Option Addr) : RB w A [] := fun k h => absurd h (by simp)
theorem RB.below {w w' : World} {A : Option Addr} {l : List UInt8} (h : RB w A l) (hb : Below w.heap.size w w') : RB w' A l := fun k hk => by
  obtain ⟨ad, e, hc⟩ := h k hk
  refine ⟨ad, e, ?_⟩
  have hlt : (ad.add k).block < w.heap.size := block_lt_of_cell hc
  rw [hb.cell hlt, hc]


/-- The bytes of a list as cells. -/
def bcells (l : List UInt8) : Array Value := (l.map fun x => Value.int .u8 (x.toNat : Int)).toArray
theorem bcells_size (l : List UInt8) : (bcells l).size = l.length := by simp [bcells]
theorem bcells_get (l : List UInt8) (k : Nat) : (bcells l)[k]? = (l[k]?).map fun x => Value.int .u8 (x.toNat : Int) := by simp [bcells]
theorem bcells_set (l : List UInt8) (k : Nat) (x : UInt8) : (bcells l).setIfInBounds k (.int .u8 (x.toNat : Int)) = bcells (l.set k x) := by
  simp [bcells, List.map_set]

/-- Block g is known whole. -/
def Blk (w : World) (g : Nat) (t : TypeId) (cs : Array Value) : Prop := w.heap[g]? = some (.cells cs t (0, 0))
/-- Nothing but block g has changed, and no block has come. -/
structure Only (w w' : World) (g : Nat) : Prop where
  os : w'.os = w.os
  tape : w'.tape = w.tape
  output : w'.output = w.output
  size : w'.heap.size = w.heap.size
  block : ∀ k, k ≠ g → w'.heap[k]? = w.heap[k]?

section
variable {w w' w'' : World} {g : Nat} {t : TypeId} {cs : Array Value}
theorem Blk.lt (h : Blk w g t cs) : g < w.heap.size := by
  rcases Nat.lt_or_ge g w.heap.size with hlt | hge
  · exact hlt
  · unfold Blk at h; rw [Array.getElem?_eq_none hge] at h; cases h
theorem Blk.cell (h : Blk w g t cs) (i : Nat) : w.cell? ⟨g, i, none⟩ = cs[i]? := cell_of_row w g i cs t (0, 0) h
theorem Blk.byte {l : List UInt8} (h : Blk w g t (bcells l)) (i : Nat) (hi : i < l.length) : ∃ x : UInt8, l[i]? = some x ∧ w.cell? ⟨g, i, none⟩ = some (.int .u8 (x.toNat : Int)) :=
  ⟨l[i], List.getElem?_eq_getElem hi, by rw [h.cell, bcells_get, List.getElem?_eq_getElem hi]; rfl⟩
theorem Blk.frozen (h : Blk w g t cs) (i : Nat) : w.frozen? ⟨g, i, none⟩ = false := by
  unfold Blk at h
  simp [World.frozen?, h]
theorem Blk.new (w : World) (t : TypeId) (cs : Array Value) : Blk (w.alloc (.cells cs t)) w.heap.size t cs := heap_alloc_new w _
theorem Blk.alloc (h : Blk w g t cs) (o : Obj) : Blk (w.alloc o) g t cs := (Below.heap_alloc w o g h.lt).trans h
theorem Blk.set_ (h : Blk w g t cs) (i : Nat) (u : Value) : Blk (w.setCell ⟨g, i, none⟩ u) g t (cs.setIfInBounds i u) := by
  unfold Blk at h ⊢
  simp [World.setCell, Array.getElem?_modify, h]
theorem Blk.far (h : Blk w g t cs) {p : Addr} (hp : g ≠ p.block) (u : Value) : Blk (w.setCell p u) g t cs := (Below.heap_setCell w p u g hp).trans h
theorem Blk.below {B : Nat} (h : Blk w g t cs) (hb : Below B w w') (hg : g < B) : Blk w' g t cs := (hb.block g hg).trans h
theorem Blk.only {g' : Nat} (h : Blk w g t cs) (ho : Only w w' g') (hne : g ≠ g') : Blk w' g t cs := (ho.block g hne).trans h
theorem Only.refl (w : World) (g : Nat) : Only w w g := ⟨rfl, rfl, rfl, rfl, fun _ _ => rfl⟩
theorem Only.trans (h : Only w w' g) (h' : Only w' w'' g) : Only w w'' g :=
  ⟨h'.os.trans h.os, h'.tape.trans h.tape, h'.output.trans h.output, h'.size.trans h.size, fun k hk => (h'.block k hk).trans (h.block k hk)⟩
theorem Only.setCell (h : Only w w' g) (i : Nat) (u : Value) : Only w (w'.setCell ⟨g, i, none⟩ u) g :=
  ⟨h.os, h.tape, h.output, by simpa using h.size, fun k hk => (Below.heap_setCell w' ⟨g, i, none⟩ u k hk).trans (h.block k hk)⟩
theorem Only.below {B : Nat} (h : Only w w' g) (hB : B ≤ g) : Below B w w' :=
  ⟨h.os, h.tape, h.output, Nat.le_of_eq h.size.symm, fun k hk => h.block k (by omega)⟩
theorem RB.of_blk {l : List UInt8} (h : Blk w g t cs) (o : Nat) (hl : ∀ k (hk : k < l.length), cs[o + k]? = some (.int .u8 (l[k].toNat : Int))) : RB w (some ⟨g, o, none⟩) l := fun k hk => by
  refine ⟨_, rfl, ?_⟩
  have e : (⟨g, o, none⟩ : Addr).add k = ⟨g, o + k, none⟩ := by unfold Addr.add; split <;> simp_all
  rw [e, h.cell, hl k hk]
end

/-- The list with other bytes from a place on (where there is room for all of them). -/
def splice (L : List UInt8) (o : Nat) (d : List UInt8) : List UInt8 := L.take o ++ d ++ L.drop (o + d.length)
theorem splice_len (L : List UInt8) (o : Nat) (d : List UInt8) (h : o + d.length ≤ L.length) : (splice L o d).length = L.length := by
  simp [splice]; omega
theorem splice_all (L d : List UInt8) (h : d.length = L.length) : splice L 0 d = d := by
  simp [splice, h]
theorem splice_nil (L : List UInt8) (o : Nat) : splice L o [] = L := by simp [splice]
theorem splice_get (L : List UInt8) (o : Nat) (d : List UInt8) (h : o + d.length ≤ L.length) (i : Nat) :
    (splice L o d)[i]? = if o ≤ i ∧ i < o + d.length then d[i - o]? else L[i]? := by
  unfold splice
  rw [List.append_assoc, List.getElem?_append]
  by_cases h1 : i < o
  · rw [if_pos (by simp; omega), if_neg (by omega), List.getElem?_take_of_lt h1]
  · rw [if_neg (by simp; omega), List.getElem?_append]
    have e : (L.take o).length = o := by simp; omega
    rw [e]
    by_cases h2 : i < o + d.length
    · rw [if_pos (by omega), if_pos (by omega)]
    · rw [if_neg (by omega), if_neg (by omega), List.getElem?_drop]
      congr 1; omega
theorem splice_set (L : List UInt8) (o : Nat) (d : List UInt8) (x : UInt8) (h : o + d.length < L.length) :
    (splice L o d).set (o + d.length) x = splice L o (d ++ [x]) := by
  apply List.ext_getElem?
  intro i
  rw [List.getElem?_set, splice_get _ _ _ (by omega), splice_get _ _ _ (by simp; omega)]
  have hl := splice_len L o d (by omega)
  simp only [List.length_append, List.length_cons, List.length_nil]
  by_cases h1 : o + d.length = i
  · subst h1
    rw [if_pos rfl, if_pos (by omega), if_pos (by omega), List.getElem?_append_right (by omega)]
    simp
  · rw [if_neg h1]
    by_cases h2 : o ≤ i ∧ i < o + d.length
    · rw [if_pos h2, if_pos (by omega), List.getElem?_append_left (by omega)]
    · rw [if_neg h2, if_neg (by omega)]

theorem bt {a b c : World} (h : Below a.heap.size a b) (k : Below b.heap.size b c) : Below a.heap.size a c := h.trans (k.mono h.size)
theorem bdrew (w : World) (n : Nat) : Below w.heap.size w (w.drewN n) := ⟨rfl, rfl, rfl, Nat.le_refl _, fun _ _ => rfl⟩
theorem Blk.ext {w w' : World} {g : Nat} {t : TypeId} {cs : Array Value} (h : Blk w g t cs) (e : Below w.heap.size w w') : Blk w' g t cs := h.below e h.lt
theorem bonly {a b c : World} {g : Nat} (h : Below a.heap.size a b) (k : Only b c g) (hg : a.heap.size ≤ g) : Below a.heap.size a c := h.trans (k.below hg)
theorem sizeOf_of {P : Program} {e n : Nat} (h : (P.info? e).map (·.size) = some n) (w : World) : (sizeOf e).run P w = .ok n w := by
  obtain ⟨i, hi, hs⟩ := Option.map_eq_some_iff.1 h
  simp [sizeOf, typeInfo, hi, hs]
theorem wrap_u64_nat (z : Int) : ∃ V : Nat, IntKind.u64.wrap z = V ∧ V < 18446744073709551616 := by
  have h0 := wrap_u64_nonneg z
  have h1 : IntKind.u64.wrap z < 18446744073709551616 := by
    simp [IntKind.wrap, IntKind.bits, IntKind.signed]; omega
  exact ⟨(IntKind.u64.wrap z).toNat, by omega, by omega⟩
/-- This value, and the world as it was, but for what was drawn. -/
def RetQ (v : Value) (w : World) (e : Ending) (w' : World) : Prop := e = .returned v ∧ ∃ k, w' = w.drewN k
/-- Where a walk is to stop. -/
def Stop (p : Prop) : Prop := p
theorem Stop.go {p : Prop} (h : p) : Stop p := h
theorem RB.of_blk0 {w : World} {g : Nat} {t : TypeId} {l : List UInt8} (h : Blk w g t (bcells l)) : RB w (some ⟨g, 0, none⟩) l :=
  RB.of_blk h 0 fun k hk => by rw [Nat.zero_add, bcells_get, List.getElem?_eq_getElem hk]; rfl
theorem RB.of_blk_at {w : World} {g : Nat} {t : TypeId} {l : List UInt8} (h : Blk w g t (bcells l)) (o n : Nat) : RB w (some ⟨g, o, none⟩) ((l.drop o).take n) :=
  RB.of_blk h o fun k hk => by
    have hk' : o + k < l.length := by simp at hk; omega
    rw [bcells_get, List.getElem?_eq_getElem hk']; simp
def zeros (n : Nat) : List UInt8 := List.replicate n 0
theorem zeros_len (n : Nat) : (zeros n).length = n := by simp [zeros]
/-! ### The operations, each with the world that it leaves as a variable -/

/-- One block more. -/
def Grew (w w' : World) : Prop := Below w.heap.size w w' ∧ w'.heap.size = w.heap.size + 1
theorem Grew.alloc (w : World) (o : Obj) : Grew w (w.alloc o) := ⟨(Below.refl _ _).alloc (Nat.le_refl _) o, by simp⟩
theorem oneCell_bcells (l : List UInt8) : (bcells l).all (·.oneCell') = true := by
  rw [Array.all_eq_true_iff_forall_mem]
  intro v hv
  simp [bcells] at hv
  obtain ⟨x, _, rfl⟩ := hv
  rfl

section
variable {P : Program} {ops : Array Oper} {rest : List Oper} {o : Oper} {a : Act} {w : World} {Q : Exit → Act → World → Prop}

theorem wpList_wanted (hgd : Region.wanted o (yielded ops a.tmps) = true)
    (h : ∀ K : Act → World → Prop, (∀ a w, wpList P ops Q rest a w → K a w) → o.wp P a w K Q) : wpList P ops Q (o :: rest) a w :=
  wpList_step fun K hK => by rw [if_pos hgd]; exact h K hK
/-- '==' on two arrays of bytes. -/
theorem wpList_eql_arr (hgd : Region.wanted o (yielded ops a.tmps) = true) (t t' : TypeId) (x y : Operand) (ho : o.op = .binOp .eql t x y t') (hm : P.eqGuardType P.depth t = false) (n e : Nat) (ht : P.underlying t = some (.array n e)) (he : P.underlying e = some (.int .u8)) (hs : (P.info? e).map (·.size) = some 1)
    (xs ys : List UInt8) (hx : a.eval x = .agg (bcells xs)) (hy : a.eval y = .agg (bcells ys)) (hxl : xs.length = n) (hyl : ys.length = n) (r : Bool) (hr : (xs == ys) = r)
    (h : wpList P ops Q rest (a.put o.dst (.bool r)) w) : wpList P ops Q (o :: rest) a w := by
  refine wpList_wanted hgd fun K hK => ?_
  have hrun : (binOp .eql t (.agg (bcells xs)) (.agg (bcells ys))).run P w = .ok (.bool (xs == ys)) w := run_eql_bytes w t e n ht he (sizeOf_of hs) xs ys hxl hyl
  rw [hr] at hrun
  unfold Oper.wp execOp
  simp only [ho, hx, hy, Sem.run_bind, run_eqGuard_agg w .eql t x y (bcells xs) (bcells ys) hm, Result.andThen_ok, hrun]
  exact hK _ _ h
theorem run_box_row (P : Program) (w : World) (t : TypeId) (cs : Array Value) : (Instr.box t (.agg cs)).run P w = .ok (.pointer (some ⟨w.heap.size, 0, none⟩)) (w.alloc (.cells cs t)) := by
  simp [Instr.box, newVar, Value.cells]; rfl
theorem run_alloc_row (P : Program) (w : World) (t : TypeId) (cs : Array Value) (hz : (P.info? t).map (·.zero) = some (some (.agg cs))) :
    (Instr.alloc t true (.tuple #[])).run P w = .ok (.pointer (some ⟨w.heap.size, 0, none⟩)) (w.alloc (.cells cs t)) := by
  obtain ⟨i, hi, hiz⟩ := Option.map_eq_some_iff.1 hz
  simp [Instr.alloc, newVar, zeroValue, typeInfo, hi, hiz, Value.cells]; rfl

theorem run_build_zero (P : Program) (w : World) (t : TypeId) (cs : Array Value) (hz : (P.info? t).map (·.zero) = some (some (.agg cs))) (n e : Nat) (hu : P.underlying t = some (.array n e)) (he : (P.info? e).map (·.size) = some 1) :
    (Instr.build t #[]).run P w = .ok (.agg cs) w := by
  obtain ⟨i, hi, hiz⟩ := Option.map_eq_some_iff.1 hz
  obtain ⟨j, hj, hjz⟩ := Option.map_eq_some_iff.1 he
  simp [Instr.build, zeroValue, typeInfo, hi, hiz, Value.cells, run_underlying hu, sizeOf, hj, Instr.fill]
theorem wpList_build_zero (hgd : Region.wanted o (yielded ops a.tmps) = true) (t : TypeId) (ho : o.op = .build t #[]) (cs : Array Value) (hz : (P.info? t).map (·.zero) = some (some (.agg cs))) (n e : Nat) (hu : P.underlying t = some (.array n e)) (he : (P.info? e).map (·.size) = some 1)
    (h : wpList P ops Q rest (a.put o.dst (.agg cs)) w) : wpList P ops Q (o :: rest) a w := by
  refine wpList_wanted hgd fun K hK => ?_
  unfold Oper.wp execOp
  simp only [ho, Sem.run_bind, List.map_toArray, List.map_nil, run_build_zero P w t cs hz n e hu he, Result.andThen_ok]
  exact hK _ _ h

theorem wpList_box_row (hgd : Region.wanted o (yielded ops a.tmps) = true) (t : TypeId) (x : Operand) (ho : o.op = .box t x) (cs : Array Value) (hx : a.eval x = .agg cs)
    (h : Stop (∀ w', Hid (Grew w w') → Hid (Blk w' w.heap.size t cs) → wpList P ops Q rest (a.put o.dst (.pointer (some ⟨w.heap.size, 0, none⟩))) w')) : wpList P ops Q (o :: rest) a w := by
  refine wpList_wanted hgd fun K hK => ?_
  unfold Oper.wp execOp
  simp only [ho, hx, Sem.run_bind, run_box_row, Result.andThen_ok]
  exact hK _ _ (h _ (Grew.alloc w _) (Blk.new w t cs))

theorem wpList_alloc_row (hgd : Region.wanted o (yielded ops a.tmps) = true) (t : TypeId) (ho : o.op = .alloc t) (cs : Array Value) (hz : (P.info? t).map (·.zero) = some (some (.agg cs)))
    (h : Stop (∀ w', Hid (Grew w w') → Hid (Blk w' w.heap.size t cs) → wpList P ops Q rest (a.put o.dst (.pointer (some ⟨w.heap.size, 0, none⟩))) w')) : wpList P ops Q (o :: rest) a w := by
  refine wpList_wanted hgd fun K hK => ?_
  unfold Oper.wp execOp
  simp only [ho, Sem.run_bind, run_alloc_row P w t cs hz, Result.andThen_ok]
  exact hK _ _ (h _ (Grew.alloc w _) (Blk.new w t cs))

theorem wpList_load_arr (hgd : Region.wanted o (yielded ops a.tmps) = true) (t : TypeId) (x : Operand) (ho : o.op = .load t x) (g : Nat) (hx : a.eval x = .pointer (some ⟨g, 0, none⟩)) (t' : TypeId) (cs : Array Value) (hg : Blk w g t' cs)
    (n : Nat) (e : TypeId) (hu : P.underlying t = some (.array n e)) (hi : (P.info? t).map (·.size) = some cs.size)
    (h : wpList P ops Q rest (a.put o.dst (.agg cs)) w) : wpList P ops Q (o :: rest) a w :=
  wpList_wanted hgd fun _ hK => wp_load_row t x ho g hx t' cs (0, 0) _ hg hu rfl hi (hK _ _ h)

theorem Only.setRow {w : World} {g : Nat} {t : TypeId} {old : Array Value} (_h : Blk w g t old) (cs : Array Value) : Only w (w.setRow g cs) g :=
  ⟨rfl, rfl, rfl, size_setRow _ _ _, fun k hk => setRow_other w g k cs hk⟩
theorem Blk.setRow {w : World} {g : Nat} {t : TypeId} {old : Array Value} (h : Blk w g t old) (cs : Array Value) : Blk (w.setRow g cs) g t cs := setRow_heap w g old cs t _ h

theorem wpList_store_arr (hgd : Region.wanted o (yielded ops a.tmps) = true) (t : TypeId) (x y : Operand) (ho : o.op = .store t x y)
    (g : Nat) (cs : Array Value) (hx : a.eval x = .pointer (some ⟨g, 0, none⟩)) (hy : a.eval y = .agg cs)
    (t' : TypeId) (old : Array Value) (hg : Blk w g t' old) (hi : (P.info? t).map (·.size) = some cs.size) (hold : old.size = cs.size) (h1 : cs.all (·.oneCell') = true)
    (h : Stop (∀ w', Hid (Only w w' g) → Hid (Blk w' g t' cs) → wpList P ops Q rest (a.put o.dst undef) w')) : wpList P ops Q (o :: rest) a w :=
  wpList_wanted hgd fun _ hK => wp_store_row t x y ho g cs hx hy t' old hg hi hold h1 (hK _ _ (h _ (Only.setRow hg cs) (hg.setRow cs)))

theorem addr_add0 (g l : Nat) : (⟨g, 0, none⟩ : Addr).add l = ⟨g, l, none⟩ := by unfold Addr.add; split <;> simp_all
/-- A cut of an array of one-cell elements. -/
theorem run_slice_arr (P : Program) (w : World) (t N e : Nat) (hu : P.underlying t = some (.array N e)) (hs : (P.info? e).map (·.size) = some 1) (g l h : Nat) (h1 : l ≤ h) (h2 : h ≤ N) (h3 : l < N) (kl kh : IntKind) :
    (Instr.sliceAt t (.pointer (some ⟨g, 0, none⟩)) (some (.int kl l)) (some (.int kh h)) none).run P w = .ok (.slice (some ⟨g, l, none⟩) (h - l) (N - l)) w ∧
    (h = N → (Instr.sliceAt t (.pointer (some ⟨g, 0, none⟩)) (some (.int kl l)) none none).run P w = .ok (.slice (some ⟨g, l, none⟩) (N - l) (N - l)) w) ∧
    (l = 0 → (Instr.sliceAt t (.pointer (some ⟨g, 0, none⟩)) none (some (.int kh h)) none).run P w = .ok (.slice (some ⟨g, 0, none⟩) h N) w) ∧
    (l = 0 → h = N → (Instr.sliceAt t (.pointer (some ⟨g, 0, none⟩)) none none none).run P w = .ok (.slice (some ⟨g, 0, none⟩) N N) w) := by
  obtain ⟨i, hi, hiz⟩ := Option.map_eq_some_iff.1 hs
  have n3 : ¬ N = l := by omega
  refine ⟨?_, fun e => ?_, fun e => ?_, fun e1 e2 => ?_⟩
  · simp [Instr.sliceAt, Instr.sureAddr, run_underlying hu, Instr.sliceBounds, Instr.sliceBound, asIntOf, sizeOf, typeInfo, hi, hiz, n3, addr_add0, h1, h2]
  · subst e
    simp [Instr.sliceAt, Instr.sureAddr, run_underlying hu, Instr.sliceBounds, Instr.sliceBound, asIntOf, sizeOf, typeInfo, hi, hiz, n3, addr_add0, h1]
  · subst e
    simp [Instr.sliceAt, Instr.sureAddr, run_underlying hu, Instr.sliceBounds, Instr.sliceBound, asIntOf, sizeOf, typeInfo, hi, h2, addr_add0]
  · subst e1; subst e2
    simp [Instr.sliceAt, Instr.sureAddr, run_underlying hu, Instr.sliceBounds, sizeOf, typeInfo, hi, addr_add0]
theorem wpList_slice_arr_lh (hgd : Region.wanted o (yielded ops a.tmps) = true) (t : TypeId) (x lo hi : Operand) (ho : o.op = .slice t x (some lo) (some hi) none) (N e : Nat) (hu : P.underlying t = some (.array N e)) (hs : (P.info? e).map (·.size) = some 1)
    (g : Nat) (hx : a.eval x = .pointer (some ⟨g, 0, none⟩)) (kl kh : IntKind) (L H : Int) (hlo : a.eval lo = .int kl L) (hhi : a.eval hi = .int kh H) (l h : Nat) (hL : L = l) (hH : H = h) (h1 : l ≤ h) (h2 : h ≤ N) (h3 : l < N)
    (hk : wpList P ops Q rest (a.put o.dst (.slice (some ⟨g, l, none⟩) (h - l) (N - l))) w) : wpList P ops Q (o :: rest) a w := by
  refine wpList_wanted hgd fun K hK => ?_
  subst hL; subst hH
  have hr := (run_slice_arr P w t N e hu hs g l h h1 h2 h3 kl kh).1
  unfold Oper.wp execOp
  simp only [ho, Sem.run_bind, Sem.run_pure, Result.andThen_ok, Option.map_some, Option.map_none, hx, hlo, hhi, hr]
  exact hK _ _ hk
theorem wpList_slice_arr_l (hgd : Region.wanted o (yielded ops a.tmps) = true) (t : TypeId) (x lo : Operand) (ho : o.op = .slice t x (some lo) none none) (N e : Nat) (hu : P.underlying t = some (.array N e)) (hs : (P.info? e).map (·.size) = some 1)
    (g : Nat) (hx : a.eval x = .pointer (some ⟨g, 0, none⟩)) (kl : IntKind) (L : Int) (hlo : a.eval lo = .int kl L) (l : Nat) (hL : L = l) (h3 : l < N)
    (hk : wpList P ops Q rest (a.put o.dst (.slice (some ⟨g, l, none⟩) (N - l) (N - l))) w) : wpList P ops Q (o :: rest) a w := by
  refine wpList_wanted hgd fun K hK => ?_
  subst hL
  have hr := (run_slice_arr P w t N e hu hs g l N (by omega) (by omega) h3 kl .i64).2.1 rfl
  unfold Oper.wp execOp
  simp only [ho, Sem.run_bind, Sem.run_pure, Result.andThen_ok, Option.map_some, Option.map_none, hx, hlo, hr]
  exact hK _ _ hk
theorem wpList_slice_arr_h (hgd : Region.wanted o (yielded ops a.tmps) = true) (t : TypeId) (x hi : Operand) (ho : o.op = .slice t x none (some hi) none) (N e : Nat) (hu : P.underlying t = some (.array N e)) (hs : (P.info? e).map (·.size) = some 1)
    (g : Nat) (hx : a.eval x = .pointer (some ⟨g, 0, none⟩)) (kh : IntKind) (H : Int) (hhi : a.eval hi = .int kh H) (h : Nat) (hH : H = h) (h2 : h ≤ N) (h3 : 0 < N)
    (hk : wpList P ops Q rest (a.put o.dst (.slice (some ⟨g, 0, none⟩) h N)) w) : wpList P ops Q (o :: rest) a w := by
  refine wpList_wanted hgd fun K hK => ?_
  subst hH
  have hr := (run_slice_arr P w t N e hu hs g 0 h (by omega) h2 h3 .i64 kh).2.2.1 rfl
  unfold Oper.wp execOp
  simp only [ho, Sem.run_bind, Sem.run_pure, Result.andThen_ok, Option.map_some, Option.map_none, hx, hhi, hr]
  exact hK _ _ hk
theorem wpList_slice_arr_all (hgd : Region.wanted o (yielded ops a.tmps) = true) (t : TypeId) (x : Operand) (ho : o.op = .slice t x none none none) (N e : Nat) (hu : P.underlying t = some (.array N e)) (hs : (P.info? e).map (·.size) = some 1)
    (g : Nat) (hx : a.eval x = .pointer (some ⟨g, 0, none⟩)) (h3 : 0 < N)
    (hk : wpList P ops Q rest (a.put o.dst (.slice (some ⟨g, 0, none⟩) N N)) w) : wpList P ops Q (o :: rest) a w := by
  refine wpList_wanted hgd fun K hK => ?_
  have hr := (run_slice_arr P w t N e hu hs g 0 N (by omega) (by omega) h3 .i64 .i64).2.2.2 rfl rfl
  unfold Oper.wp execOp
  simp only [ho, Sem.run_bind, Sem.run_pure, Result.andThen_ok, Option.map_none, hx, hr]
  exact hK _ _ hk

/-- The result lies in a block. -/
theorem bodyPost_cell {R : Ending → World → Prop} {fn : Func} {p : Tmp} {t : TypeId} (hf : fn.results = #[ResultVar.cell p t]) (g : Nat) (hp : a.tmps.getD p undef = .pointer (some ⟨g, 0, none⟩)) (t' : TypeId) (cs : Array Value) (hg : Blk w g t' cs)
    (n : Nat) (e : TypeId) (hu : P.underlying t = some (.array n e)) (hi : (P.info? t).map (·.size) = some cs.size) (hd : a.defers = []) (hR : Stop (R (.returned (.agg cs)) w)) : bodyPost P fn R .ret a w :=
  bodyPost_ret (results_cell_row hf a.tmps w g t' cs (0, 0) _ hp hg hu rfl hi) hd hR

/-- copy into a block of bytes, whatever the source is, nil too. -/
theorem run_copy_bytes (P : Program) (w : World) (dT sT ty elem : TypeId) (hu : P.underlying dT = some (.slice elem)) (hs : (P.info? elem).map (·.size) = some 1)
    (g off dLen dCap : Nat) (cur : List UInt8) (t : TypeId) (hg : Blk w g t (bcells cur)) (hd : off + dLen ≤ cur.length) (A : Option Addr) (n c : Nat) (l : List UInt8) (hn : l.length = n) (hr : RB w A l) :
    ∃ w', (Builtin.copy_ #[dT, sT] ty #[.slice (some ⟨g, off, none⟩) dLen dCap, .slice A n c]).run P w = .ok (.int .i64 ((min n dLen : Nat) : Int)) w' ∧ Only w w' g ∧ Blk w' g t (bcells (splice cur off (l.take dLen))) := by
  subst hn
  by_cases h0 : min l.length dLen = 0
  · refine ⟨w, ?_, Only.refl _ _, ?_⟩
    · rw [run_copy_none w dT sT ty elem _ _ _ _ _ _ hu hs h0, h0]; rfl
    · have : l.take dLen = [] := by rw [← List.length_eq_zero_iff, List.length_take]; omega
      rw [this, splice_nil]; exact hg
  · obtain ⟨ad, rfl⟩ := hr.addr (by omega)
    have hlen : ((l.take dLen).map fun x : UInt8 => Value.int .u8 (x.toNat : Int)).length = min l.length dLen := by simp; omega
    have hrun := run_copy_row P w dT sT ty elem g off dLen dCap ad l.length c (bcells cur) t ((l.take dLen).map fun x => Value.int .u8 (x.toNat : Int)) hu hs hg hlen ?_ ?_ ?_
    · rw [hlen] at hrun
      refine ⟨_, hrun, Only.setRow hg _, ?_⟩
      have e : (List.take off (bcells cur).toList ++ ((l.take dLen).map fun x => Value.int .u8 (x.toNat : Int)) ++ List.drop (off + min l.length dLen) (bcells cur).toList).toArray = bcells (splice cur off (l.take dLen)) := by
        have e2 : (l.take dLen).length = min l.length dLen := by simp; omega
        simp only [bcells, splice, e2, List.map_append, List.map_take, List.map_drop]
      rw [e]
      exact hg.setRow _
    · intro j v hj
      rw [List.getElem?_map] at hj
      obtain ⟨x, hx, rfl⟩ := Option.map_eq_some_iff.1 hj
      have hjl : j < l.length := by
        have := (List.getElem?_eq_some_iff.1 hx).1
        simp at this; omega
      obtain ⟨ad', e, hc⟩ := hr j hjl
      injection e with e
      subst e
      rw [hc]
      rw [List.getElem?_take_of_lt (by have := (List.getElem?_eq_some_iff.1 hx).1; simp at this; omega), List.getElem?_eq_getElem hjl] at hx
      injection hx with hx
      rw [hx]
    · rw [hlen, bcells_size]; omega
    · intro v hv
      obtain ⟨x, _, rfl⟩ := List.mem_map.1 hv
      rfl

theorem wpList_copy_bytes (hgd : Region.wanted o (yielded ops a.tmps) = true) (s x : Operand) (dT sT : TypeId) (ho : o.op = .call { callee := .builtin .copy, args := #[s, x], argTypes := #[dT, sT] }) (elem : TypeId) (hu : P.underlying dT = some (.slice elem)) (hs : (P.info? elem).map (·.size) = some 1)
    (g off dLen dCap : Nat) (cur : List UInt8) (t : TypeId) (hsv : a.eval s = .slice (some ⟨g, off, none⟩) dLen dCap) (hg : Blk w g t (bcells cur)) (hd : off + dLen ≤ cur.length) (A : Option Addr) (n c : Nat) (l : List UInt8) (hxv : a.eval x = .slice A n c) (hn : l.length = n) (hr : RB w A l)
    (h : Stop (∀ w', Hid (Only w w' g) → Hid (Blk w' g t (bcells (splice cur off (l.take dLen)))) → wpList P ops Q rest (a.put o.dst (.int .i64 ((min n dLen : Nat) : Int))) w')) : wpList P ops Q (o :: rest) a w := by
  refine wpList_wanted hgd fun K hK => ?_
  obtain ⟨w', hrun, h1, h2⟩ := run_copy_bytes P w dT sT o.type elem hu hs g off dLen dCap cur t hg hd A n c l hn hr
  unfold Oper.wp execOp
  simp only [ho, resolve, invoke, builtin, Sem.run_bind, Sem.run_pure, Result.andThen_ok, List.map_toArray, List.map_cons, List.map_nil, hsv, hxv, hrun]
  exact hK _ _ (h w' h1 h2)

/-- make of n noughts. -/
theorem run_make_zeros (P : Program) (w : World) (t e : TypeId) (ht : P.underlying t = some (.slice e)) (hi : (P.info? e).map (fun i => (i.zero, i.size, i.bytes)) = some (some (.int .u8 0), 1, 1)) (kl kc : IntKind) (n : Nat) (hn : n ≤ 281474976710656) :
    (Instr.makeSlice t (.int kl n) (.int kc n)).run P w = .ok (.slice (some ⟨w.heap.size, 0, none⟩) n n) (w.alloc (.cells (bcells (zeros n)) e)) := by
  obtain ⟨i, h1, h2, h3, h4⟩ := info_parts hi
  have hr := run_make (P := P) w t e i (.int .u8 0) ht h1 h2 kl kc n n (by omega) (by omega) (by rw [h4]; omega) (by omega)
  have e1 : madeCells (Value.int .u8 0).cells ((n : Int).toNat * i.size) = bcells (zeros n) := by
    rw [h3, zeros]
    apply Array.ext_getElem?
    intro j
    rw [bcells_get]
    simp [madeCells, Value.cells, Array.getElem?_map, List.getElem?_replicate]
    by_cases hj : j < n <;> simp [hj]
    all_goals simp [Nat.mod_one]
  rw [e1] at hr
  simpa using hr
theorem wpList_make_bytes (hgd : Region.wanted o (yielded ops a.tmps) = true) (lo co : Operand) (t e : TypeId) (ho : o.op = .makeSlice t lo co) (ht : P.underlying t = some (.slice e)) (hi : (P.info? e).map (fun i => (i.zero, i.size, i.bytes)) = some (some (.int .u8 0), 1, 1))
    (kl kc : IntKind) (L C : Int) (n : Nat) (hl : a.eval lo = .int kl L) (hc : a.eval co = .int kc C) (hL : L = n) (hC : C = n) (hn : n ≤ 281474976710656)
    (h : Stop (∀ w', Hid (Grew w w') → Hid (Blk w' w.heap.size e (bcells (zeros n))) → wpList P ops Q rest (a.put o.dst (.slice (some ⟨w.heap.size, 0, none⟩) n n)) w')) : wpList P ops Q (o :: rest) a w := by
  refine wpList_wanted hgd fun K hK => ?_
  subst hL; subst hC
  have hr := run_make_zeros P w t e ht hi kl kc n hn
  unfold Oper.wp execOp
  simp only [ho, Sem.run_bind, Sem.run_pure, Result.andThen_ok, hl, hc, hr]
  exact hK _ _ (h _ (Grew.alloc w _) (Blk.new w e _))

/-- A slice value of the call's own (no block below B) that reads as these bytes. -/
def OwnB (w : World) (B : Nat) (e : TypeId) (v : Value) (l : List UInt8) : Prop := w.ownsRow B e 1 v l.length (l.map fun x => Value.int .u8 (x.toNat : Int))
theorem OwnB.nil_ (w : World) (B : Nat) (e : TypeId) : OwnB w B e (.slice none 0 0) [] := World.ownsRow_nil w B e 1
theorem OwnB.read {w : World} {B : Nat} {e : TypeId} {v : Value} {l : List UInt8} (h : OwnB w B e v l) : ∃ A c, v = .slice A l.length c ∧ l.length ≤ c ∧ c ≤ maxLen ∧ RB w A l := by
  obtain ⟨hl, h | ⟨g, cap, cur, hv, hb, hg, hn, hc, hs, ht⟩⟩ := h
  · refine ⟨none, 0, by rw [h.1, h.2], by omega, by unfold maxLen; omega, ?_⟩
    have : l = [] := List.eq_nil_of_length_eq_zero h.2
    subst this
    exact RB.nil_ _ _
  · refine ⟨_, cap, hv, hn, hc, RB.of_blk hg 0 fun k hk => ?_⟩
    have h2 : (cur.toList.take (l.length * 1))[k]? = (l.map fun x => Value.int .u8 (x.toNat : Int))[k]? := by rw [ht]
    rw [List.getElem?_take_of_lt (by omega), List.getElem?_map, List.getElem?_eq_getElem hk] at h2
    simpa using h2
theorem OwnB.alloc {w : World} {B : Nat} {e : TypeId} {v : Value} {l : List UInt8} (h : OwnB w B e v l) (o : Obj) : OwnB (w.alloc o) B e v l := World.ownsRow.alloc h o

theorem wpList_append_byte (hgd : Region.wanted o (yielded ops a.tmps) = true) (s x : Operand) (t e : TypeId) (ho : o.op = .call { callee := .builtin .append, args := #[s, x], argTypes := #[t, t] })
    (ht : P.underlying t = some (.slice e)) (hi : (P.info? e).map (fun i => (i.zero, i.size, i.bytes)) = some (some (.int .u8 0), 1, 1))
    (B : Nat) (v : Value) (l : List UInt8) (hs : a.eval s = v) (hown : OwnB w B e v l) (X : Int) (b : UInt8) (hX : X = (b.toNat : Int)) (hx : a.eval x = .slice (some ⟨w.heap.size, 0, none⟩) 1 1)
    (hB : B ≤ w.heap.size) (hlen : l.length + 1 ≤ 140737488355328)
    (h : Stop (∀ v' w', Hid (OwnB w' B e v' (l ++ [b])) → Hid (Below B w w') → wpList P ops Q rest (a.put o.dst v') w')) : wpList P ops Q (o :: rest) a (w.alloc (.cells #[.int .u8 X] e)) := by
  obtain ⟨i, h1, h2, h3, h4⟩ := info_parts hi
  subst hX
  refine wpList_wanted hgd fun _ hK => wp_append_own _ s x t ho B e i (.int .u8 0) 1 1 ht h1 h2 h3 h4 rfl (by omega) v l.length _ hs (hown.alloc _) ⟨w.heap.size, 0, none⟩ 1 1 [.int .u8 (b.toNat : Int)] hx rfl (cell_one_new _ _ _) ?_ (by unfold maxLen; omega) (by omega) (by simp; omega) ?_
  · intro u hu
    simp at hu
    subst hu
    rfl
  · intro v' w' ho' hg _
    refine hK _ _ (h v' w' ?_ ?_)
    · have e1 : (l ++ [b]).length = l.length + 1 := by simp
      unfold OwnB
      rw [e1, List.map_append]
      exact ho'
    · refine (((Below.refl B w).alloc (by omega) _)).grown hg (by simp; omega) ?_
      intro k hk
      exact (World.ownsRow.lt hown k hk).1

end

end Go.Proofs.YtkakihbfhmiabaaGreat

/-
  Numbers as bytes, the least part ahead. Plain; no program is named here.
-/
namespace Go.Proofs.YtkakihbfhmiabaaGreat
open Go.RowKit

def leVal : List UInt8 → Nat
  | [] => 0
  | b :: l => b.toNat + 256 * leVal l
theorem leVal_lt (l : List UInt8) : leVal l < 2 ^ (8 * l.length) := by
  induction l with
  | nil => simp [leVal]
  | cons b l ih =>
    have hb := b.toNat_lt
    have e : 2 ^ (8 * (l.length + 1)) = 256 * 2 ^ (8 * l.length) := by rw [Nat.mul_add, Nat.pow_add]; omega
    simp only [leVal, List.length_cons]; rw [e]; omega
theorem leVal_snoc (l : List UInt8) (b : UInt8) : leVal (l ++ [b]) = leVal l + b.toNat * 2 ^ (8 * l.length) := by
  induction l with
  | nil => simp [leVal]
  | cons c l ih =>
    have e : 2 ^ (8 * (l.length + 1)) = 256 * 2 ^ (8 * l.length) := by rw [Nat.mul_add, Nat.pow_add]; omega
    simp only [List.cons_append, leVal, ih, List.length_cons]; rw [e, Nat.mul_add, Nat.mul_left_comm]; omega
/-- The lowest n bytes of v, the least part ahead. -/
def leBytes : Nat → Nat → List UInt8
  | 0, _ => []
  | n + 1, v => UInt8.ofNat v :: leBytes n (v / 256)
theorem leBytes_len (n v : Nat) : (leBytes n v).length = n := by induction n generalizing v <;> simp [leBytes, *]
theorem leBytes_succ (n v : Nat) : leBytes (n + 1) v = leBytes n v ++ [UInt8.ofNat (v / 2 ^ (8 * n))] := by
  induction n generalizing v with
  | zero => simp [leBytes]
  | succ n ih =>
    rw [leBytes, ih, leBytes, List.cons_append, Nat.div_div_eq_div_mul]
    congr 4
    rw [Nat.mul_add, Nat.pow_add, Nat.mul_comm]
theorem leVal_leBytes (n v : Nat) (h : v < 2 ^ (8 * n)) : leVal (leBytes n v) = v := by
  induction n generalizing v with
  | zero => simp at h; simp [leBytes, leVal, h]
  | succ n ih =>
    have e : 2 ^ (8 * (n + 1)) = 256 * 2 ^ (8 * n) := by rw [Nat.mul_add, Nat.pow_add]; omega
    rw [leBytes, leVal, ih _ (by omega)]
    simp
    omega
theorem leVal_lt8 (l : List UInt8) (h : l.length ≤ 8) : leVal l < 18446744073709551616 := Nat.lt_of_lt_of_le (leVal_lt l) (Nat.pow_le_pow_right (by omega) (show 8 * l.length ≤ 64 by omega))

end Go.Proofs.YtkakihbfhmiabaaGreat

namespace Go.Proofs.YtkakihbfhmiabaaGreat
open Go.RowKit

def isPlaceB (x : Int) : Bool := decide (0 ≤ x ∧ x < 256)
set_option maxHeartbeats 400000 in
theorem isPlace_any (x : Int) (w : World) :
    Calls Tryz.prog 114 #[.int .i64 x] w fun e w' => e = .returned (.bool (isPlaceB x)) ∧ w = w' := by
  by_cases h : 0 ≤ x
  · go_enter Tryz.func114, Tryz.ntmps114
    go_wp2
    go_ret
    simp [h, isPlaceB]
  · go_enter Tryz.func114, Tryz.ntmps114
    go_wp2
    go_ret
    simp [isPlaceB]; omega

def fitsB (l a wd m : Int) : Bool := decide (1 ≤ wd ∧ wd ≤ m ∧ 0 ≤ a ∧ a ≤ l - wd)
set_option maxHeartbeats 400000 in
theorem fits_any (l a wd m : Int) (hl : 0 ≤ l) (hl2 : l ≤ 9223372036854775807) (hm : m ≤ 8) (w : World) :
    Calls Tryz.prog 92 #[.int .i64 l, .int .i64 a, .int .i64 wd, .int .i64 m] w fun e w' => e = .returned (.bool (fitsB l a wd m)) ∧ w = w' := by
  by_cases h1 : 1 ≤ wd
  · by_cases h2 : wd ≤ m
    · by_cases h3 : 0 ≤ a
      · go_enter Tryz.func92, Tryz.ntmps92
        go_wp2
        go_ret
        simp [h1, h2, h3, fitsB]
      · go_enter Tryz.func92, Tryz.ntmps92
        go_wp2
        go_ret
        simp [fitsB]; omega
    · go_enter Tryz.func92, Tryz.ntmps92
      go_wp2
      go_ret
      simp [fitsB]; omega
  · go_enter Tryz.func92, Tryz.ntmps92
    go_wp2
    go_ret
    simp [fitsB]; omega

theorem leVal_or (l : List UInt8) (b : UInt8) (hl : l.length < 8) :
    bits .or .u64 (leVal l : Nat) (IntKind.u64.wrap ((b.toNat : Int) * 2 ^ (8 * l.length))) = ((leVal (l ++ [b]) : Nat) : Int) := by
  have hb := b.toNat_lt
  have h1 := leVal_lt l
  have h2 := leVal_lt (l ++ [b])
  have hs := leVal_snoc l b
  have hp : 2 ^ (8 * (l ++ [b]).length) ≤ 2 ^ 64 := Nat.pow_le_pow_right (by omega) (by simp; omega)
  have e2 : (b.toNat : Int) * 2 ^ (8 * l.length) = ((b.toNat * 2 ^ (8 * l.length) : Nat) : Int) := by push_cast; rfl
  have e3 : IntKind.u64.wrap ((b.toNat * 2 ^ (8 * l.length) : Nat) : Int) = ((b.toNat * 2 ^ (8 * l.length) : Nat) : Int) := IntWalk.u64_in _ (by omega)
  rw [e2, e3, bits_or_u64_nat _ _ (by omega) (by omega), hs]
  congr 1
  rw [Nat.or_comm, Nat.mul_comm, ← Nat.two_pow_add_eq_or_of_lt h1, Nat.add_comm]

set_option maxHeartbeats 400000 in
theorem nread_any (A : Option Addr) (n cap : Nat) (l : List UInt8) (hn : l.length = n) (hl : n ≤ 8) (w : World) (hr : RB w A l) :
    Calls Tryz.prog 93 #[.slice A n cap] w fun e w' => e = .returned (.int .u64 (leVal l : Nat)) ∧ w = w' := by
  have Hn := Lib.hid hn
  clear hn
  go_enter Tryz.func93, Tryz.ntmps93
  go_wp2
  go_loop [3, 7] (fun v i => ∃ k : Nat, k ≤ n ∧ i = .int .i64 k ∧ v = .int .u64 (leVal (l.take k) : Nat)) (fun _ i => n - (intOf i).toNat)
  case atStart => exact ⟨0, Nat.zero_le _, rfl, rfl⟩
  case round =>
    obtain ⟨k, hk, rfl, rfl⟩ := hrel
    by_cases hlt : k < n
    · obtain ⟨ad, rfl, hc⟩ := hr k (by rw [Hn.out]; omega)
      have hb := (l[k]'(by rw [Hn.out]; omega)).toNat_lt
      go_wp2
      have hkl : k < l.length := by rw [Hn.out]; exact hlt
      have e := leVal_or (l.take k) l[k] (by simp; omega)
      have ek : (l.take k).length = k := by simp; omega
      rw [ek, ← List.take_succ_eq_append_getElem hkl] at e
      exact ⟨⟨k + 1, by omega, by go_num, by rw [e]⟩, by simp [intOf]; omega⟩
    · go_wp2
      go_ret
      have ek : l.take k = l := List.take_of_length_le (by rw [Hn.out]; omega)
      rw [ek]
      exact ⟨rfl, rfl⟩

theorem leBytes_byte (v k : Nat) : Value.int .u8 ((v : Int) / 2 ^ (8 * k) % 256) = .int .u8 ((UInt8.ofNat (v / 2 ^ (8 * k))).toNat : Int) := by
  congr 1

set_option maxHeartbeats 400000 in
theorem nwrite_any (g o n cap : Nat) (v : Nat) (_hv : v < 18446744073709551616) (L : List UInt8) (ho : o + n ≤ L.length) (hl : n ≤ 8) (t : TypeId) (w : World) (hg : Blk w g t (bcells L)) :
    Calls Tryz.prog 113 #[.slice (some ⟨g, o, none⟩) n cap, .int .u64 v] w fun e w' => e = .returned (.tuple #[]) ∧ Only w w' g ∧ Blk w' g t (bcells (splice L o (leBytes n v))) := by
  go_enter Tryz.func113, Tryz.ntmps113
  go_wp2
  go_loopw [7] (fun i wr => ∃ k : Nat, k ≤ n ∧ i = .int .i64 k ∧ Only w wr g ∧ Blk wr g t (bcells (splice L o (leBytes k v)))) (fun i _ => n - (intOf i).toNat)
  case atStart => exact ⟨0, Nat.zero_le _, rfl, Only.refl _ _, by simpa [splice, leBytes] using hg⟩
  case round =>
    obtain ⟨k, hk, rfl, hon, hbk⟩ := hrel
    by_cases hlt : k < n
    · have hs := splice_len L o (leBytes k v) (by rw [leBytes_len]; omega)
      obtain ⟨x, _, hc⟩ := hbk.byte (o + k) (by rw [hs]; omega)
      have hf := hbk.frozen (o + k)
      have Hon := Lib.hid hon
      have Hbk := Lib.hid hbk
      clear hon hbk hs
      go_wp2
      have h3 := Hbk.out.set_ (o + k) (Value.int IntKind.u8 ((v : Int) / 2 ^ (8 * k) % 256))
      rw [leBytes_byte, bcells_set] at h3
      have h4 := splice_set L o (leBytes k v) (UInt8.ofNat (v / 2 ^ (8 * k))) (by rw [leBytes_len]; omega)
      rw [leBytes_len, ← leBytes_succ] at h4
      rw [h4] at h3
      exact ⟨⟨k + 1, by omega, by go_num, Hon.out.setCell _ _, by rw [leBytes_byte]; exact h3⟩, by simp [intOf]; omega⟩
    · obtain rfl : k = n := by omega
      go_wp2
      go_end0
      exact ⟨rfl, hon, hbk⟩

end Go.Proofs.YtkakihbfhmiabaaGreat

/-
  Facts on bytes and blocks as this program has them; results that are bytes, or a block.
-/
namespace Go.Proofs.YtkakihbfhmiabaaGreat
open Go.RowKit

theorem Tryz.byteInfo : (Tryz.prog.info? 5).map (fun i => (i.zero, i.size, i.bytes)) = some (some (.int .u8 0), 1, 1) := by kernel_rfl
theorem Tryz.intInfo : (Tryz.prog.info? 3).map (fun i => (i.zero, i.size, i.bytes)) = some (some (.int .i64 0), 1, 8) := by kernel_rfl
theorem Tryz.byteSize : (Tryz.prog.info? 5).map (·.size) = some 1 := by kernel_rfl
theorem Tryz.blockSize : (Tryz.prog.info? 82).map (·.size) = some 256 := by kernel_rfl
theorem Tryz.blockZero : (Tryz.prog.info? 82).map (·.zero) = some (some (.agg (bcells (zeros 256)))) := by kernel_rfl
theorem Tryz.blockInfo : (Tryz.prog.info? 82).map (fun i => (i.zero, i.size, i.bytes)) = some (some (.agg (bcells (zeros 256))), 256, 256) := by kernel_rfl
theorem Tryz.blockFits {l : List UInt8} (h : l.length = 256) : (Tryz.prog.info? 82).map (·.size) = some (bcells l).size := by rw [bcells_size, h]; exact Tryz.blockSize
theorem Tryz.arr256Size : (Tryz.prog.info? 81).map (·.size) = some 256 := by kernel_rfl
theorem Tryz.arr256Fits {l : List UInt8} (h : l.length = 256) : (Tryz.prog.info? 81).map (·.size) = some (bcells l).size := by rw [bcells_size, h]; exact Tryz.arr256Size
theorem Tryz.patchZero : (Tryz.prog.info? 133).map (·.zero) = some (some (.agg #[.int .i64 0, .slice none 0 0])) := by kernel_rfl
theorem Tryz.patchSize : (Tryz.prog.info? 133).map (·.size) = some 2 := by kernel_rfl
theorem Tryz.patchInfo : (Tryz.prog.info? 133).map (fun i => (i.zero, i.size, i.bytes)) = some (some (.agg #[.int .i64 0, .slice none 0 0]), 2, 32) := by kernel_rfl

/-- A result that is a slice of bytes. -/
def RetB (w : World) (l : List UInt8) (e : Ending) (w' : World) : Prop := ∃ A n c, e = .returned (.slice A n c) ∧ l.length = n ∧ n ≤ c ∧ c ≤ maxLen ∧ RB w' A l ∧ Below w.heap.size w w'
/-- .. and whether there is one. -/
def RetBB (w : World) (l : List UInt8) (b : Bool) (e : Ending) (w' : World) : Prop := ∃ A n c, e = .returned (.tuple #[.slice A n c, .bool b]) ∧ l.length = n ∧ n ≤ c ∧ c ≤ maxLen ∧ RB w' A l ∧ Below w.heap.size w w'
/-- A result that is a slice of bytes, beside a number. -/
def RetBE (w : World) (l : List UInt8) (v : Int) (e : Ending) (w' : World) : Prop := ∃ A n c, e = .returned (.tuple #[.slice A n c, .int .i64 v]) ∧ l.length = n ∧ n ≤ c ∧ c ≤ maxLen ∧ RB w' A l ∧ Below w.heap.size w w'
/-- A result that is a block. -/
def RetA (w : World) (l : List UInt8) (e : Ending) (w' : World) : Prop := e = .returned (.agg (bcells l)) ∧ Below w.heap.size w w'

end Go.Proofs.YtkakihbfhmiabaaGreat

namespace Go.Proofs.YtkakihbfhmiabaaGreat
open Go.RowKit

/-- The number that wd bytes from a on are, 0 if they are not there. -/
def getN (l : List UInt8) (a wd m : Int) : Nat := if fitsB l.length a wd m then leVal ((l.drop a.toNat).take wd.toNat) else 0
/-- A list with other bytes from a place on. -/
def layL (L : List UInt8) (a : Int) (l : List UInt8) : List UInt8 := if isPlaceB a then splice L a.toNat (l.take (256 - a.toNat)) else L
theorem layL_len (L : List UInt8) (a : Int) (l : List UInt8) (h : L.length = 256) : (layL L a l).length = 256 := by
  unfold layL
  split
  · rename_i hp
    simp only [isPlaceB, decide_eq_true_eq] at hp
    rw [splice_len _ _ _ (by simp; omega), h]
  · exact h
/-- The bytes with a number there. -/
def putL (l : List UInt8) (a wd : Int) (v : Nat) : List UInt8 := if fitsB l.length a wd 8 then splice l a.toNat (leBytes wd.toNat v) else []
/-- A block with a number there. -/
def nwithL (l : List UInt8) (a wd : Int) (v : Nat) : List UInt8 := if fitsB l.length a wd 4 then splice l a.toNat (leBytes wd.toNat v) else l
theorem nwithL_len (l : List UInt8) (a wd : Int) (v : Nat) : (nwithL l a wd v).length = l.length := by
  unfold nwithL
  split
  · rename_i hp
    simp only [fitsB, decide_eq_true_eq] at hp
    rw [splice_len _ _ _ (by rw [leBytes_len]; omega)]
  · rfl
/-- The bytes that are cut out. -/
def ncutL (l : List UInt8) (a n : Int) : List UInt8 := if isPlaceB a && decide (1 ≤ n) then (l.drop a.toNat).take n.toNat else []

set_option maxHeartbeats 400000 in
theorem nget_any (A : Option Addr) (n cap : Nat) (l : List UInt8) (hn : l.length = n) (hc : n ≤ cap) (hm : cap ≤ maxLen) (a wd : Int) (w : World) (hr : RB w A l) :
    Calls Tryz.prog 59 #[.slice A n cap, .int .i64 a, .int .i64 wd] w fun e w' => e = .returned (.tuple #[.int .u64 (getN l a wd 8 : Nat), .bool (fitsB n a wd 8)]) ∧ w = w' := by
  unfold maxLen at hm
  have Hn := Lib.hid hn
  by_cases hf : fitsB n a wd 8 = true
  · have Hg := Lib.hid (show getN l a wd 8 = leVal ((l.drop a.toNat).take wd.toNat) by unfold getN; rw [hn, hf]; rfl)
    have h := hf
    simp only [fitsB, decide_eq_true_eq] at h
    obtain ⟨h1, h2, h3, h4⟩ := h
    obtain ⟨p, rfl⟩ := Int.eq_ofNat_of_zero_le h3
    obtain ⟨q, rfl⟩ := Int.eq_ofNat_of_zero_le (show 0 ≤ wd by omega)
    clear hn
    go_enter Tryz.func59, Tryz.ntmps59
    go_wp2_with fail
    refine (fits_any _ _ _ _ (by omega) (by omega) (by omega) _).mono ?_; rintro e w' ⟨rfl, rfl⟩
    go_wp2_with fail
    refine (nread_any _ _ _ ((l.drop p).take q) (by rw [List.length_take, List.length_drop, Hn.out]; omega) (by omega) _ (hr.cut p q)).mono ?_; rintro e w' ⟨rfl, rfl⟩
    go_wp2_with fail
    go_ret2
    exact ⟨by rw [Hg.out, hf]; rfl, rfl⟩
  · have hf' : fitsB n a wd 8 = false := by simpa using hf
    have Hg := Lib.hid (show getN l a wd 8 = 0 by unfold getN; rw [hn, hf']; rfl)
    clear hn hf
    go_enter Tryz.func59, Tryz.ntmps59
    go_wp2_with fail
    refine (fits_any _ _ _ _ (by omega) (by omega) (by omega) _).mono ?_; rintro e w' ⟨rfl, rfl⟩
    go_wp2_with fail
    go_ret2
    exact ⟨by rw [Hg.out, hf']; rfl, rfl⟩

set_option maxHeartbeats 400000 in
theorem nput_any (A : Option Addr) (n cap : Nat) (l : List UInt8) (hn : l.length = n) (hc : n ≤ 281474976710656) (a wd : Int) (v : Nat) (hv : v < 18446744073709551616) (w : World) (hr : RB w A l) :
    Calls Tryz.prog 78 #[.slice A n cap, .int .i64 a, .int .i64 wd, .int .u64 v] w (RetBB w (putL l a wd v) (fitsB n a wd 8)) := by
  have Hn := Lib.hid hn
  by_cases hf : fitsB n a wd 8 = true
  · have Hg := Lib.hid (show putL l a wd v = splice l a.toNat (leBytes wd.toNat v) by unfold putL; rw [hn, hf]; rfl)
    have h := hf
    simp only [fitsB, decide_eq_true_eq] at h
    obtain ⟨h1, h2, h3, h4⟩ := h
    obtain ⟨p, rfl⟩ := Int.eq_ofNat_of_zero_le h3
    obtain ⟨q, rfl⟩ := Int.eq_ofNat_of_zero_le (show 0 ≤ wd by omega)
    clear hn
    go_enter Tryz.func78, Tryz.ntmps78
    go_wp2_with fail
    refine (fits_any _ _ _ _ (by omega) (by omega) (by omega) _).mono ?_; rintro e w' ⟨rfl, rfl⟩
    go_wp2_with (refine wpList_make_bytes rfl _ _ _ _ rfl Tryz.underlying26 Tryz.byteInfo _ _ _ _ n rfl rfl rfl rfl (by omega) ?_)
    apply Stop.go; intro w1 Hg1 Hb1
    go_wp2_with (refine wpList_copy_bytes rfl _ _ _ _ rfl _ Tryz.underlying26 Tryz.byteSize _ _ _ _ _ _ rfl Hb1.out (by simp [zeros_len]) _ _ _ l rfl Hn.out (hr.below Hg1.out.1) ?_)
    apply Stop.go; intro w2 Ho2 Hb2
    go_wp2_with fail
    refine (nwrite_any _ p q _ v hv _ (by rw [splice_all _ _ (by simp [Hn.out, zeros_len])]; simp [Hn.out]; omega) (by omega) _ _ Hb2.out).mono ?_; rintro e w' ⟨rfl, ho3, hb3⟩
    have Ho3 := Lib.hid ho3
    have Hb3 := Lib.hid hb3
    clear ho3 hb3
    go_wp2_with fail
    go_ret2
    rw [Hg.out, hf]
    have e1 : splice (zeros n) 0 (List.take n l) = l := by
      rw [splice_all _ _ (by simp [Hn.out, zeros_len]), List.take_of_length_le (by rw [Hn.out]; omega)]
    have hb := Hb3.out
    rw [e1] at hb
    have hl : (splice l p (leBytes q v)).length = n := by rw [splice_len _ _ _ (by rw [leBytes_len, Hn.out]; omega), Hn.out]
    exact ⟨_, n, n, rfl, hl, by omega, by unfold maxLen; omega, RB.of_blk0 hb, (Hg1.out.1.trans (Ho2.out.below (Nat.le_refl _))).trans (Ho3.out.below (Nat.le_refl _))⟩
  · have hf' : fitsB n a wd 8 = false := by simpa using hf
    have Hg := Lib.hid (show putL l a wd v = [] by unfold putL; rw [hn, hf']; rfl)
    clear hn hf
    go_enter Tryz.func78, Tryz.ntmps78
    go_wp2_with fail
    refine (fits_any _ _ _ _ (by omega) (by omega) (by omega) _).mono ?_; rintro e w' ⟨rfl, rfl⟩
    go_wp2_with fail
    go_ret2
    rw [Hg.out, hf']
    exact ⟨none, 0, 0, rfl, rfl, by omega, by unfold maxLen; omega, RB.nil_ _ _, Below.refl _ _⟩

set_option maxHeartbeats 400000 in
theorem nlay_any (L : List UInt8) (hL : L.length = 256) (a : Int) (A : Option Addr) (n cap : Nat) (l : List UInt8) (hn : l.length = n) (w : World) (hr : RB w A l) :
    Calls Tryz.prog 79 #[.agg (bcells L), .int .i64 a, .slice A n cap] w (RetA w (layL L a l)) := by
  have Hn := Lib.hid hn
  have HL := Lib.hid hL
  clear hn hL
  by_cases hf : isPlaceB a = true
  · have h := hf
    simp only [isPlaceB, decide_eq_true_eq] at h
    obtain ⟨h1, h2⟩ := h
    obtain ⟨p, rfl⟩ := Int.eq_ofNat_of_zero_le h1
    go_enter Tryz.func79, Tryz.ntmps79
    go_wp2_with (refine wpList_box_row rfl _ _ rfl _ rfl ?_)
    apply Stop.go; intro w1 Hg1 Hb1
    go_wp2_with (refine wpList_alloc_row rfl _ rfl _ Tryz.blockZero ?_)
    apply Stop.go; intro w2 Hg2 Hb2
    have z1 := Lib.hid Hg1.out.2
    have z2 := Lib.hid Hg2.out.2
    go_wp2_with fail
    refine (isPlace_any _ _).mono ?_; rintro e w' ⟨rfl, rfl⟩
    go_wp2_with (first | refine wpList_slice_arr_l rfl _ _ _ rfl _ _ Tryz.underlying82 Tryz.byteSize _ rfl _ _ rfl p rfl (by omega) ?_ | refine wpList_copy_bytes rfl _ _ _ _ rfl _ Tryz.underlying26 Tryz.byteSize _ _ _ _ _ _ rfl (Hb1.out.below Hg2.out.1 (by rw [z1.out]; omega)) (by rw [HL.out]; omega) _ _ _ l rfl Hn.out ((hr.below Hg1.out.1).below Hg2.out.1) ?_)
    apply Stop.go; intro w3 Ho3 Hb3
    have HL3 : Hid ((splice L p (l.take (256 - p))).length = 256) := Lib.hid (by rw [splice_len _ _ _ (by rw [HL.out, List.length_take]; omega), HL.out])
    go_wp2_with (first | refine wpList_load_arr rfl _ _ rfl _ rfl _ _ Hb3.out _ _ Tryz.underlying82 (Tryz.blockFits HL3.out) ?_ | refine wpList_store_arr rfl _ _ _ rfl _ _ rfl rfl _ _ (Hb2.out.only Ho3.out (by rw [z1.out]; omega)) (Tryz.blockFits HL3.out) (by rw [bcells_size, bcells_size, HL3.out, zeros_len]) (oneCell_bcells _) ?_)
    apply Stop.go; intro w4 Ho4 Hb4
    go_wp2_with ((with_reducible show bodyPost _ _ _ _ _ _); refine bodyPost_cell rfl _ rfl _ _ Hb4.out _ _ Tryz.underlying82 (Tryz.blockFits HL3.out) rfl ?_)
    apply Stop.go
    unfold layL
    rw [if_pos hf]
    have z1 := z1.out
    have z2 := z2.out
    exact ⟨rfl, ((Hg1.out.1.trans (Hg2.out.1.mono (by omega))).trans (Ho3.out.below (by omega))).trans (Ho4.out.below (by omega))⟩
  · have hf' : isPlaceB a = false := by simpa using hf
    go_enter Tryz.func79, Tryz.ntmps79
    go_wp2_with (refine wpList_box_row rfl _ _ rfl _ rfl ?_)
    apply Stop.go; intro w1 Hg1 Hb1
    go_wp2_with (refine wpList_alloc_row rfl _ rfl _ Tryz.blockZero ?_)
    apply Stop.go; intro w2 Hg2 Hb2
    have z1 := Lib.hid Hg1.out.2
    have z2 := Lib.hid Hg2.out.2
    go_wp2_with fail
    refine (isPlace_any _ _).mono ?_; rintro e w' ⟨rfl, rfl⟩
    go_wp2_with (first | refine wpList_load_arr rfl _ _ rfl _ rfl _ _ (Hb1.out.below Hg2.out.1 (by rw [z1.out]; omega)) _ _ Tryz.underlying82 (Tryz.blockFits HL.out) ?_ | refine wpList_store_arr rfl _ _ _ rfl _ _ rfl rfl _ _ Hb2.out (Tryz.blockFits HL.out) (by rw [bcells_size, bcells_size, HL.out, zeros_len]) (oneCell_bcells _) ?_)
    apply Stop.go; intro w4 Ho4 Hb4
    go_wp2_with ((with_reducible show bodyPost _ _ _ _ _ _); refine bodyPost_cell rfl _ rfl _ _ Hb4.out _ _ Tryz.underlying82 (Tryz.blockFits HL.out) rfl ?_)
    apply Stop.go
    unfold layL
    rw [if_neg hf]
    have z1 := z1.out
    have z2 := z2.out
    exact ⟨rfl, (Hg1.out.1.trans (Hg2.out.1.mono (by omega))).trans (Ho4.out.below (by omega))⟩

theorem i64_u64 (v : Nat) (h : v < 4294967296) : IntKind.i64.wrap (v : Int) = v := IntWalk.i64_in _ (by omega)
set_option maxHeartbeats 400000 in
theorem nat_any (L : List UInt8) (hL : L.length = 256) (a wd : Int) (w : World) :
    Calls Tryz.prog 60 #[.agg (bcells L), .int .i64 a, .int .i64 wd] w fun e w' => e = .returned (.int .i64 (getN L a wd 4 : Nat)) ∧ Below w.heap.size w w' := by
  have HL := Lib.hid hL
  by_cases hf : fitsB 256 a wd 4 = true
  · have Hg := Lib.hid (show getN L a wd 4 = leVal ((L.drop a.toNat).take wd.toNat) by unfold getN; rw [hL]; exact if_pos hf)
    have h := hf
    simp only [fitsB, decide_eq_true_eq] at h
    obtain ⟨h1, h2, h3, h4⟩ := h
    obtain ⟨p, rfl⟩ := Int.eq_ofNat_of_zero_le h3
    obtain ⟨q, rfl⟩ := Int.eq_ofNat_of_zero_le (show 0 ≤ wd by omega)
    have hlt : leVal ((L.drop p).take q) < 4294967296 := by
      refine Nat.lt_of_lt_of_le (leVal_lt _) ?_
      have : 8 * ((L.drop p).take q).length ≤ 32 := by simp; omega
      exact Nat.pow_le_pow_right (by omega) this
    clear hL
    go_enter Tryz.func60, Tryz.ntmps60
    go_wp2_with (refine wpList_box_row rfl _ _ rfl _ rfl ?_)
    apply Stop.go; intro w1 Hg1 Hb1
    go_wp2_with fail
    refine (fits_any _ _ _ _ (by omega) (by omega) (by omega) _).mono ?_; rintro e w' ⟨rfl, rfl⟩
    go_wp2_with (refine wpList_slice_arr_lh rfl _ _ _ _ rfl _ _ Tryz.underlying82 Tryz.byteSize _ rfl _ _ _ _ rfl rfl p (p + q) rfl (by omega) (by omega) (by omega) (by omega) ?_)
    refine (nread_any _ _ _ ((L.drop p).take q) (by rw [List.length_take, List.length_drop, HL.out]; omega) (by omega) _ (RB.of_blk_at Hb1.out p q)).mono ?_; rintro e w' ⟨rfl, rfl⟩
    go_wp2_with fail
    go_ret
    exact ⟨by rw [Hg.out]; rfl, Hg1.out.1⟩
  · have hf' : fitsB 256 a wd 4 = false := by simpa using hf
    have Hg := Lib.hid (show getN L a wd 4 = 0 by unfold getN; rw [hL]; exact if_neg hf)
    clear hL hf
    go_enter Tryz.func60, Tryz.ntmps60
    go_wp2_with (refine wpList_box_row rfl _ _ rfl _ rfl ?_)
    apply Stop.go; intro w1 Hg1 Hb1
    go_wp2_with fail
    refine (fits_any _ _ _ _ (by omega) (by omega) (by omega) _).mono ?_; rintro e w' ⟨rfl, rfl⟩
    go_wp2_with fail
    go_ret
    exact ⟨by rw [Hg.out]; rfl, Hg1.out.1⟩

set_option maxHeartbeats 400000 in
theorem nwith_any (L : List UInt8) (hL : L.length = 256) (a wd : Int) (v : Int) (V : Nat) (hv : IntKind.u64.wrap v = V) (hV : V < 18446744073709551616) (w : World) :
    Calls Tryz.prog 77 #[.agg (bcells L), .int .i64 a, .int .i64 wd, .int .i64 v] w (RetA w (nwithL L a wd V)) := by
  have HL := Lib.hid hL
  have HV := Lib.hid hv
  clear hv
  by_cases hf : fitsB 256 a wd 4 = true
  · have Hg := Lib.hid (show nwithL L a wd V = splice L a.toNat (leBytes wd.toNat V) by unfold nwithL; rw [hL]; exact if_pos hf)
    have h := hf
    simp only [fitsB, decide_eq_true_eq] at h
    obtain ⟨h1, h2, h3, h4⟩ := h
    obtain ⟨p, rfl⟩ := Int.eq_ofNat_of_zero_le h3
    obtain ⟨q, rfl⟩ := Int.eq_ofNat_of_zero_le (show 0 ≤ wd by omega)
    have HL3 : Hid ((splice L p (leBytes q V)).length = 256) := Lib.hid (by rw [splice_len _ _ _ (by rw [leBytes_len]; omega), hL])
    clear hL
    go_enter Tryz.func77, Tryz.ntmps77
    go_wp2_with (refine wpList_box_row rfl _ _ rfl _ rfl ?_)
    apply Stop.go; intro w1 Hg1 Hb1
    go_wp2_with (refine wpList_alloc_row rfl _ rfl _ Tryz.blockZero ?_)
    apply Stop.go; intro w2 Hg2 Hb2
    have z1 := Lib.hid Hg1.out.2
    have z2 := Lib.hid Hg2.out.2
    go_wp2_with fail
    refine (fits_any _ _ _ _ (by omega) (by omega) (by omega) _).mono ?_; rintro e w' ⟨rfl, rfl⟩
    go_wp2_with (refine wpList_slice_arr_lh rfl _ _ _ _ rfl _ _ Tryz.underlying82 Tryz.byteSize _ rfl _ _ _ _ rfl rfl p (p + q) rfl (by omega) (by omega) (by omega) (by omega) ?_)
    rw [HV.out]
    refine (nwrite_any _ p q _ V hV _ (by rw [HL.out]; omega) (by omega) _ _ (Hb1.out.below Hg2.out.1 (by rw [z1.out]; omega))).mono ?_; rintro e w' ⟨rfl, ho3, hb3⟩
    have Ho3 := Lib.hid ho3
    have Hb3 := Lib.hid hb3
    clear ho3 hb3
    go_wp2_with (first | refine wpList_load_arr rfl _ _ rfl _ rfl _ _ Hb3.out _ _ Tryz.underlying82 (Tryz.blockFits HL3.out) ?_ | refine wpList_store_arr rfl _ _ _ rfl _ _ rfl rfl _ _ (Hb2.out.only Ho3.out (by rw [z1.out]; omega)) (Tryz.blockFits HL3.out) (by rw [bcells_size, bcells_size, HL3.out, zeros_len]) (oneCell_bcells _) ?_)
    apply Stop.go; intro w4 Ho4 Hb4
    go_wp2_with ((with_reducible show bodyPost _ _ _ _ _ _); refine bodyPost_cell rfl _ rfl _ _ Hb4.out _ _ Tryz.underlying82 (Tryz.blockFits HL3.out) rfl ?_)
    apply Stop.go
    rw [Hg.out]
    have z1 := z1.out
    have z2 := z2.out
    exact ⟨rfl, ((Hg1.out.1.trans (Hg2.out.1.mono (by omega))).trans (Ho3.out.below (by omega))).trans (Ho4.out.below (by omega))⟩
  · have hf' : fitsB 256 a wd 4 = false := by simpa using hf
    have Hg := Lib.hid (show nwithL L a wd V = L by unfold nwithL; rw [hL]; exact if_neg hf)
    clear hL hf
    go_enter Tryz.func77, Tryz.ntmps77
    go_wp2_with (refine wpList_box_row rfl _ _ rfl _ rfl ?_)
    apply Stop.go; intro w1 Hg1 Hb1
    go_wp2_with (refine wpList_alloc_row rfl _ rfl _ Tryz.blockZero ?_)
    apply Stop.go; intro w2 Hg2 Hb2
    have z1 := Lib.hid Hg1.out.2
    have z2 := Lib.hid Hg2.out.2
    go_wp2_with fail
    refine (fits_any _ _ _ _ (by omega) (by omega) (by omega) _).mono ?_; rintro e w' ⟨rfl, rfl⟩
    go_wp2_with (first | refine wpList_load_arr rfl _ _ rfl _ rfl _ _ (Hb1.out.below Hg2.out.1 (by rw [z1.out]; omega)) _ _ Tryz.underlying82 (Tryz.blockFits HL.out) ?_ | refine wpList_store_arr rfl _ _ _ rfl _ _ rfl rfl _ _ Hb2.out (Tryz.blockFits HL.out) (by rw [bcells_size, bcells_size, HL.out, zeros_len]) (oneCell_bcells _) ?_)
    apply Stop.go; intro w4 Ho4 Hb4
    go_wp2_with ((with_reducible show bodyPost _ _ _ _ _ _); refine bodyPost_cell rfl _ rfl _ _ Hb4.out _ _ Tryz.underlying82 (Tryz.blockFits HL.out) rfl ?_)
    apply Stop.go
    rw [Hg.out]
    have z1 := z1.out
    have z2 := z2.out
    exact ⟨rfl, (Hg1.out.1.trans (Hg2.out.1.mono (by omega))).trans (Ho4.out.below (by omega))⟩

set_option maxHeartbeats 400000 in
theorem nof_any (A : Option Addr) (n cap : Nat) (l : List UInt8) (hn : l.length = n) (w : World) (hr : RB w A l) :
    Calls Tryz.prog 76 #[.slice A n cap] w (RetA w (layL (zeros 256) 0 l)) := by
  have Hn := Lib.hid hn
  clear hn
  go_enter Tryz.func76, Tryz.ntmps76
  go_wp2_with (refine wpList_alloc_row rfl _ rfl _ Tryz.blockZero ?_)
  apply Stop.go; intro w1 Hg1 Hb1
  go_wp2_with (refine wpList_build_zero rfl _ rfl _ Tryz.blockZero _ _ Tryz.underlying82 Tryz.byteSize ?_)
  refine (nlay_any _ (zeros_len 256) _ _ _ _ l Hn.out _ (hr.below Hg1.out.1)).mono ?_; rintro e w' ⟨rfl, hb2⟩
  have Hb2 := Lib.hid hb2
  clear hb2
  have HL3 : Hid ((layL (zeros 256) 0 l).length = 256) := Lib.hid (layL_len _ _ _ (zeros_len _))
  go_wp2_with (refine wpList_store_arr rfl _ _ _ rfl _ _ rfl rfl _ _ (Hb1.out.below Hb2.out (by rw [Hg1.out.2]; omega)) (Tryz.blockFits HL3.out) (by rw [bcells_size, bcells_size, HL3.out, zeros_len]) (oneCell_bcells _) ?_)
  apply Stop.go; intro w4 Ho4 Hb4
  go_wp2_with ((with_reducible show bodyPost _ _ _ _ _ _); refine bodyPost_cell rfl _ rfl _ _ Hb4.out _ _ Tryz.underlying82 (Tryz.blockFits HL3.out) rfl ?_)
  apply Stop.go
  exact ⟨rfl, (Hg1.out.1.trans (Hb2.out.mono (by rw [Hg1.out.2]; omega))).trans (Ho4.out.below (by omega))⟩

set_option maxHeartbeats 400000 in
theorem ncut_any (L : List UInt8) (hL : L.length = 256) (a n : Int) (w : World) :
    Calls Tryz.prog 81 #[.agg (bcells L), .int .i64 a, .int .i64 n] w (RetB w (ncutL L a n)) := by
  have HL := Lib.hid hL
  by_cases hf : isPlaceB a = true
  · have h := hf
    simp only [isPlaceB, decide_eq_true_eq] at h
    obtain ⟨h1, h2⟩ := h
    obtain ⟨p, rfl⟩ := Int.eq_ofNat_of_zero_le h1
    by_cases hn : 1 ≤ n
    · obtain ⟨q, rfl⟩ := Int.eq_ofNat_of_zero_le (show 0 ≤ n by omega)
      have hq1 : decide ((q : Int) < 1) = false := by simp; omega
      have Hg := Lib.hid (show ncutL L p q = (L.drop p).take q by unfold ncutL; rw [hf]; simp; omega)
      have hlen : ((L.drop p).take q).length = min q (256 - p) := by rw [List.length_take, List.length_drop, hL]
      clear hL
      by_cases hm : 256 - (p : Int) < (q : Int)
      all_goals
        go_enter Tryz.func81, Tryz.ntmps81
        go_wp2_with (refine wpList_box_row rfl _ _ rfl _ rfl ?_)
        apply Stop.go; intro w1 Hg1 Hb1
        go_wp2_with fail
        refine (isPlace_any _ _).mono ?_; rintro e w' ⟨rfl, rfl⟩
        go_wp2_with (refine wpList_make_bytes rfl _ _ _ _ rfl Tryz.underlying26 Tryz.byteInfo _ _ _ _ (min q (256 - p)) rfl rfl ?_ ?_ (by omega) ?_)
        · omega
        · omega
        apply Stop.go; intro w2 Hg2 Hb2
        have z1 := Lib.hid Hg1.out.2
        have z2 := Lib.hid Hg2.out.2
        go_wp2_with (first | refine wpList_slice_arr_l rfl _ _ _ rfl _ _ Tryz.underlying82 Tryz.byteSize _ rfl _ _ rfl p rfl (by omega) ?_ | refine wpList_copy_bytes rfl _ _ _ _ rfl _ Tryz.underlying26 Tryz.byteSize _ _ _ _ _ _ rfl Hb2.out (by rw [zeros_len]; omega) _ _ _ ((L.drop p).take (256 - p)) rfl (by rw [List.length_take, List.length_drop, HL.out]; omega) (RB.of_blk_at (Hb1.out.below Hg2.out.1 (by rw [z1.out]; omega)) _ _) ?_)
        apply Stop.go; intro w3 Ho3 Hb3
        go_wp2_with fail
        go_ret
        have z1 := z1.out
        have z2 := z2.out
        have e1 : splice (zeros (min q (256 - p))) 0 (List.take (min q (256 - p)) (List.take (256 - p) (List.drop p L))) = (L.drop p).take q := by
          rw [splice_all _ _ (by simp [HL.out, zeros_len])]
          rw [List.take_take]
          apply List.ext_getElem?
          intro k
          rw [List.getElem?_take, List.getElem?_take]
          by_cases hk : k < q
          · by_cases hk2 : k < 256 - p
            · rw [if_pos (by omega), if_pos hk]
            · rw [if_neg (by omega), if_pos hk, List.getElem?_eq_none (by rw [List.length_drop, HL.out]; omega)]
          · rw [if_neg (by omega), if_neg hk]
        have hb := Hb3.out
        rw [e1] at hb
        rw [Hg.out]
        exact ⟨_, _, _, rfl, hlen, Nat.le_refl _, by unfold maxLen; omega, RB.of_blk0 hb, (Hg1.out.1.trans (Hg2.out.1.mono (by omega))).trans (Ho3.out.below (by omega))⟩
    · have hq1 : decide (n < 1) = true := by simp; omega
      have Hg := Lib.hid (show ncutL L p n = [] by unfold ncutL; rw [hf]; simp; omega)
      clear hL
      go_enter Tryz.func81, Tryz.ntmps81
      go_wp2_with (refine wpList_box_row rfl _ _ rfl _ rfl ?_)
      apply Stop.go; intro w1 Hg1 Hb1
      go_wp2_with fail
      refine (isPlace_any _ _).mono ?_; rintro e w' ⟨rfl, rfl⟩
      go_wp2_with fail
      go_ret
      rw [Hg.out]
      exact ⟨none, 0, 0, rfl, rfl, by omega, by unfold maxLen; omega, RB.nil_ _ _, Hg1.out.1⟩
  · have hf' : isPlaceB a = false := by simpa using hf
    have Hg := Lib.hid (show ncutL L a n = [] by unfold ncutL; rw [hf']; simp)
    clear hL
    go_enter Tryz.func81, Tryz.ntmps81
    go_wp2_with (refine wpList_box_row rfl _ _ rfl _ rfl ?_)
    apply Stop.go; intro w1 Hg1 Hb1
    go_wp2_with fail
    refine (isPlace_any _ _).mono ?_; rintro e w' ⟨rfl, rfl⟩
    go_wp2_with fail
    go_ret
    rw [Hg.out]
    exact ⟨none, 0, 0, rfl, rfl, by omega, by unfold maxLen; omega, RB.nil_ _ _, Hg1.out.1⟩

end Go.Proofs.YtkakihbfhmiabaaGreat

/-
  A block that is written from the front: what comes behind is noughts. Plain; no program is named here.
-/
namespace Go.Proofs.YtkakihbfhmiabaaGreat
open Go.RowKit

theorem zeros_drop (n k : Nat) : (zeros n).drop k = zeros (n - k) := by simp [zeros]
theorem splice_zeros (p d : List UInt8) (o k : Nat) (ho : p.length = o) : splice (p ++ zeros k) o d = p ++ (d ++ zeros (k - d.length)) := by
  subst ho
  unfold splice
  rw [List.take_left' rfl, ← List.drop_drop, List.drop_left' rfl, zeros_drop, List.append_assoc]
theorem layL_zeros (p d : List UInt8) (o k : Nat) (ho : p.length = o) (hk : o + k = 256) (hd : d.length ≤ k) (h0 : 0 < k) : layL (p ++ zeros k) (o : Nat) d = p ++ (d ++ zeros (k - d.length)) := by
  unfold layL
  rw [if_pos (by unfold isPlaceB; simp; omega), Int.toNat_natCast, List.take_of_length_le (by omega), splice_zeros p d o k ho]
theorem nwithL_zeros (p : List UInt8) (o k W v : Nat) (ho : p.length = o) (h1 : 1 ≤ W) (h4 : W ≤ 4) (hW : W ≤ k) : nwithL (p ++ zeros k) (o : Nat) (W : Nat) v = p ++ (leBytes W v ++ zeros (k - W)) := by
  unfold nwithL
  rw [if_pos (by unfold fitsB; simp [zeros_len]; omega), Int.toNat_natCast, Int.toNat_natCast, splice_zeros p _ o k ho, leBytes_len]

end Go.Proofs.YtkakihbfhmiabaaGreat

/-
  Contracts of the document's answer 01: Lay, Cut.
-/
namespace Go.Proofs.YtkakihbfhmiabaaGreat
open Go.RowKit

/-- A list with other bytes from a place on, as far as it goes. -/
def rlayL (L : List UInt8) (a : Int) (d : List UInt8) : List UInt8 := if decide (0 ≤ a) && decide (a ≤ L.length) then splice L a.toNat (d.take (L.length - a.toNat)) else L
theorem rlayL_len (L : List UInt8) (a : Int) (d : List UInt8) : (rlayL L a d).length = L.length := by
  unfold rlayL
  split
  · rename_i h
    simp at h
    exact splice_len _ _ _ (by simp; omega)
  · rfl
theorem rlayL_get (L : List UInt8) (a : Int) (d : List UInt8) (k : Nat) (hk : k < L.length) :
    (rlayL L a d)[k]? = if 0 ≤ a ∧ a ≤ k ∧ (k : Int) - a < d.length then d[((k : Int) - a).toNat]? else some L[k] := by
  unfold rlayL
  by_cases h : decide (0 ≤ a) && decide (a ≤ L.length)
  · rw [if_pos h]
    simp at h
    obtain ⟨p, rfl⟩ := Int.eq_ofNat_of_zero_le h.1
    have hp : p ≤ L.length := by omega
    rw [Int.toNat_natCast, splice_get _ _ _ (by simp; omega)]
    by_cases hc : p ≤ k ∧ k - p < d.length
    · rw [if_pos (by simp; omega), if_pos (by omega), List.getElem?_take_of_lt (by omega)]
      congr 1; omega
    · rw [if_neg (by simp; omega), if_neg (by omega), List.getElem?_eq_getElem hk]
  · rw [if_neg h]
    simp at h
    rw [if_neg (by omega), List.getElem?_eq_getElem hk]
theorem take_succ_get (l : List UInt8) (k : Nat) (x : UInt8) (h : l[k]? = some x) : l.take (k + 1) = l.take k ++ [x] := by
  obtain ⟨hk, rfl⟩ := List.getElem?_eq_some_iff.1 h
  rw [List.take_succ_eq_append_getElem hk]
/-- A result that is a slice of bytes: new memory, or this slice's own. -/
def RetBO (w : World) (B : Option Addr) (l : List UInt8) (e : Ending) (w' : World) : Prop := ∃ A n c, e = .returned (.slice A n c) ∧ l.length = n ∧ n ≤ c ∧ c ≤ maxLen ∧ RB w' A l ∧ Below w.heap.size w w' ∧ (A = B ∨ ∀ ad, A = some ad → w.heap.size ≤ ad.block)
theorem RetBO.b {w : World} {B : Option Addr} {l : List UInt8} {e : Ending} {w' : World} (h : RetBO w B l e w') : RetB w l e w' := by
  obtain ⟨A, n, c, h1, h2, h3, h4, h5, h6, _⟩ := h
  exact ⟨A, n, c, h1, h2, h3, h4, h5, h6⟩


end Go.Proofs.YtkakihbfhmiabaaGreat
