/-
  Texts of this claim joined: Base, Rets, List, Cell, Held, Row, PatchA, Open, OpenP, Arr.
-/
import Derived.Below
import Derived.Laws.OwnMore
import Derived.Deep.AppendLies
import Derived.Deep.Draws
import Derived.Lib.Hide
import Derived.WalkKit
import Derived.WalkSpells
import Derived.WalkLawsBesides
import Derived.Stop.BytesEq
import Derived.Test.YtmcinaigkjfehaaRows
import Derived.SliceStrings
import Derived.Deep.RegionHeld
import Derived.ProofKit
import Derived.Carry
import Derived.OpenShut
import Derived.ChangeSame
import Derived.SizedLaws
import Derived.Lib.SmallJoins
import Derived.Deep.Slices
import Derived.Laws.CopyRow
import Derived.Laws.IdiomStrings

/-
  Words for bytes in memory: a slice that reads as a list of bytes, an array of bytes as a value. Plain; no program is named here.
-/
namespace Go.Proofs.Ytmcinaigkjfehaa
open Go.RowKit

/-- A byte as a value. -/
def bv (x : UInt8) : Value := .int .u8 (x.toNat : Int)

theorem block_of_add (a : Addr) (n : Nat) : (a.add n).block = a.block := by unfold Addr.add; split <;> rfl
theorem add_of_add (a : Addr) (i j : Nat) : (a.add i).add j = a.add (i + j) := by
  unfold Addr.add
  by_cases hi : i = 0 <;> by_cases hj : j = 0 <;> simp [hi, hj, Nat.add_assoc]

/-- A slice value with this address and this length reads as these bytes. -/
def RB (w : World) (A : Option Addr) (l : List UInt8) : Prop :=
  ∀ k (h : k < l.length), ∃ ad, A = some ad ∧ w.cell? (ad.add k) = some (.int .u8 (l[k].toNat : Int))

theorem RB.cut {w : World} {A : Option Addr} {l : List UInt8} (h : RB w A l) (p q : Nat) : RB w (A.map (·.add p)) ((l.drop p).take q) := fun k hk => by
  have hk' : p + k < l.length := by simp at hk; omega
  obtain ⟨ad, e, hc⟩ := h (p + k) hk'
  refine ⟨ad.add p, by rw [e]; rfl, ?_⟩
  rw [add_of_add, hc]
  simp
theorem RB.addr {w : World} {A : Option Addr} {l : List UInt8} (h : RB w A l) (hl : 0 < l.length) : ∃ ad, A = some ad := by
  obtain ⟨ad, e, _⟩ := h 0 hl
  exact ⟨ad, e⟩
theorem RB.nil_ (w : World) (A : Option Addr) : RB w A [] := fun k h => absurd h (by simp)
theorem RB.below {w w' : World} {A : Option Addr} {l : List UInt8} (h : RB w A l) (hb : Below w.heap.size w w') : RB w' A l := fun k hk => by
  obtain ⟨ad, e, hc⟩ := h k hk
  refine ⟨ad, e, ?_⟩
  have hlt : (ad.add k).block < w.heap.size := block_lt_of_cell hc
  rw [hb.cell hlt, hc]


/-- The bytes of a list as cells. -/
def bcells (l : List UInt8) : Array Value := (l.map fun x => Value.int .u8 (x.toNat : Int)).toArray
theorem bcells_size (l : List UInt8) : (bcells l).size = l.length := by simp [bcells]
theorem bcells_get (l : List UInt8) (k : Nat) : (bcells l)[k]? = (l[k]?).map fun x => Value.int .u8 (x.toNat : Int) := by simp [bcells]
theorem bcells_set (l : List UInt8) (k : Nat) (x : UInt8) : (bcells l).setIfInBounds k (.int .u8 (x.toNat : Int)) = bcells (l.set k x) := by
  simp [bcells, List.map_set]

/-- Block g is known whole. -/
def Blk (w : World) (g : Nat) (t : TypeId) (cs : Array Value) : Prop := w.heap[g]? = some (.cells cs t (0, 0))
/-- Nothing but block g has changed, and no block has come. -/
structure Only (w w' : World) (g : Nat) : Prop where
  os : w'.os = w.os
  tape : w'.tape = w.tape
  output : w'.output = w.output
  size : w'.heap.size = w.heap.size
  block : ∀ k, k ≠ g → w'.heap[k]? = w.heap[k]?

section
variable {w w' w'' : World} {g : Nat} {t : TypeId} {cs : Array Value}
theorem Blk.lt (h : Blk w g t cs) : g < w.heap.size := by
  rcases Nat.lt_or_ge g w.heap.size with hlt | hge
  · exact hlt
  · unfold Blk at h; rw [Array.getElem?_eq_none hge] at h; cases h
theorem Blk.cell (h : Blk w g t cs) (i : Nat) : w.cell? ⟨g, i, none⟩ = cs[i]? := cell_of_row w g i cs t (0, 0) h
theorem Blk.byte {l : List UInt8} (h : Blk w g t (bcells l)) (i : Nat) (hi : i < l.length) : ∃ x : UInt8, l[i]? = some x ∧ w.cell? ⟨g, i, none⟩ = some (.int .u8 (x.toNat : Int)) :=
  ⟨l[i], List.getElem?_eq_getElem hi, by rw [h.cell, bcells_get, List.getElem?_eq_getElem hi]; rfl⟩
theorem Blk.frozen (h : Blk w g t cs) (i : Nat) : w.frozen? ⟨g, i, none⟩ = false := by
  unfold Blk at h
  simp [World.frozen?, h]
theorem Blk.new (w : World) (t : TypeId) (cs : Array Value) : Blk (w.alloc (.cells cs t)) w.heap.size t cs := heap_alloc_new w _
theorem Blk.alloc (h : Blk w g t cs) (o : Obj) : Blk (w.alloc o) g t cs := (Below.heap_alloc w o g h.lt).trans h
theorem Blk.set_ (h : Blk w g t cs) (i : Nat) (u : Value) : Blk (w.setCell ⟨g, i, none⟩ u) g t (cs.setIfInBounds i u) := by
  unfold Blk at h ⊢
  simp [World.setCell, Array.getElem?_modify, h]
theorem Blk.far (h : Blk w g t cs) {p : Addr} (hp : g ≠ p.block) (u : Value) : Blk (w.setCell p u) g t cs := (Below.heap_setCell w p u g hp).trans h
theorem Blk.below {B : Nat} (h : Blk w g t cs) (hb : Below B w w') (hg : g < B) : Blk w' g t cs := (hb.block g hg).trans h
theorem Blk.only {g' : Nat} (h : Blk w g t cs) (ho : Only w w' g') (hne : g ≠ g') : Blk w' g t cs := (ho.block g hne).trans h
theorem Only.refl (w : World) (g : Nat) : Only w w g := ⟨rfl, rfl, rfl, rfl, fun _ _ => rfl⟩
theorem Only.trans (h : Only w w' g) (h' : Only w' w'' g) : Only w w'' g :=
  ⟨h'.os.trans h.os, h'.tape.trans h.tape, h'.output.trans h.output, h'.size.trans h.size, fun k hk => (h'.block k hk).trans (h.block k hk)⟩
theorem Only.setCell (h : Only w w' g) (i : Nat) (u : Value) : Only w (w'.setCell ⟨g, i, none⟩ u) g :=
  ⟨h.os, h.tape, h.output, by simpa using h.size, fun k hk => (Below.heap_setCell w' ⟨g, i, none⟩ u k hk).trans (h.block k hk)⟩
theorem Only.below {B : Nat} (h : Only w w' g) (hB : B ≤ g) : Below B w w' :=
  ⟨h.os, h.tape, h.output, Nat.le_of_eq h.size.symm, fun k hk => h.block k (by omega)⟩
theorem RB.of_blk {l : List UInt8} (h : Blk w g t cs) (o : Nat) (hl : ∀ k (hk : k < l.length), cs[o + k]? = some (.int .u8 (l[k].toNat : Int))) : RB w (some ⟨g, o, none⟩) l := fun k hk => by
  refine ⟨_, rfl, ?_⟩
  have e : (⟨g, o, none⟩ : Addr).add k = ⟨g, o + k, none⟩ := by unfold Addr.add; split <;> simp_all
  rw [e, h.cell, hl k hk]
end

/-- The list with other bytes from a place on (where there is room for all of them). -/
def splice (L : List UInt8) (o : Nat) (d : List UInt8) : List UInt8 := L.take o ++ d ++ L.drop (o + d.length)
theorem splice_len (L : List UInt8) (o : Nat) (d : List UInt8) (h : o + d.length ≤ L.length) : (splice L o d).length = L.length := by
  simp [splice]; omega
theorem splice_all (L d : List UInt8) (h : d.length = L.length) : splice L 0 d = d := by
  simp [splice, h]
theorem splice_nil (L : List UInt8) (o : Nat) : splice L o [] = L := by simp [splice]
theorem splice_get (L : List UInt8) (o : Nat) (d : List UInt8) (h : o + d.length ≤ L.length) (i : Nat) :
    (splice L o d)[i]? = if o ≤ i ∧ i < o + d.length then d[i - o]? else L[i]? := by
  unfold splice
  rw [List.append_assoc, List.getElem?_append]
  by_cases h1 : i < o
  · rw [if_pos (by simp; omega), if_neg (by omega), List.getElem?_take_of_lt h1]
  · rw [if_neg (by simp; omega), List.getElem?_append]
    have e : (L.take o).length = o := by simp; omega
    rw [e]
    by_cases h2 : i < o + d.length
    · rw [if_pos (by omega), if_pos (by omega)]
    · rw [if_neg (by omega), if_neg (by omega), List.getElem?_drop]
      congr 1; omega
theorem splice_set (L : List UInt8) (o : Nat) (d : List UInt8) (x : UInt8) (h : o + d.length < L.length) :
    (splice L o d).set (o + d.length) x = splice L o (d ++ [x]) := by
  apply List.ext_getElem?
  intro i
  rw [List.getElem?_set, splice_get _ _ _ (by omega), splice_get _ _ _ (by simp; omega)]
  have hl := splice_len L o d (by omega)
  simp only [List.length_append, List.length_cons, List.length_nil]
  by_cases h1 : o + d.length = i
  · subst h1
    rw [if_pos rfl, if_pos (by omega), if_pos (by omega), List.getElem?_append_right (by omega)]
    simp
  · rw [if_neg h1]
    by_cases h2 : o ≤ i ∧ i < o + d.length
    · rw [if_pos h2, if_pos (by omega), List.getElem?_append_left (by omega)]
    · rw [if_neg h2, if_neg (by omega)]

theorem bt {a b c : World} (h : Below a.heap.size a b) (k : Below b.heap.size b c) : Below a.heap.size a c := h.trans (k.mono h.size)
theorem bdrew (w : World) (n : Nat) : Below w.heap.size w (w.drewN n) := ⟨rfl, rfl, rfl, Nat.le_refl _, fun _ _ => rfl⟩
theorem Blk.ext {w w' : World} {g : Nat} {t : TypeId} {cs : Array Value} (h : Blk w g t cs) (e : Below w.heap.size w w') : Blk w' g t cs := h.below e h.lt
theorem bonly {a b c : World} {g : Nat} (h : Below a.heap.size a b) (k : Only b c g) (hg : a.heap.size ≤ g) : Below a.heap.size a c := h.trans (k.below hg)
theorem sizeOf_of {P : Program} {e n : Nat} (h : (P.info? e).map (·.size) = some n) (w : World) : (sizeOf e).run P w = .ok n w := by
  obtain ⟨i, hi, hs⟩ := Option.map_eq_some_iff.1 h
  simp [sizeOf, typeInfo, hi, hs]
theorem wrap_u64_nat (z : Int) : ∃ V : Nat, IntKind.u64.wrap z = V ∧ V < 18446744073709551616 := by
  have h0 := wrap_u64_nonneg z
  have h1 : IntKind.u64.wrap z < 18446744073709551616 := by
    simp [IntKind.wrap, IntKind.bits, IntKind.signed]; omega
  exact ⟨(IntKind.u64.wrap z).toNat, by omega, by omega⟩
/-- This value, and the world as it was, but for what was drawn. -/
def RetQ (v : Value) (w : World) (e : Ending) (w' : World) : Prop := e = .returned v ∧ ∃ k, w' = w.drewN k
/-- Where a walk is to stop. -/
def Stop (p : Prop) : Prop := p
theorem Stop.go {p : Prop} (h : p) : Stop p := h
theorem RB.of_blk0 {w : World} {g : Nat} {t : TypeId} {l : List UInt8} (h : Blk w g t (bcells l)) : RB w (some ⟨g, 0, none⟩) l :=
  RB.of_blk h 0 fun k hk => by rw [Nat.zero_add, bcells_get, List.getElem?_eq_getElem hk]; rfl
theorem RB.of_blk_at {w : World} {g : Nat} {t : TypeId} {l : List UInt8} (h : Blk w g t (bcells l)) (o n : Nat) : RB w (some ⟨g, o, none⟩) ((l.drop o).take n) :=
  RB.of_blk h o fun k hk => by
    have hk' : o + k < l.length := by simp at hk; omega
    rw [bcells_get, List.getElem?_eq_getElem hk']; simp
def zeros (n : Nat) : List UInt8 := List.replicate n 0
theorem zeros_len (n : Nat) : (zeros n).length = n := by simp [zeros]
/-! ### The operations, each with the world that it leaves as a variable -/

/-- One block more. -/
def Grew (w w' : World) : Prop := Below w.heap.size w w' ∧ w'.heap.size = w.heap.size + 1
theorem Grew.alloc (w : World) (o : Obj) : Grew w (w.alloc o) := ⟨(Below.refl _ _).alloc (Nat.le_refl _) o, by simp⟩
theorem oneCell_bcells (l : List UInt8) : (bcells l).all (·.oneCell') = true := by
  rw [Array.all_eq_true_iff_forall_mem]
  intro v hv
  simp [bcells] at hv
  obtain ⟨x, _, rfl⟩ := hv
  rfl

section
variable {P : Program} {ops : Array Oper} {rest : List Oper} {o : Oper} {a : Act} {w : World} {Q : Exit → Act → World → Prop}

theorem wpList_wanted (hgd : Region.wanted o (yielded ops a.tmps) = true)
    (h : ∀ K : Act → World → Prop, (∀ a w, wpList P ops Q rest a w → K a w) → o.wp P a w K Q) : wpList P ops Q (o :: rest) a w :=
  wpList_step fun K hK => by rw [if_pos hgd]; exact h K hK
/-- '==' on two arrays of bytes. -/
theorem wpList_eql_arr (hgd : Region.wanted o (yielded ops a.tmps) = true) (t t' : TypeId) (x y : Operand) (ho : o.op = .binOp .eql t x y t') (hm : P.eqGuardType P.depth t = false) (n e : Nat) (ht : P.underlying t = some (.array n e)) (he : P.underlying e = some (.int .u8)) (hs : (P.info? e).map (·.size) = some 1)
    (xs ys : List UInt8) (hx : a.eval x = .agg (bcells xs)) (hy : a.eval y = .agg (bcells ys)) (hxl : xs.length = n) (hyl : ys.length = n) (r : Bool) (hr : (xs == ys) = r)
    (h : wpList P ops Q rest (a.put o.dst (.bool r)) w) : wpList P ops Q (o :: rest) a w := by
  refine wpList_wanted hgd fun K hK => ?_
  have hrun : (binOp .eql t (.agg (bcells xs)) (.agg (bcells ys))).run P w = .ok (.bool (xs == ys)) w := run_eql_bytes w t e n ht he (sizeOf_of hs) xs ys hxl hyl
  rw [hr] at hrun
  unfold Oper.wp execOp
  simp only [ho, hx, hy, Sem.run_bind, run_eqGuard_agg w .eql t x y (bcells xs) (bcells ys) hm, Result.andThen_ok, hrun]
  exact hK _ _ h
theorem run_box_row (P : Program) (w : World) (t : TypeId) (cs : Array Value) : (Instr.box t (.agg cs)).run P w = .ok (.pointer (some ⟨w.heap.size, 0, none⟩)) (w.alloc (.cells cs t)) := by
  simp [Instr.box, newVar, Value.cells]; rfl
theorem run_alloc_row (P : Program) (w : World) (t : TypeId) (cs : Array Value) (hz : (P.info? t).map (·.zero) = some (some (.agg cs))) :
    (Instr.alloc t true (.tuple #[])).run P w = .ok (.pointer (some ⟨w.heap.size, 0, none⟩)) (w.alloc (.cells cs t)) := by
  obtain ⟨i, hi, hiz⟩ := Option.map_eq_some_iff.1 hz
  simp [Instr.alloc, newVar, zeroValue, typeInfo, hi, hiz, Value.cells]; rfl

theorem run_build_zero (P : Program) (w : World) (t : TypeId) (cs : Array Value) (hz : (P.info? t).map (·.zero) = some (some (.agg cs))) (n e : Nat) (hu : P.underlying t = some (.array n e)) (he : (P.info? e).map (·.size) = some 1) :
    (Instr.build t #[]).run P w = .ok (.agg cs) w := by
  obtain ⟨i, hi, hiz⟩ := Option.map_eq_some_iff.1 hz
  obtain ⟨j, hj, hjz⟩ := Option.map_eq_some_iff.1 he
  simp [Instr.build, zeroValue, typeInfo, hi, hiz, Value.cells, run_underlying hu, sizeOf, hj, Instr.fill]
theorem wpList_build_zero (hgd : Region.wanted o (yielded ops a.tmps) = true) (t : TypeId) (ho : o.op = .build t #[]) (cs : Array Value) (hz : (P.info? t).map (·.zero) = some (some (.agg cs))) (n e : Nat) (hu : P.underlying t = some (.array n e)) (he : (P.info? e).map (·.size) = some 1)
    (h : wpList P ops Q rest (a.put o.dst (.agg cs)) w) : wpList P ops Q (o :: rest) a w := by
  refine wpList_wanted hgd fun K hK => ?_
  unfold Oper.wp execOp
  simp only [ho, Sem.run_bind, List.map_toArray, List.map_nil, run_build_zero P w t cs hz n e hu he, Result.andThen_ok]
  exact hK _ _ h

theorem wpList_box_row (hgd : Region.wanted o (yielded ops a.tmps) = true) (t : TypeId) (x : Operand) (ho : o.op = .box t x) (cs : Array Value) (hx : a.eval x = .agg cs)
    (h : Stop (∀ w', Hid (Grew w w') → Hid (Blk w' w.heap.size t cs) → wpList P ops Q rest (a.put o.dst (.pointer (some ⟨w.heap.size, 0, none⟩))) w')) : wpList P ops Q (o :: rest) a w := by
  refine wpList_wanted hgd fun K hK => ?_
  unfold Oper.wp execOp
  simp only [ho, hx, Sem.run_bind, run_box_row, Result.andThen_ok]
  exact hK _ _ (h _ (Grew.alloc w _) (Blk.new w t cs))

theorem wpList_alloc_row (hgd : Region.wanted o (yielded ops a.tmps) = true) (t : TypeId) (ho : o.op = .alloc t) (cs : Array Value) (hz : (P.info? t).map (·.zero) = some (some (.agg cs)))
    (h : Stop (∀ w', Hid (Grew w w') → Hid (Blk w' w.heap.size t cs) → wpList P ops Q rest (a.put o.dst (.pointer (some ⟨w.heap.size, 0, none⟩))) w')) : wpList P ops Q (o :: rest) a w := by
  refine wpList_wanted hgd fun K hK => ?_
  unfold Oper.wp execOp
  simp only [ho, Sem.run_bind, run_alloc_row P w t cs hz, Result.andThen_ok]
  exact hK _ _ (h _ (Grew.alloc w _) (Blk.new w t cs))

theorem wpList_load_arr (hgd : Region.wanted o (yielded ops a.tmps) = true) (t : TypeId) (x : Operand) (ho : o.op = .load t x) (g : Nat) (hx : a.eval x = .pointer (some ⟨g, 0, none⟩)) (t' : TypeId) (cs : Array Value) (hg : Blk w g t' cs)
    (n : Nat) (e : TypeId) (hu : P.underlying t = some (.array n e)) (hi : (P.info? t).map (·.size) = some cs.size)
    (h : wpList P ops Q rest (a.put o.dst (.agg cs)) w) : wpList P ops Q (o :: rest) a w :=
  wpList_wanted hgd fun _ hK => wp_load_row t x ho g hx t' cs (0, 0) _ hg hu rfl hi (hK _ _ h)

theorem Only.setRow {w : World} {g : Nat} {t : TypeId} {old : Array Value} (_h : Blk w g t old) (cs : Array Value) : Only w (w.setRow g cs) g :=
  ⟨rfl, rfl, rfl, size_setRow _ _ _, fun k hk => setRow_other w g k cs hk⟩
theorem Blk.setRow {w : World} {g : Nat} {t : TypeId} {old : Array Value} (h : Blk w g t old) (cs : Array Value) : Blk (w.setRow g cs) g t cs := setRow_heap w g old cs t _ h

theorem wpList_store_arr (hgd : Region.wanted o (yielded ops a.tmps) = true) (t : TypeId) (x y : Operand) (ho : o.op = .store t x y)
    (g : Nat) (cs : Array Value) (hx : a.eval x = .pointer (some ⟨g, 0, none⟩)) (hy : a.eval y = .agg cs)
    (t' : TypeId) (old : Array Value) (hg : Blk w g t' old) (hi : (P.info? t).map (·.size) = some cs.size) (hold : old.size = cs.size) (h1 : cs.all (·.oneCell') = true)
    (h : Stop (∀ w', Hid (Only w w' g) → Hid (Blk w' g t' cs) → wpList P ops Q rest (a.put o.dst undef) w')) : wpList P ops Q (o :: rest) a w :=
  wpList_wanted hgd fun _ hK => wp_store_row t x y ho g cs hx hy t' old hg hi hold h1 (hK _ _ (h _ (Only.setRow hg cs) (hg.setRow cs)))

theorem addr_add0 (g l : Nat) : (⟨g, 0, none⟩ : Addr).add l = ⟨g, l, none⟩ := by unfold Addr.add; split <;> simp_all
/-- A cut of an array of one-cell elements. -/
theorem run_slice_arr (P : Program) (w : World) (t N e : Nat) (hu : P.underlying t = some (.array N e)) (hs : (P.info? e).map (·.size) = some 1) (g l h : Nat) (h1 : l ≤ h) (h2 : h ≤ N) (h3 : l < N) (kl kh : IntKind) :
    (Instr.sliceAt t (.pointer (some ⟨g, 0, none⟩)) (some (.int kl l)) (some (.int kh h)) none).run P w = .ok (.slice (some ⟨g, l, none⟩) (h - l) (N - l)) w ∧
    (h = N → (Instr.sliceAt t (.pointer (some ⟨g, 0, none⟩)) (some (.int kl l)) none none).run P w = .ok (.slice (some ⟨g, l, none⟩) (N - l) (N - l)) w) ∧
    (l = 0 → (Instr.sliceAt t (.pointer (some ⟨g, 0, none⟩)) none (some (.int kh h)) none).run P w = .ok (.slice (some ⟨g, 0, none⟩) h N) w) ∧
    (l = 0 → h = N → (Instr.sliceAt t (.pointer (some ⟨g, 0, none⟩)) none none none).run P w = .ok (.slice (some ⟨g, 0, none⟩) N N) w) := by
  obtain ⟨i, hi, hiz⟩ := Option.map_eq_some_iff.1 hs
  have n3 : ¬ N = l := by omega
  refine ⟨?_, fun e => ?_, fun e => ?_, fun e1 e2 => ?_⟩
  · simp [Instr.sliceAt, Instr.sureAddr, run_underlying hu, Instr.sliceBounds, Instr.sliceBound, asIntOf, sizeOf, typeInfo, hi, hiz, n3, addr_add0, h1, h2]
  · subst e
    simp [Instr.sliceAt, Instr.sureAddr, run_underlying hu, Instr.sliceBounds, Instr.sliceBound, asIntOf, sizeOf, typeInfo, hi, hiz, n3, addr_add0, h1]
  · subst e
    simp [Instr.sliceAt, Instr.sureAddr, run_underlying hu, Instr.sliceBounds, Instr.sliceBound, asIntOf, sizeOf, typeInfo, hi, h2, addr_add0]
  · subst e1; subst e2
    simp [Instr.sliceAt, Instr.sureAddr, run_underlying hu, Instr.sliceBounds, sizeOf, typeInfo, hi, addr_add0]
theorem wpList_slice_arr_lh (hgd : Region.wanted o (yielded ops a.tmps) = true) (t : TypeId) (x lo hi : Operand) (ho : o.op = .slice t x (some lo) (some hi) none) (N e : Nat) (hu : P.underlying t = some (.array N e)) (hs : (P.info? e).map (·.size) = some 1)
    (g : Nat) (hx : a.eval x = .pointer (some ⟨g, 0, none⟩)) (kl kh : IntKind) (L H : Int) (hlo : a.eval lo = .int kl L) (hhi : a.eval hi = .int kh H) (l h : Nat) (hL : L = l) (hH : H = h) (h1 : l ≤ h) (h2 : h ≤ N) (h3 : l < N)
    (hk : wpList P ops Q rest (a.put o.dst (.slice (some ⟨g, l, none⟩) (h - l) (N - l))) w) : wpList P ops Q (o :: rest) a w := by
  refine wpList_wanted hgd fun K hK => ?_
  subst hL; subst hH
  have hr := (run_slice_arr P w t N e hu hs g l h h1 h2 h3 kl kh).1
  unfold Oper.wp execOp
  simp only [ho, Sem.run_bind, Sem.run_pure, Result.andThen_ok, Option.map_some, Option.map_none, hx, hlo, hhi, hr]
  exact hK _ _ hk
theorem wpList_slice_arr_l (hgd : Region.wanted o (yielded ops a.tmps) = true) (t : TypeId) (x lo : Operand) (ho : o.op = .slice t x (some lo) none none) (N e : Nat) (hu : P.underlying t = some (.array N e)) (hs : (P.info? e).map (·.size) = some 1)
    (g : Nat) (hx : a.eval x = .pointer (some ⟨g, 0, none⟩)) (kl : IntKind) (L : Int) (hlo : a.eval lo = .int kl L) (l : Nat) (hL : L = l) (h3 : l < N)
    (hk : wpList P ops Q rest (a.put o.dst (.slice (some ⟨g, l, none⟩) (N - l) (N - l))) w) : wpList P ops Q (o :: rest) a w := by
  refine wpList_wanted hgd fun K hK => ?_
  subst hL
  have hr := (run_slice_arr P w t N e hu hs g l N (by omega) (by omega) h3 kl .i64).2.1 rfl
  unfold Oper.wp execOp
  simp only [ho, Sem.run_bind, Sem.run_pure, Result.andThen_ok, Option.map_some, Option.map_none, hx, hlo, hr]
  exact hK _ _ hk
theorem wpList_slice_arr_h (hgd : Region.wanted o (yielded ops a.tmps) = true) (t : TypeId) (x hi : Operand) (ho : o.op = .slice t x none (some hi) none) (N e : Nat) (hu : P.underlying t = some (.array N e)) (hs : (P.info? e).map (·.size) = some 1)
    (g : Nat) (hx : a.eval x = .pointer (some ⟨g, 0, none⟩)) (kh : IntKind) (H : Int) (hhi : a.eval hi = .int kh H) (h : Nat) (hH : H = h) (h2 : h ≤ N) (h3 : 0 < N)
    (hk : wpList P ops Q rest (a.put o.dst (.slice (some ⟨g, 0, none⟩) h N)) w) : wpList P ops Q (o :: rest) a w := by
  refine wpList_wanted hgd fun K hK => ?_
  subst hH
  have hr := (run_slice_arr P w t N e hu hs g 0 h (by omega) h2 h3 .i64 kh).2.2.1 rfl
  unfold Oper.wp execOp
  simp only [ho, Sem.run_bind, Sem.run_pure, Result.andThen_ok, Option.map_some, Option.map_none, hx, hhi, hr]
  exact hK _ _ hk
theorem wpList_slice_arr_all (hgd : Region.wanted o (yielded ops a.tmps) = true) (t : TypeId) (x : Operand) (ho : o.op = .slice t x none none none) (N e : Nat) (hu : P.underlying t = some (.array N e)) (hs : (P.info? e).map (·.size) = some 1)
    (g : Nat) (hx : a.eval x = .pointer (some ⟨g, 0, none⟩)) (h3 : 0 < N)
    (hk : wpList P ops Q rest (a.put o.dst (.slice (some ⟨g, 0, none⟩) N N)) w) : wpList P ops Q (o :: rest) a w := by
  refine wpList_wanted hgd fun K hK => ?_
  have hr := (run_slice_arr P w t N e hu hs g 0 N (by omega) (by omega) h3 .i64 .i64).2.2.2 rfl rfl
  unfold Oper.wp execOp
  simp only [ho, Sem.run_bind, Sem.run_pure, Result.andThen_ok, Option.map_none, hx, hr]
  exact hK _ _ hk

/-- The result lies in a block. -/
theorem bodyPost_cell {R : Ending → World → Prop} {fn : Func} {p : Tmp} {t : TypeId} (hf : fn.results = #[ResultVar.cell p t]) (g : Nat) (hp : a.tmps.getD p undef = .pointer (some ⟨g, 0, none⟩)) (t' : TypeId) (cs : Array Value) (hg : Blk w g t' cs)
    (n : Nat) (e : TypeId) (hu : P.underlying t = some (.array n e)) (hi : (P.info? t).map (·.size) = some cs.size) (hd : a.defers = []) (hR : Stop (R (.returned (.agg cs)) w)) : bodyPost P fn R .ret a w :=
  bodyPost_ret (results_cell_row hf a.tmps w g t' cs (0, 0) _ hp hg hu rfl hi) hd hR

/-- copy into a block of bytes, whatever the source is, nil too. -/
theorem run_copy_bytes (P : Program) (w : World) (dT sT ty elem : TypeId) (hu : P.underlying dT = some (.slice elem)) (hs : (P.info? elem).map (·.size) = some 1)
    (g off dLen dCap : Nat) (cur : List UInt8) (t : TypeId) (hg : Blk w g t (bcells cur)) (hd : off + dLen ≤ cur.length) (A : Option Addr) (n c : Nat) (l : List UInt8) (hn : l.length = n) (hr : RB w A l) :
    ∃ w', (Builtin.copy_ #[dT, sT] ty #[.slice (some ⟨g, off, none⟩) dLen dCap, .slice A n c]).run P w = .ok (.int .i64 ((min n dLen : Nat) : Int)) w' ∧ Only w w' g ∧ Blk w' g t (bcells (splice cur off (l.take dLen))) := by
  subst hn
  by_cases h0 : min l.length dLen = 0
  · refine ⟨w, ?_, Only.refl _ _, ?_⟩
    · rw [run_copy_none w dT sT ty elem _ _ _ _ _ _ hu hs h0, h0]; rfl
    · have : l.take dLen = [] := by rw [← List.length_eq_zero_iff, List.length_take]; omega
      rw [this, splice_nil]; exact hg
  · obtain ⟨ad, rfl⟩ := hr.addr (by omega)
    have hlen : ((l.take dLen).map fun x : UInt8 => Value.int .u8 (x.toNat : Int)).length = min l.length dLen := by simp; omega
    have hrun := run_copy_row P w dT sT ty elem g off dLen dCap ad l.length c (bcells cur) t ((l.take dLen).map fun x => Value.int .u8 (x.toNat : Int)) hu hs hg hlen ?_ ?_ ?_
    · rw [hlen] at hrun
      refine ⟨_, hrun, Only.setRow hg _, ?_⟩
      have e : (List.take off (bcells cur).toList ++ ((l.take dLen).map fun x => Value.int .u8 (x.toNat : Int)) ++ List.drop (off + min l.length dLen) (bcells cur).toList).toArray = bcells (splice cur off (l.take dLen)) := by
        have e2 : (l.take dLen).length = min l.length dLen := by simp; omega
        simp only [bcells, splice, e2, List.map_append, List.map_take, List.map_drop]
      rw [e]
      exact hg.setRow _
    · intro j v hj
      rw [List.getElem?_map] at hj
      obtain ⟨x, hx, rfl⟩ := Option.map_eq_some_iff.1 hj
      have hjl : j < l.length := by
        have := (List.getElem?_eq_some_iff.1 hx).1
        simp at this; omega
      obtain ⟨ad', e, hc⟩ := hr j hjl
      injection e with e
      subst e
      rw [hc]
      rw [List.getElem?_take_of_lt (by have := (List.getElem?_eq_some_iff.1 hx).1; simp at this; omega), List.getElem?_eq_getElem hjl] at hx
      injection hx with hx
      rw [hx]
    · rw [hlen, bcells_size]; omega
    · intro v hv
      obtain ⟨x, _, rfl⟩ := List.mem_map.1 hv
      rfl

theorem wpList_copy_bytes (hgd : Region.wanted o (yielded ops a.tmps) = true) (s x : Operand) (dT sT : TypeId) (ho : o.op = .call { callee := .builtin .copy, args := #[s, x], argTypes := #[dT, sT] }) (elem : TypeId) (hu : P.underlying dT = some (.slice elem)) (hs : (P.info? elem).map (·.size) = some 1)
    (g off dLen dCap : Nat) (cur : List UInt8) (t : TypeId) (hsv : a.eval s = .slice (some ⟨g, off, none⟩) dLen dCap) (hg : Blk w g t (bcells cur)) (hd : off + dLen ≤ cur.length) (A : Option Addr) (n c : Nat) (l : List UInt8) (hxv : a.eval x = .slice A n c) (hn : l.length = n) (hr : RB w A l)
    (h : Stop (∀ w', Hid (Only w w' g) → Hid (Blk w' g t (bcells (splice cur off (l.take dLen)))) → wpList P ops Q rest (a.put o.dst (.int .i64 ((min n dLen : Nat) : Int))) w')) : wpList P ops Q (o :: rest) a w := by
  refine wpList_wanted hgd fun K hK => ?_
  obtain ⟨w', hrun, h1, h2⟩ := run_copy_bytes P w dT sT o.type elem hu hs g off dLen dCap cur t hg hd A n c l hn hr
  unfold Oper.wp execOp
  simp only [ho, resolve, invoke, builtin, Sem.run_bind, Sem.run_pure, Result.andThen_ok, List.map_toArray, List.map_cons, List.map_nil, hsv, hxv, hrun]
  exact hK _ _ (h w' h1 h2)

/-- make of n noughts. -/
theorem run_make_zeros (P : Program) (w : World) (t e : TypeId) (ht : P.underlying t = some (.slice e)) (hi : (P.info? e).map (fun i => (i.zero, i.size, i.bytes)) = some (some (.int .u8 0), 1, 1)) (kl kc : IntKind) (n : Nat) (hn : n ≤ 281474976710656) :
    (Instr.makeSlice t (.int kl n) (.int kc n)).run P w = .ok (.slice (some ⟨w.heap.size, 0, none⟩) n n) (w.alloc (.cells (bcells (zeros n)) e)) := by
  obtain ⟨i, h1, h2, h3, h4⟩ := info_parts hi
  have hr := run_make (P := P) w t e i (.int .u8 0) ht h1 h2 kl kc n n (by omega) (by omega) (by rw [h4]; omega) (by omega)
  have e1 : madeCells (Value.int .u8 0).cells ((n : Int).toNat * i.size) = bcells (zeros n) := by
    rw [h3, zeros]
    apply Array.ext_getElem?
    intro j
    rw [bcells_get]
    simp [madeCells, Value.cells, Array.getElem?_map, List.getElem?_replicate]
    by_cases hj : j < n <;> simp [hj]
    all_goals simp [Nat.mod_one]
  rw [e1] at hr
  simpa using hr
theorem wpList_make_bytes (hgd : Region.wanted o (yielded ops a.tmps) = true) (lo co : Operand) (t e : TypeId) (ho : o.op = .makeSlice t lo co) (ht : P.underlying t = some (.slice e)) (hi : (P.info? e).map (fun i => (i.zero, i.size, i.bytes)) = some (some (.int .u8 0), 1, 1))
    (kl kc : IntKind) (L C : Int) (n : Nat) (hl : a.eval lo = .int kl L) (hc : a.eval co = .int kc C) (hL : L = n) (hC : C = n) (hn : n ≤ 281474976710656)
    (h : Stop (∀ w', Hid (Grew w w') → Hid (Blk w' w.heap.size e (bcells (zeros n))) → wpList P ops Q rest (a.put o.dst (.slice (some ⟨w.heap.size, 0, none⟩) n n)) w')) : wpList P ops Q (o :: rest) a w := by
  refine wpList_wanted hgd fun K hK => ?_
  subst hL; subst hC
  have hr := run_make_zeros P w t e ht hi kl kc n hn
  unfold Oper.wp execOp
  simp only [ho, Sem.run_bind, Sem.run_pure, Result.andThen_ok, hl, hc, hr]
  exact hK _ _ (h _ (Grew.alloc w _) (Blk.new w e _))

/-- A slice value of the call's own (no block below B) that reads as these bytes. -/
def OwnB (w : World) (B : Nat) (e : TypeId) (v : Value) (l : List UInt8) : Prop := w.ownsRow B e 1 v l.length (l.map fun x => Value.int .u8 (x.toNat : Int))
theorem OwnB.nil_ (w : World) (B : Nat) (e : TypeId) : OwnB w B e (.slice none 0 0) [] := World.ownsRow_nil w B e 1
theorem OwnB.read {w : World} {B : Nat} {e : TypeId} {v : Value} {l : List UInt8} (h : OwnB w B e v l) : ∃ A c, v = .slice A l.length c ∧ l.length ≤ c ∧ c ≤ maxLen ∧ RB w A l := by
  obtain ⟨hl, h | ⟨g, cap, cur, hv, hb, hg, hn, hc, hs, ht⟩⟩ := h
  · refine ⟨none, 0, by rw [h.1, h.2], by omega, by unfold maxLen; omega, ?_⟩
    have : l = [] := List.eq_nil_of_length_eq_zero h.2
    subst this
    exact RB.nil_ _ _
  · refine ⟨_, cap, hv, hn, hc, RB.of_blk hg 0 fun k hk => ?_⟩
    have h2 : (cur.toList.take (l.length * 1))[k]? = (l.map fun x => Value.int .u8 (x.toNat : Int))[k]? := by rw [ht]
    rw [List.getElem?_take_of_lt (by omega), List.getElem?_map, List.getElem?_eq_getElem hk] at h2
    simpa using h2
theorem OwnB.alloc {w : World} {B : Nat} {e : TypeId} {v : Value} {l : List UInt8} (h : OwnB w B e v l) (o : Obj) : OwnB (w.alloc o) B e v l := World.ownsRow.alloc h o

theorem wpList_append_byte (hgd : Region.wanted o (yielded ops a.tmps) = true) (s x : Operand) (t e : TypeId) (ho : o.op = .call { callee := .builtin .append, args := #[s, x], argTypes := #[t, t] })
    (ht : P.underlying t = some (.slice e)) (hi : (P.info? e).map (fun i => (i.zero, i.size, i.bytes)) = some (some (.int .u8 0), 1, 1))
    (B : Nat) (v : Value) (l : List UInt8) (hs : a.eval s = v) (hown : OwnB w B e v l) (X : Int) (b : UInt8) (hX : X = (b.toNat : Int)) (hx : a.eval x = .slice (some ⟨w.heap.size, 0, none⟩) 1 1)
    (hB : B ≤ w.heap.size) (hlen : l.length + 1 ≤ 140737488355328)
    (h : Stop (∀ v' w', Hid (OwnB w' B e v' (l ++ [b])) → Hid (Below B w w') → wpList P ops Q rest (a.put o.dst v') w')) : wpList P ops Q (o :: rest) a (w.alloc (.cells #[.int .u8 X] e)) := by
  obtain ⟨i, h1, h2, h3, h4⟩ := info_parts hi
  subst hX
  refine wpList_wanted hgd fun _ hK => wp_append_own _ s x t ho B e i (.int .u8 0) 1 1 ht h1 h2 h3 h4 rfl (by omega) v l.length _ hs (hown.alloc _) ⟨w.heap.size, 0, none⟩ 1 1 [.int .u8 (b.toNat : Int)] hx rfl (cell_one_new _ _ _) ?_ (by unfold maxLen; omega) (by omega) (by simp; omega) ?_
  · intro u hu
    simp at hu
    subst hu
    rfl
  · intro v' w' ho' hg _
    refine hK _ _ (h v' w' ?_ ?_)
    · have e1 : (l ++ [b]).length = l.length + 1 := by simp
      unfold OwnB
      rw [e1, List.map_append]
      exact ho'
    · refine (((Below.refl B w).alloc (by omega) _)).grown hg (by simp; omega) ?_
      intro k hk
      exact (World.ownsRow.lt hown k hk).1

end

end Go.Proofs.Ytmcinaigkjfehaa

/-
  Facts on bytes and blocks as this program has them; results that are bytes, or a block.
-/
namespace Go.Proofs.Ytmcinaigkjfehaa
open Go.RowKit

theorem Try.byteInfo : (Try.prog.info? 5).map (fun i => (i.zero, i.size, i.bytes)) = some (some (.int .u8 0), 1, 1) := by kernel_rfl
theorem Try.byteSize : (Try.prog.info? 5).map (·.size) = some 1 := by kernel_rfl

/-- A result that is a slice of bytes. -/
def RetB (w : World) (l : List UInt8) (e : Ending) (w' : World) : Prop := ∃ A n c, e = .returned (.slice A n c) ∧ l.length = n ∧ n ≤ c ∧ c ≤ maxLen ∧ RB w' A l ∧ Below w.heap.size w w'
/-- .. and whether there is one. -/
def RetBB (w : World) (l : List UInt8) (b : Bool) (e : Ending) (w' : World) : Prop := ∃ A n c, e = .returned (.tuple #[.slice A n c, .bool b]) ∧ l.length = n ∧ n ≤ c ∧ c ≤ maxLen ∧ RB w' A l ∧ Below w.heap.size w w'
/-- A result that is a block. -/
def RetA (w : World) (l : List UInt8) (e : Ending) (w' : World) : Prop := e = .returned (.agg (bcells l)) ∧ Below w.heap.size w w'

end Go.Proofs.Ytmcinaigkjfehaa

/-
  Words for lists of one-cell values in memory: a slice that reads as a list, a slice of the call's own. Plain; no program is named here.
-/
namespace Go.Proofs.Ytmcinaigkjfehaa
open Go.RowKit

/-- A slice value with this address reads as these cells. -/
def RC (w : World) (A : Option Addr) (l : List Value) : Prop :=
  ∀ k (h : k < l.length), ∃ ad, A = some ad ∧ w.cell? (ad.add k) = some l[k]
theorem RC.below {w w' : World} {A : Option Addr} {l : List Value} (h : RC w A l) (hb : Below w.heap.size w w') : RC w' A l := fun k hk => by
  obtain ⟨ad, e, hc⟩ := h k hk
  refine ⟨ad, e, ?_⟩
  rw [hb.cell (block_lt_of_cell hc), hc]
theorem RC.nil_ (w : World) (A : Option Addr) : RC w A [] := fun k h => absurd h (by simp)
/-- A slice value of the call's own (no block below B) that reads as these cells. -/
def OwnC (w : World) (B : Nat) (e : TypeId) (v : Value) (l : List Value) : Prop := w.ownsRow B e 1 v l.length l
theorem OwnC.nil_ (w : World) (B : Nat) (e : TypeId) : OwnC w B e (.slice none 0 0) [] := World.ownsRow_nil w B e 1
theorem OwnC.read {w : World} {B : Nat} {e : TypeId} {v : Value} {l : List Value} (h : OwnC w B e v l) : ∃ A c, v = .slice A l.length c ∧ l.length ≤ c ∧ c ≤ maxLen ∧ RC w A l := by
  obtain ⟨hl, h | ⟨g, cap, cur, hv, hb, hg, hn, hc, hs, ht⟩⟩ := h
  · refine ⟨none, 0, by rw [h.1, h.2], by omega, by unfold maxLen; omega, ?_⟩
    have : l = [] := List.eq_nil_of_length_eq_zero h.2
    subst this
    exact RC.nil_ _ _
  · refine ⟨_, cap, hv, hn, hc, fun k hk => ⟨_, rfl, ?_⟩⟩
    have h2 : (cur.toList.take (l.length * 1))[k]? = l[k]? := by rw [ht]
    rw [List.getElem?_take_of_lt (by omega), List.getElem?_eq_getElem hk] at h2
    rw [addr_add0, cell_of_row w g k cur e (0, 0) hg]
    simpa using h2
theorem OwnC.lt {w : World} {B : Nat} {e : TypeId} {v : Value} {l : List Value} (h : OwnC w B e v l) : ∀ k, v.ownBlock = some k → B ≤ k ∧ k < w.heap.size := World.ownsRow.lt h
theorem OwnC.ext {w w' : World} {B : Nat} {e : TypeId} {v : Value} {l : List Value} (h : OwnC w B e v l) (hb : Below w.heap.size w w') : OwnC w' B e v l := by
  obtain ⟨hl, h | ⟨g, cap, cur, hv, hbg, hg, h⟩⟩ := h
  · exact ⟨hl, Or.inl h⟩
  · exact ⟨hl, Or.inr ⟨g, cap, cur, hv, hbg, Blk.ext hg hb, h⟩⟩
theorem OwnC.low {w : World} {B B' : Nat} {e : TypeId} {v : Value} {l : List Value} (h : OwnC w B e v l) (hb : B' ≤ B) : OwnC w B' e v l := by
  obtain ⟨hl, h | ⟨g, cap, cur, hv, hbg, h⟩⟩ := h
  · exact ⟨hl, Or.inl h⟩
  · exact ⟨hl, Or.inr ⟨g, cap, cur, hv, Nat.le_trans hb hbg, h⟩⟩
/-- No block is both's. -/
def Apart (u v : Value) : Prop := ∀ k, u.ownBlock = some k → v.ownBlock ≠ some k
theorem Apart.nil_ (v : Value) : Apart (.slice none 0 0) v := fun k h => by simp [Value.ownBlock] at h
theorem Apart.symm {u v : Value} (h : Apart u v) : Apart v u := fun k h1 h2 => h k h2 h1
/-- What an append to v leaves: v' in its place, and all others' as they were. -/
structure Added (w w' : World) (B : Nat) (v v' : Value) : Prop where
  below : Below B w w'
  keep : ∀ B' e u l, OwnC w B' e u l → Apart u v → OwnC w' B' e u l ∧ Apart u v'

section
variable {P : Program} {ops : Array Oper} {rest : List Oper} {o : Oper} {a : Act} {w : World} {Q : Exit → Act → World → Prop}

theorem run_append_one (P : Program) (w : World) (t ty e : TypeId) (ht : P.underlying t = some (.slice e)) (z : Value) (by_ : Nat) (hi : (P.info? e).map (fun i => (i.zero, i.size, i.bytes)) = some (some z, 1, by_)) (hz : z.cells.size = 1)
    (B : Nat) (v : Value) (l : List Value) (hown : OwnC w B e v l) (X : Value) (hX : X.oneCell' = true) (ad : Addr) (c : Nat) (hc : w.cell? ad = some X) (hB : B ≤ w.heap.size) (hlen : l.length + 1 ≤ maxLen) (hby : (l.length + 1) * by_ ≤ 140737488355328) :
    ∃ v' w', (Builtin.append_ #[t, t] ty #[v, .slice (some ad) 1 c]).run P w = .ok v' w' ∧ OwnC w' B e v' (l ++ [X]) ∧ w.grownBy w' v.ownBlock ∧ (v'.ownBlock = v.ownBlock ∨ v'.ownBlock = some w.heap.size) := by
  obtain ⟨i, h1, h2, h3, h4⟩ := info_parts hi
  have hnews : ∀ j u, [X][j]? = some u → w.cell? (ad.add j) = some u := fun j u hj => by
    match j, hj with
    | 0, hj =>
      simp at hj
      subst hj
      exact hc
  have h5 : ∀ u ∈ [X], u.oneCell' = true := fun u hu => by
    simp at hu
    subst hu
    exact hX
  have hlm : l.length + 1 ≤ 9223372036854775807 := by unfold maxLen at hlen; omega
  obtain ⟨v', w', hr, ho, hg, _⟩ := run_append_own (P := P) w B t ty e i z 1 by_ ht h1 h2 h3 h4 hz (by omega) v l.length l hown ad 1 c [X] rfl hnews h5 hlen hby hB
  have e1 : (l ++ [X]).length = l.length + 1 := by simp
  refine ⟨v', w', hr, by unfold OwnC; rw [e1]; exact ho, hg, ?_⟩
  obtain ⟨hl, ⟨rfl, hn⟩ | ⟨g, cap, cur, rfl, hbg, hgr, hnc, hcm, hcs, htk⟩⟩ := id hown
  · have hb1 : 1 * by_ ≤ 140737488355328 := Nat.le_trans (Nat.mul_le_mul_right by_ (by omega)) hby
    have hr' := run_append_nil (P := P) w t ty e i z ht h1 h2 ad 1 c [X] (by rw [h3]; rfl) hnews (by omega) (by omega) (by rw [h4]; omega)
    rw [hr] at hr'
    injection hr' with e2 _
    right
    rw [e2]
    rfl
  · by_cases hroom : l.length + 1 ≤ cap
    · have hr' := run_append_room (P := P) w t ty e i ht h1 g l.length cap cur hgr ad 1 c [X] (by rw [h3]; rfl) hnews h5 hroom (by rw [h3, hcs]; simp; omega)
      rw [hr] at hr'
      injection hr' with e2 _
      left
      rw [e2]
      rfl
    · have holds : ∀ j u, l[j]? = some u → w.cell? ((⟨g, 0, none⟩ : Addr).add j) = some u := hown.cells (g := g) rfl
      have hr' := run_append_grow (P := P) w t ty e i z ht h1 h2 ⟨g, 0, none⟩ l.length cap l (by rw [h3]; simp) holds ad 1 c [X] (by rw [h3]; rfl) hnews (by omega) (by omega) (by rw [h4]; exact growslice_fits (by omega) hby)
      rw [hr] at hr'
      injection hr' with e2 _
      right
      rw [e2]
      rfl

/-- append of one value, boxed just ahead. -/
theorem wpList_append_one (hgd : Region.wanted o (yielded ops a.tmps) = true) (s x : Operand) (t e : TypeId) (ho : o.op = .call { callee := .builtin .append, args := #[s, x], argTypes := #[t, t] })
    (ht : P.underlying t = some (.slice e)) (z : Value) (by_ : Nat) (hi : (P.info? e).map (fun i => (i.zero, i.size, i.bytes)) = some (some z, 1, by_)) (hz : z.cells.size = 1)
    (B : Nat) (v : Value) (l : List Value) (hs : a.eval s = v) (hown : OwnC w B e v l) (X : Value) (hX : X.oneCell' = true) (hx : a.eval x = .slice (some ⟨w.heap.size, 0, none⟩) 1 1)
    (hB : B ≤ w.heap.size) (hlen : l.length + 1 ≤ maxLen) (hby : (l.length + 1) * by_ ≤ 140737488355328)
    (h : Stop (∀ v' w', Hid (OwnC w' B e v' (l ++ [X])) → Hid (Added w w' B v v') → wpList P ops Q rest (a.put o.dst v') w')) : wpList P ops Q (o :: rest) a (w.alloc (.cells #[X] e)) := by
  refine wpList_wanted hgd fun K hK => ?_
  obtain ⟨v', w', hr, h1, h2, h3⟩ := run_append_one P (w.alloc (.cells #[X] e)) t o.type e ht z by_ hi hz B v l (World.ownsRow.alloc hown _) X hX ⟨w.heap.size, 0, none⟩ 1 (by have h := cell_one_new w X e 0 X rfl; rwa [addr_add0] at h) (by simp; omega) hlen hby
  unfold Oper.wp execOp
  simp only [ho, resolve, invoke, builtin, Sem.run_bind, Sem.run_pure, Result.andThen_ok, List.map_toArray, List.map_cons, List.map_nil, hs, hx, hr]
  refine hK _ _ (h v' w' h1 ⟨?_, fun B' e' u m hu hap => ⟨?_, fun k hk => ?_⟩⟩)
  · refine (((Below.refl B w).alloc (by omega) _)).grown h2 (by simp; omega) ?_
    intro k hk
    exact (hown.lt k hk).1
  · refine World.ownsRow.kept (World.ownsRow.alloc hu _) h2 ?_
    cases hb : u.ownBlock with
    | none => exact Or.inl rfl
    | some k => exact Or.inr fun e => hap k hb e.symm
  · have hlt := (hu.lt k hk).2
    rcases h3 with h3 | h3 <;> rw [h3]
    · exact hap k hk
    · simp
      omega
end

/-! Lists of texts. -/
def svals (l : List ByteArray) : List Value := l.map Value.string
theorem svals_len (l : List ByteArray) : (svals l).length = l.length := by simp [svals]
theorem svals_snoc (l : List ByteArray) (s : ByteArray) : svals l ++ [.string s] = svals (l ++ [s]) := by simp [svals]
theorem RC.str {w : World} {A : Option Addr} {l : List ByteArray} (h : RC w A (svals l)) (k : Nat) (hk : k < l.length) : ∃ ad, A = some ad ∧ w.cell? (ad.add k) = some (.string l[k]) := by
  obtain ⟨ad, e, hc⟩ := h k (by rw [svals_len]; exact hk)
  exact ⟨ad, e, by rw [hc]; simp [svals]⟩
theorem OwnC.strs {w : World} {B : Nat} {e : TypeId} {v : Value} {l : List ByteArray} (h : OwnC w B e v (svals l)) : ∃ A c, v = .slice A l.length c ∧ l.length ≤ c ∧ c ≤ maxLen ∧ RC w A (svals l) := by
  have := h.read
  rwa [svals_len] at this
theorem bytes_eq (s t : ByteArray) : (s.toList == t.toList) = decide (s = t) := by
  rw [Bool.eq_iff_iff, ByteArray.toList_eq, ByteArray.toList_eq]
  simp only [beq_iff_eq, decide_eq_true_eq]
  exact ⟨fun h => Go.WideShapes.bytes_inj h, fun h => by rw [h]⟩

end Go.Proofs.Ytmcinaigkjfehaa

/-
  Laws on one cell of a known block, and on make of noughts of any one-cell type. Plain; no program is named here.
-/
namespace Go.Proofs.Ytmcinaigkjfehaa
open Go.RowKit

section
variable {P : Program} {ops : Array Oper} {rest : List Oper} {o : Oper} {a : Act} {w : World} {Q : Exit → Act → World → Prop}

theorem run_storeVar_cell (P : Program) (w : World) (ty : TypeId) (hs : (P.info? ty).map (·.size) = some 1) (g i : Nat) (t : TypeId) (cs : Array Value) (hg : Blk w g t cs) (hi : i < cs.size) (v : Value) (hv : v.cells = #[v]) (h1 : v.oneCell' = true) :
    (storeVar ty ⟨g, i, none⟩ v).run P w = .ok () (w.setCell ⟨g, i, none⟩ v) := by
  obtain ⟨inf, hq, hsz⟩ := Option.map_eq_some_iff.1 hs
  have hc : w.cell? ⟨g, i, none⟩ = some cs[i] := by rw [hg.cell, Array.getElem?_eq_getElem hi]
  simp [storeVar, sizeOf, typeInfo, hq, hsz, hv, storeCells, run_store P w _ v _ h1, hc, hg.frozen i, show (⟨g, i, none⟩ : Addr).add 0 = ⟨g, i, none⟩ from rfl]

/-- A store into one cell of a block. -/
theorem wpList_store_cell (hgd : Region.wanted o (yielded ops a.tmps) = true) (ty : TypeId) (x y : Operand) (ho : o.op = .store ty x y) (hs : (P.info? ty).map (·.size) = some 1)
    (g i : Nat) (hx : a.eval x = .pointer (some ⟨g, i, none⟩)) (v : Value) (hy : a.eval y = v) (hv : v.cells = #[v]) (h1 : v.oneCell' = true) (t : TypeId) (cs : Array Value) (hg : Blk w g t cs) (hi : i < cs.size)
    (h : Stop (∀ w', Hid (Only w w' g) → Hid (Blk w' g t (cs.setIfInBounds i v)) → wpList P ops Q rest (a.put o.dst undef) w')) : wpList P ops Q (o :: rest) a w := by
  refine wpList_wanted hgd fun K hK => ?_
  unfold Oper.wp execOp
  simp only [ho, hx, hy, Instr.storeAt, Instr.sureAddr, Sem.run_bind, Sem.run_pure, Result.andThen_ok, run_storeVar_cell P w ty hs g i t cs hg hi v hv h1]
  exact hK _ _ (h _ ((Only.refl w g).setCell i v) (hg.set_ i v))

/-- A byte of an array by value. -/
theorem run_index_byte (P : Program) (w : World) (t e : TypeId) (n : Nat) (hu : P.underlying t = some (.array n e)) (he : P.underlying e = some (.int .u8)) (hs : (P.info? e).map (·.size) = some 1) (k : IntKind) (M : List UInt8) (q : Nat) (hq : q < n) (x : UInt8) (hx : M[q]? = some x) :
    (Instr.index t (.agg (bcells M)) (.int k q)).run P w = .ok (.int .u8 (x.toNat : Int)) w := by
  obtain ⟨inf, hi, hsz⟩ := Option.map_eq_some_iff.1 hs
  have hc : (bcells M)[q]? = some (.int .u8 (x.toNat : Int)) := by rw [bcells_get, hx]; rfl
  simp [Instr.index, asIntOf, run_underlying hu, hq, part, isAgg, run_underlying he, sizeOf, typeInfo, hi, hsz, hc]
theorem wpList_index_byte (hgd : Region.wanted o (yielded ops a.tmps) = true) (t : TypeId) (x y : Operand) (ho : o.op = .index t x y) (n e : Nat) (hu : P.underlying t = some (.array n e)) (he : P.underlying e = some (.int .u8)) (hs : (P.info? e).map (·.size) = some 1)
    (M : List UInt8) (hx : a.eval x = .agg (bcells M)) (k : IntKind) (I : Int) (hy : a.eval y = .int k I) (q : Nat) (hI : I = q) (hq : q < n) (b : UInt8) (hb : M[q]? = some b)
    (h : wpList P ops Q rest (a.put o.dst (.int .u8 (b.toNat : Int))) w) : wpList P ops Q (o :: rest) a w := by
  refine wpList_wanted hgd fun K hK => ?_
  subst hI
  unfold Oper.wp execOp
  simp only [ho, hx, hy, Sem.run_bind, Sem.run_pure, Result.andThen_ok, run_index_byte P w t e n hu he hs k M q hq b hb]
  exact hK _ _ h
/-- The result is a struct in a block. -/
theorem bodyPost_struct {R : Ending → World → Prop} {fn : Func} {p : Tmp} {t : TypeId} (hf : fn.results = #[ResultVar.cell p t]) (g : Nat) (hp : a.tmps.getD p undef = .pointer (some ⟨g, 0, none⟩)) (t' : TypeId) (cs : Array Value) (hg : Blk w g t' cs)
    (d : TypeDesc) (hu : P.underlying t = some d) (hd1 : (match d with | .struct _ | .array _ _ => true | _ => false) = true) (hi : (P.info? t).map (·.size) = some cs.size) (hd : a.defers = []) (hR : Stop (R (.returned (.agg cs)) w)) : bodyPost P fn R .ret a w :=
  bodyPost_ret (results_cell_row hf a.tmps w g t' cs (0, 0) d hp hg hu hd1 hi) hd hR

/-- make of n noughts. -/
theorem run_make_zero (P : Program) (w : World) (t e : TypeId) (ht : P.underlying t = some (.slice e)) (z : Value) (by_ : Nat) (hi : (P.info? e).map (fun i => (i.zero, i.size, i.bytes)) = some (some z, 1, by_)) (hz : z.cells = #[z]) (kl kc : IntKind) (n : Nat) (hn : by_ * n ≤ 281474976710656) (hn2 : n ≤ 9223372036854775807) :
    (Instr.makeSlice t (.int kl n) (.int kc n)).run P w = .ok (.slice (some ⟨w.heap.size, 0, none⟩) n n) (w.alloc (.cells (List.replicate n z).toArray e)) := by
  obtain ⟨i, h1, h2, h3, h4⟩ := info_parts hi
  have hr := run_make (P := P) w t e i z ht h1 h2 kl kc n n (by omega) (by omega) (by rw [h4]; omega) (by omega)
  have e1 : madeCells z.cells ((n : Int).toNat * i.size) = (List.replicate n z).toArray := by
    rw [h3, hz]
    apply Array.ext_getElem?
    intro j
    simp [madeCells, Array.getElem?_map]
    by_cases hj : j < n <;> simp [hj]
    all_goals simp [Nat.mod_one]
  rw [e1] at hr
  simpa using hr
theorem wpList_make_zero (hgd : Region.wanted o (yielded ops a.tmps) = true) (lo co : Operand) (t e : TypeId) (ho : o.op = .makeSlice t lo co) (ht : P.underlying t = some (.slice e)) (z : Value) (by_ : Nat) (hi : (P.info? e).map (fun i => (i.zero, i.size, i.bytes)) = some (some z, 1, by_)) (hz : z.cells = #[z])
    (kl kc : IntKind) (L C : Int) (n : Nat) (hl : a.eval lo = .int kl L) (hc : a.eval co = .int kc C) (hL : L = n) (hC : C = n) (hn : by_ * n ≤ 281474976710656) (hn2 : n ≤ 9223372036854775807) (cs : Array Value) (hcs : (List.replicate n z).toArray = cs)
    (h : Stop (∀ w', Hid (Grew w w') → Hid (Blk w' w.heap.size e cs) → wpList P ops Q rest (a.put o.dst (.slice (some ⟨w.heap.size, 0, none⟩) n n)) w')) : wpList P ops Q (o :: rest) a w := by
  refine wpList_wanted hgd fun K hK => ?_
  subst hL; subst hC; subst hcs
  have hr := run_make_zero P w t e ht z by_ hi hz kl kc n hn hn2
  unfold Oper.wp execOp
  simp only [ho, Sem.run_bind, Sem.run_pure, Result.andThen_ok, hl, hc, hr]
  exact hK _ _ (h _ (Grew.alloc w _) (Blk.new w e _))
end

/-! Lists of bools, lists of numbers. -/
def bvals (l : List Bool) : List Value := l.map Value.bool
def ivals (l : List Int) : List Value := l.map (Value.int .i64)
theorem bvals_len (l : List Bool) : (bvals l).length = l.length := by simp [bvals]
theorem ivals_len (l : List Int) : (ivals l).length = l.length := by simp [ivals]
theorem bvals_snoc (l : List Bool) (b : Bool) : bvals l ++ [.bool b] = bvals (l ++ [b]) := by simp [bvals]
theorem ivals_snoc (l : List Int) (i : Int) : ivals l ++ [.int .i64 i] = ivals (l ++ [i]) := by simp [ivals]
theorem RC.bool {w : World} {A : Option Addr} {l : List Bool} (h : RC w A (bvals l)) (k : Nat) (hk : k < l.length) : ∃ ad, A = some ad ∧ w.cell? (ad.add k) = some (.bool l[k]) := by
  obtain ⟨ad, e, hc⟩ := h k (by rw [bvals_len]; exact hk)
  exact ⟨ad, e, by rw [hc]; simp [bvals]⟩
theorem RC.int {w : World} {A : Option Addr} {l : List Int} (h : RC w A (ivals l)) (k : Nat) (hk : k < l.length) : ∃ ad, A = some ad ∧ w.cell? (ad.add k) = some (.int .i64 l[k]) := by
  obtain ⟨ad, e, hc⟩ := h k (by rw [ivals_len]; exact hk)
  exact ⟨ad, e, by rw [hc]; simp [ivals]⟩
theorem OwnC.bools {w : World} {B : Nat} {e : TypeId} {v : Value} {l : List Bool} (h : OwnC w B e v (bvals l)) : ∃ A c, v = .slice A l.length c ∧ l.length ≤ c ∧ c ≤ maxLen ∧ RC w A (bvals l) := by
  have := h.read
  rwa [bvals_len] at this
theorem OwnC.ints {w : World} {B : Nat} {e : TypeId} {v : Value} {l : List Int} (h : OwnC w B e v (ivals l)) : ∃ A c, v = .slice A l.length c ∧ l.length ≤ c ∧ c ≤ maxLen ∧ RC w A (ivals l) := by
  have := h.read
  rwa [ivals_len] at this
/-- The block in which a slice of the call's own lies. -/
theorem OwnC.blk {w : World} {B : Nat} {e : TypeId} {v : Value} {l : List Value} (h : OwnC w B e v l) (hl : 0 < l.length) :
    ∃ g cap cur, v = .slice (some ⟨g, 0, none⟩) l.length cap ∧ B ≤ g ∧ Blk w g e cur ∧ l.length ≤ cap ∧ cap ≤ maxLen ∧ cur.size = cap ∧ cur.toList.take l.length = l := by
  obtain ⟨_, h | ⟨g, cap, cur, hv, hb, hg, hn, hc, hs, ht⟩⟩ := h
  · omega
  · exact ⟨g, cap, cur, hv, hb, hg, hn, hc, by omega, by rw [Nat.mul_one] at ht; exact ht⟩
theorem RC.of_blk {w : World} {g : Nat} {t : TypeId} {cs : Array Value} (h : Blk w g t cs) (l : List Value) (hl : cs.toList.take l.length = l) : RC w (some ⟨g, 0, none⟩) l := fun k hk => by
  refine ⟨_, rfl, ?_⟩
  have e : (cs.toList.take l.length)[k]? = l[k]? := by rw [hl]
  rw [List.getElem?_take_of_lt hk, List.getElem?_eq_getElem hk] at e
  rw [addr_add0, h.cell]
  simpa using e
theorem take_set_same {α : Type} (l : List α) (i n : Nat) (v : α) : (l.set i v).take n = (l.take n).set i v := by
  rw [List.take_set]

end Go.Proofs.Ytmcinaigkjfehaa

/-
  A region that draws its order, gone through in one order: what hangs on S alone is taken first; a call comes up alone. Plain; no program is named here.
-/
namespace Go.Proofs.Ytmcinaigkjfehaa
open Go.RowKit

section
variable {P : Program} {l : List Oper} {Q : Exit → Act → World → Prop} {S : World → Prop} {listed : List Bool} {n : Nat} {a : Act} {w : World}

/-- What is left of the region: 'listed' tells which operations have come up. -/
def WH (P : Program) (l : List Oper) (Q : Exit → Act → World → Prop) (S : World → Prop) (listed : List Bool) (n : Nat) (a : Act) (w : World) : Prop :=
  wpAnyH P .any l.toArray Q S n listed.toArray a w

theorem WH.start {id : Nat} (listed : List Bool) (n : Nat) (hl : listed = List.replicate l.length false) (hn : l.length = n) (hm : P.follows .mixedOrders = true) (hS : S w.drew) (h : S w.drew → WH P l Q S listed n a w.drew) : (Code.region id l.toArray true).wp P Q a w :=
  wp_region_held_drew (S := S) hm hS fun hs => by
    have h' := h hs
    subst hl; subst hn
    have e : (List.replicate l.length false).toArray = Array.replicate l.toArray.size false := by simp
    unfold WH at h'
    rw [e] at h'
    simpa using h'

/-- The side conditions of a take, one Bool. -/
def takes (l : List Oper) (listed : List Bool) (i : Nat) : Bool := Region.noSelect l.toArray && Region.free .any l.toArray listed.toArray i && (Region.ready .any l.toArray listed.toArray).contains i

theorem WH.take (i : Nat) (o : Oper) (v : Value) (hi : l[i]? = some o) (ht : takes l listed i = true) (hQ : ∀ c a w, Q (.panic c) (a.put o.dst v) w → Q (.panic c) a w)
    (hw : Region.wanted o (yielded l.toArray a.tmps) = true) (hS : S w) (hy : ∀ w, S w → (execOp a.eval o).run P w = .ok (.value v) w)
    (h : WH P l Q S (listed.set i true) n (a.put o.dst v) w) : WH P l Q S listed (n + 1) a w := by
  simp only [takes, Bool.and_eq_true] at ht
  refine wpAnyH_take (i := i) (oi := o) (v := v) (by simpa using hi) ht.1.1 ht.1.2 ht.2 hQ (Or.inl ⟨hw, hy⟩) hS ?_
  unfold WH at h
  simpa using h
theorem WH.skip (i : Nat) (o : Oper) (hi : l[i]? = some o) (ht : takes l listed i = true) (hQ : ∀ c a w, Q (.panic c) (a.put o.dst undef) w → Q (.panic c) a w)
    (hw : Region.wanted o (yielded l.toArray a.tmps) = false) (hS : S w)
    (h : WH P l Q S (listed.set i true) n (a.put o.dst undef) w) : WH P l Q S listed (n + 1) a w := by
  simp only [takes, Bool.and_eq_true] at ht
  refine wpAnyH_take (i := i) (oi := o) (v := undef) (by simpa using hi) ht.1.1 ht.1.2 ht.2 hQ (Or.inr ⟨hw, rfl⟩) hS ?_
  unfold WH at h
  simpa using h

/-- The only one that may come up. -/
theorem WH.only (i : Nat) (o : Oper) (hi : l[i]? = some o) (hr : Region.ready .any l.toArray listed.toArray = [i]) (hw : Region.wanted o (yielded l.toArray a.tmps) = true)
    (h : ∀ K : Act → World → Prop, (∀ a' w', S w' → WH P l Q S (listed.set i true) n a' w' → K a' w') → o.wp P a w K Q) : WH P l Q S listed (n + 1) a w := by
  refine wpAnyH_all (rs := [i]) hr (by simp) fun j hj => ?_
  obtain rfl : j = i := by simpa using hj
  have hi' : l.toArray[j]? = some o := by simpa using hi
  unfold Go.wpOp
  simp only [hi', hw, if_true]
  refine Or.inl (h _ fun a' w' h1 h2 => ⟨h1, ?_⟩)
  unfold WH at h2
  simpa using h2
/-- The only one that may come up, behind a guard that keeps it back. -/
theorem WH.onlySkip (i : Nat) (o : Oper) (hi : l[i]? = some o) (hr : Region.ready .any l.toArray listed.toArray = [i]) (hw : Region.wanted o (yielded l.toArray a.tmps) = false) (hS : S w)
    (h : WH P l Q S (listed.set i true) n (a.put o.dst undef) w) : WH P l Q S listed (n + 1) a w := by
  refine wpAnyH_all (rs := [i]) hr (by simp) fun j hj => ?_
  obtain rfl : j = i := by simpa using hj
  have hi' : l.toArray[j]? = some o := by simpa using hi
  unfold Go.wpOp
  simp only [hi', hw]
  refine ⟨hS, ?_⟩
  unfold WH at h
  simpa using h
/-- The run of a load of a whole array. -/
theorem run_load_arr {o : Oper} (t : TypeId) (x : Operand) (ho : o.op = .load t x) (g : Nat) (hx : a.eval x = .pointer (some ⟨g, 0, none⟩)) (t' : TypeId) (cs : Array Value) (hg : Blk w g t' cs)
    (k : Nat) (e : TypeId) (hu : P.underlying t = some (.array k e)) (hi : (P.info? t).map (·.size) = some cs.size) : (execOp a.eval o).run P w = .ok (.value (.agg cs)) w := by
  unfold execOp
  simp only [ho, hx, Instr.loadAt, Instr.sureAddr, Sem.run_bind, Sem.run_pure, Result.andThen_ok, run_loadVar_row w g t' t cs (0, 0) _ hg hu rfl hi]

theorem WH.done (hr : Region.ready .any l.toArray listed.toArray = []) (h : Q .normal a w) : WH P l Q S listed n a w := wpAnyH_done hr h n
end

end Go.Proofs.Ytmcinaigkjfehaa

/-
  The step from a walk to a row, for laws: whatever the arguments are that can be read, the call answers true and leaves what was there.
-/
namespace Go.Proofs.Ytmcinaigkjfehaa
open Go.ChangeShapes Go.WideShapes Go.ChangeAt Go.RowKit

theorem Try.own : ownKnob Try.prog.godebug = none := by kernel_rfl
theorem Try.laidOut : laidOutB Try.prog = true := by kernel_rfl

section
variable {H : Type} {enc : TypeId × Value → H} {P : Program}

theorem trodAll_below (hl : laidOutB P = true) {W W' : World} (hb : Below W.heap.size W W') {sp : Nat → Bool} : ∀ {ts : List TypeId} {vs : List Value} {ds : List (DataW H)} {ps : List MemPlace},
    (∀ t ∈ ts, P.readableRec t = true ∧ t < P.types.size) → DataW.TrodAll enc P W 0 (fun _ => true) true ts vs ds ps → (∀ p ∈ ps, p.block < W.heap.size) → (∀ p ∈ ps, sp p.block = true) → DataW.TrodAll enc P W' 0 sp true ts vs ds ps := by
  intro ts
  induction ts with
  | nil =>
    intro vs ds ps _ h _ _
    obtain ⟨rfl, rfl, rfl⟩ := trodAll_nil h
    exact trodAll_mk0
  | cons t ts ih =>
    intro vs ds ps hts h hlt hsp
    obtain ⟨v, vs', d, ds', p, q, rfl, rfl, rfl, hd, hrest⟩ := trodAll_cons h
    refine trodAll_cons_mk (WideElems.Trod_stays hl (hts t (by simp)).1 (hts t (by simp)).2 hd (fun x hx => hb.same (hlt x (by simp [hx]))) (fun x hx => hsp x (by simp [hx]))) ?_
    exact ih (fun u hu => hts u (by simp [hu])) hrest (fun x hx => hlt x (by simp [hx])) (fun x hx => hsp x (by simp [hx]))

theorem law_post {f : Func} {s : ChangeSpec} {apart fresh handsOn again : Bool} {W W' : World} {args : Array Value} {ds gs : List (DataW H)} {before : List MemPlace} {tb : TypeId}
    (hl : laidOutB P = true) (hts : ∀ t ∈ f.params.toList, P.readableRec t = true ∧ t < P.types.size) (hvars : s.vars = []) (hr : f.resultTypes = #[tb]) (hbt : P.underlying tb = some .bool)
    (hfn : s.fn H (ds ++ gs) = { results := [.lit (.bool true)], args := ds })
    (hW : DataW.Whole enc P f.params.toList s.vars apart W args.toList ds gs before) (hb : Below W.heap.size W W') : s.post enc P f apart fresh handsOn again W args (.bool true) W' := by
  have hW' := hW
  obtain ⟨pa, pv, hA, hV, rfl, hz, hn⟩ := hW
  have hV' := hV
  rw [hvars] at hV'
  obtain ⟨rfl, rfl⟩ := trodVars_none hV'
  have hlt : ∀ p ∈ pa ++ [], p.block < W.heap.size := fun p hp => hW'.lt p hp
  have hold : ∀ p ∈ pa ++ [], (fun b => decide (b < W.heap.size)) p.block = true := fun p hp => by simpa using hlt p hp
  have hargs : ∀ sp : Nat → Bool, (∀ p ∈ pa ++ [], sp p.block = true) → DataW.TrodAll enc P W' 0 sp true f.params.toList args.toList (s.fn H (ds ++ [])).args pa := fun sp hsp => by
    rw [hfn]
    exact trodAll_below hl hb hts hA (fun p hp => hlt p (by simpa using hp)) (fun p hp => hsp p (by simpa using hp))
  have hres : ∀ (b : Nat) (sp : Nat → Bool) (hd : Bool), DataW.TrodAll enc P W' b sp hd f.resultTypes.toList ((Value.bool true).resultList f.resultTypes.size) (s.fn H (ds ++ [])).results [] := fun b sp hd => by
    rw [hfn, hr]
    exact trodAll_mk1 (shut_bool hbt true)
  have hvs : ∀ sp : Nat → Bool, (∀ p ∈ pa ++ [], sp p.block = true) → DataW.TrodVars enc P W' sp s.vars (s.fn H (ds ++ [])).vars [] := fun sp _ => by
    rw [hfn, hvars]
    rfl
  refine ⟨ds, [], pa ++ [], [], pa, [], hW', hres _ _ _, hargs _ hold, hvs _ hold, World.keptBut_mono (fun p hp => ⟨hp, ?_⟩) (hb.frame (· ∈ pa ++ [])), fun _ => ?_⟩
  · exact Or.inr (by simpa using hp)
  · refine ⟨ok_one hr rfl (okWide_bool_mk hbt true), _, _, ([] ++ pa) ++ [], ⟨[] ++ pa, [], trodAll_append (hargs _ (fun _ _ => rfl)) (hres _ _ _), hvs _ (fun _ _ => rfl), rfl, ?_, ?_⟩, ?_⟩
    · intro b off hp
      have hin : MemPlace.cell b off ∈ pa ++ [] := by simpa using hp
      rw [hb.frozen (hlt _ hin)]
      exact hz b off hin
    · intro ha
      simpa using hn ha
    · intro p hp _
      simpa using hp

/-- A slice of bytes that came in, and what its datum is. -/
theorem open_bytes_at {w : World} {base fuel : Nat} {t e : TypeId} {cs : List Value} {x : DataW H × List MemPlace} {spare : Nat → Bool} {held : Bool} (ht : P.underlying t = some (.slice e)) (he : P.underlying e = some (.int .u8)) (hc : P.cellsOf e = 1)
    (hf : DataW.trod enc P w base spare held fuel t cs = some x) :
    ∃ (A : Option Addr) (n c : Nat) (l : List UInt8), cs = [.slice A n c] ∧ l.length = n ∧ n ≤ c ∧ c ≤ maxLen ∧ RB w A l ∧ ((x.1 = .nil ∧ n = 0) ∨ ∃ es sp, x.1 = .slice es sp ∧ es.length = n) := by
  rcases open_ints ht he hc hf with ⟨hcs, hx⟩ | ⟨a, n, c, zs, hcs, _, hl, hm, hz, hx, hcell, hw⟩
  · exact ⟨none, 0, 0, [], hcs, rfl, by omega, by unfold maxLen; omega, RB.nil_ _ _, Or.inl ⟨by rw [hx], rfl⟩⟩
  · have hnz : n ≤ zs.length := by rw [hz]; split <;> omega
    refine ⟨some a, n, c, (zs.take n).map fun z => UInt8.ofNat z.toNat, hcs, by simp; omega, hl, hm, fun k hk => ?_, Or.inr ⟨_, _, by rw [hx], by simp [lits]; omega⟩⟩
    have hk' : k < n := by simp at hk; omega
    refine ⟨a, rfl, ?_⟩
    have hkz : k < zs.length := by omega
    rw [hcell k hkz]
    have hwk := hw zs[k] (List.getElem_mem hkz)
    have hb := bounds_u8 hwk
    have e1 : zs.getD k 0 = zs[k] := by simp [List.getD, hkz]
    rw [e1]
    congr 2
    simp
    omega
theorem open_bytes {w : World} {base : Nat} {r : Reach} {b0 : Nat} {t e : TypeId} {v : Value} {d : DataW H} {ps : List MemPlace} {spare : Nat → Bool} {held : Bool} (ht : P.underlying t = some (.slice e)) (he : P.underlying e = some (.int .u8)) (hc : P.cellsOf e = 1)
    (hv : Value.okWide P w r b0 t v) (h : DataW.Trod enc P w base spare held t v d ps) :
    ∃ (A : Option Addr) (n c : Nat) (l : List UInt8), v = .slice A n c ∧ l.length = n ∧ n ≤ c ∧ c ≤ maxLen ∧ RB w A l := by
  obtain ⟨a0, n, c, rfl⟩ := okWide_slice ht hv
  obtain ⟨fuel, hf⟩ := h
  obtain ⟨A, n', c', l, hcs, h1, h2, h3, h4, _⟩ := open_bytes_at ht he hc hf
  simp [Value.cells] at hcs
  obtain ⟨rfl, rfl, rfl⟩ := hcs
  exact ⟨_, _, _, l, rfl, h1, h2, h3, h4⟩
/-- An array of two slices of bytes. -/
theorem open_bytes2 {w : World} {base : Nat} {r : Reach} {b0 : Nat} {t s e : TypeId} {v : Value} {d : DataW H} {ps : List MemPlace} {spare : Nat → Bool} {held : Bool} (ht : P.underlying t = some (.array 2 s)) (hs : P.underlying s = some (.slice e)) (he : P.underlying e = some (.int .u8)) (hc : P.cellsOf e = 1) (hcs : P.cellsOf s = 1) (hct : P.cellsOf t = 2)
    (hv : Value.okWide P w r b0 t v) (h : DataW.Trod enc P w base spare held t v d ps) :
    ∃ (A0 : Option Addr) (n0 c0 : Nat) (l0 : List UInt8) (A1 : Option Addr) (n1 c1 : Nat) (l1 : List UInt8) (x0 x1 : DataW H), v = .agg #[.slice A0 n0 c0, .slice A1 n1 c1] ∧ d = .agg [x0, x1] ∧
      (l0.length = n0 ∧ n0 ≤ c0 ∧ c0 ≤ maxLen ∧ RB w A0 l0 ∧ ((x0 = .nil ∧ n0 = 0) ∨ ∃ es sp, x0 = .slice es sp ∧ es.length = n0)) ∧
      (l1.length = n1 ∧ n1 ≤ c1 ∧ c1 ≤ maxLen ∧ RB w A1 l1 ∧ ((x1 = .nil ∧ n1 = 0) ∨ ∃ es sp, x1 = .slice es sp ∧ es.length = n1)) := by
  unfold Value.okWide at hv
  rw [ht] at hv
  obtain ⟨cs, rfl, hsz, _⟩ := hv
  rw [hct] at hsz
  obtain ⟨fuel, hf⟩ := h
  obtain ⟨xs, m, _, hx, hlen, hxl, hg⟩ := DataW.trod_array ht hf
  obtain ⟨l⟩ := cs
  match l, hsz with
  | [u0, u1], _ =>
  match xs, hxl with
  | [y0, y1], _ =>
    have g0 := hg 0 (by omega)
    have g1 := hg 1 (by omega)
    rw [hcs] at g0 g1
    simp [Value.cells] at g0 g1
    obtain ⟨A0, n0, c0, l0, e0, h0⟩ := open_bytes_at hs he hc g0
    obtain ⟨A1, n1, c1, l1, e1, h1⟩ := open_bytes_at hs he hc g1
    simp at e0 e1
    subst e0; subst e1
    simp only [Prod.mk.injEq] at hx
    exact ⟨A0, n0, c0, l0, A1, n1, c1, l1, y0.1, y1.1, rfl, hx.1, h0, h1⟩

/-- An array of integers, by value. -/
theorem open_int_array {w : World} {base : Nat} {r : Reach} {b0 : Nat} {t e : TypeId} {n : Nat} {k : IntKind} {v : Value} {d : DataW H} {ps : List MemPlace} {spare : Nat → Bool} {held : Bool} (ht : P.underlying t = some (.array n e)) (he : P.underlying e = some (.int k)) (hc : P.cellsOf e = 1) (hct : P.cellsOf t = n)
    (hv : Value.okWide P w r b0 t v) (h : DataW.Trod enc P w base spare held t v d ps) :
    ∃ zs : List Int, v = .agg (zs.map (Value.int k)).toArray ∧ zs.length = n ∧ ∀ z ∈ zs, (Lit.int k z).wf = true := by
  unfold Value.okWide at hv
  rw [ht] at hv
  obtain ⟨cs, rfl, hsz, _⟩ := hv
  obtain ⟨fuel, hf⟩ := h
  obtain ⟨xs, m, _, _, hlen, hxl, hg⟩ := DataW.trod_array ht hf
  have hcl : cs.toList.length = n := by simpa [Value.cells, hct] using hlen
  have key : ∀ i (hi : i < n), ∃ z, cs.toList[i]'(by omega) = .int k z ∧ (Lit.int k z).wf = true := by
    intro i hi
    have h1 := hg i hi
    rw [hc, Nat.mul_one] at h1
    have e1 : ((Value.agg cs).cells.toList.drop i).take 1 = [cs.toList[i]'(by omega)] := by
      show ((cs.toList).drop i).take 1 = _
      rw [List.drop_eq_getElem_cons (by omega)]
      rfl
    rw [e1, List.getElem?_eq_getElem (by omega)] at h1
    obtain ⟨z, hz, _, hw⟩ := DataW.trod_int he h1
    simp at hz
    exact ⟨z, by simpa using hz, hw⟩
  have hint : ∀ v ∈ cs.toList, ∃ z, v = .int k z ∧ (Lit.int k z).wf = true := by
    intro v hv
    obtain ⟨i, hi, rfl⟩ := List.getElem_of_mem hv
    exact key i (by omega)
  have hmap : ∀ (l : List Value), (∀ v ∈ l, ∃ z, v = .int k z ∧ (Lit.int k z).wf = true) → ∃ zs : List Int, l = zs.map (Value.int k) ∧ ∀ z ∈ zs, (Lit.int k z).wf = true := by
    intro l
    induction l with
    | nil => intro _; exact ⟨[], rfl, by simp⟩
    | cons v l ih =>
      intro hl
      obtain ⟨z, rfl, hw⟩ := hl v (by simp)
      obtain ⟨zs, rfl, hws⟩ := ih (fun u hu => hl u (by simp [hu]))
      exact ⟨z :: zs, rfl, by simpa using ⟨hw, hws⟩⟩
  obtain ⟨zs, hzs, hw⟩ := hmap _ hint
  refine ⟨zs, ?_, by rw [← hcl, hzs]; simp, hw⟩
  congr 1
  rw [← hzs]
end

theorem bcells_of_ints (zs : List Int) (hw : ∀ z ∈ zs, (Lit.int .u8 z).wf = true) : (zs.map (Value.int .u8)).toArray = bcells (zs.map fun z => UInt8.ofNat z.toNat) := by
  unfold bcells
  congr 1
  rw [List.map_map]
  apply List.map_congr_left
  intro z hz
  have hb := bounds_u8 (hw z hz)
  simp only [Function.comp_apply]
  congr 1
  simp
  omega
/-- An array of bytes, by value. -/
theorem open_byte_array {H : Type} {enc : TypeId × Value → H} {P : Program} {w : World} {base : Nat} {r : Reach} {b0 : Nat} {t e : TypeId} {n : Nat} {v : Value} {d : DataW H} {ps : List MemPlace} {spare : Nat → Bool} {held : Bool} (ht : P.underlying t = some (.array n e)) (he : P.underlying e = some (.int .u8)) (hc : P.cellsOf e = 1) (hct : P.cellsOf t = n)
    (hv : Value.okWide P w r b0 t v) (h : DataW.Trod enc P w base spare held t v d ps) : ∃ L : List UInt8, v = .agg (bcells L) ∧ L.length = n := by
  obtain ⟨zs, rfl, hz, hw⟩ := open_int_array ht he hc hct hv h
  exact ⟨_, by rw [bcells_of_ints zs hw], by simpa using hz⟩
theorem list_two {α : Type} {l : List α} (h : l.length = 2) : ∃ a b, l = [a, b] := by
  match l, h with
  | [a, b], _ => exact ⟨a, b, rfl⟩
theorem list_three {α : Type} {l : List α} (h : l.length = 3) : ∃ a b c, l = [a, b, c] := by
  match l, h with
  | [a, b, c], _ => exact ⟨a, b, c, rfl⟩

end Go.Proofs.Ytmcinaigkjfehaa

/-
  Patches of a block's bytes: which may be, what laying one makes, what it takes the place of; and the runs in which two blocks are unlike. Plain; no program is named here.
-/
namespace Go.Proofs.Ytmcinaigkjfehaa

/-- A number and some bytes. -/
structure Pt where
  at_ : Int
  data : List UInt8
instance : Inhabited Pt := ⟨⟨0, []⟩⟩
/-- May it be? -/
def Pt.right (p : Pt) : Bool := decide (1 ≤ p.data.length ∧ p.data.length ≤ 256 ∧ 0 ≤ p.at_ ∧ p.at_ ≤ 256 - (p.data.length : Int))
theorem Pt.right_iff {p : Pt} : p.right = true ↔ 1 ≤ p.data.length ∧ p.data.length ≤ 256 ∧ 0 ≤ p.at_ ∧ p.at_ ≤ 256 - (p.data.length : Int) := by unfold Pt.right; simp
/-- Where it begins. -/
def Pt.lo (p : Pt) : Nat := p.at_.toNat
/-- Is a byte in it? -/
def Pt.has (p : Pt) (i : Nat) : Bool := p.right && decide (p.lo ≤ i ∧ i < p.lo + p.data.length)
theorem Pt.has_iff {p : Pt} {i : Nat} : p.has i = true ↔ p.right = true ∧ p.lo ≤ i ∧ i < p.lo + p.data.length := by unfold Pt.has; simp
theorem Pt.has_lt {p : Pt} {i : Nat} (h : p.has i = true) : i < 256 := by
  obtain ⟨h1, h2, h3⟩ := Pt.has_iff.1 h
  have := Pt.right_iff.1 h1
  unfold Pt.lo at *
  omega
/-- A block with it. -/
def layP (L : List UInt8) (p : Pt) : List UInt8 := if p.right then splice L p.lo p.data else L
theorem Pt.fits {p : Pt} (h : p.right = true) {L : List UInt8} (hL : L.length = 256) : p.lo + p.data.length ≤ L.length := by
  have := Pt.right_iff.1 h
  unfold Pt.lo
  omega
theorem layP_len {L : List UInt8} (p : Pt) (hL : L.length = 256) : (layP L p).length = 256 := by
  unfold layP
  split
  · rename_i h; rw [splice_len _ _ _ (Pt.fits h hL), hL]
  · exact hL
theorem layP_get {L : List UInt8} (p : Pt) (hL : L.length = 256) (i : Nat) : (layP L p)[i]? = if p.has i then p.data[i - p.lo]? else L[i]? := by
  unfold layP Pt.has
  by_cases h : p.right = true
  · rw [if_pos h, splice_get _ _ _ (Pt.fits h hL), h]
    simp only [Bool.true_and, decide_eq_true_eq]
  · rw [if_neg h]
    have h' : p.right = false := by simpa using h
    rw [h']
    simp
theorem layP_wrong {L : List UInt8} {p : Pt} (h : p.right = false) : layP L p = L := by unfold layP; rw [h]; rfl
/-- All, one behind the other. -/
def layAll (L : List UInt8) (l : List Pt) : List UInt8 := l.foldl layP L
theorem layAll_len {L : List UInt8} (l : List Pt) (hL : L.length = 256) : (layAll L l).length = 256 := by
  induction l generalizing L with
  | nil => exact hL
  | cons p l ih => exact ih (layP_len p hL)
theorem layAll_snoc (L : List UInt8) (l : List Pt) (p : Pt) : layAll L (l ++ [p]) = layP (layAll L l) p := by unfold layAll; rw [List.foldl_append]; rfl
/-- Do two meet? -/
def meetP (p q : Pt) : Bool := (List.range 256).any fun i => p.has i && q.has i
theorem meetP_iff {p q : Pt} : meetP p q = true ↔ ∃ i, p.has i = true ∧ q.has i = true := by
  unfold meetP
  rw [List.any_eq_true]
  constructor
  · rintro ⟨i, _, h⟩
    exact ⟨i, by simpa using h⟩
  · rintro ⟨i, h1, h2⟩
    exact ⟨i, by simpa using Pt.has_lt h1, by simp [h1, h2]⟩
/-- Told by where they begin and end. -/
theorem meetP_ends (p q : Pt) : meetP p q = (p.right && q.right && decide (p.at_ < q.at_ + q.data.length) && decide (q.at_ < p.at_ + p.data.length)) := by
  rw [Bool.eq_iff_iff, meetP_iff]
  simp only [Bool.and_eq_true, decide_eq_true_eq]
  constructor
  · rintro ⟨i, h1, h2⟩
    obtain ⟨a1, a2, a3⟩ := Pt.has_iff.1 h1
    obtain ⟨b1, b2, b3⟩ := Pt.has_iff.1 h2
    have := Pt.right_iff.1 a1
    have := Pt.right_iff.1 b1
    unfold Pt.lo at *
    exact ⟨⟨⟨a1, b1⟩, by omega⟩, by omega⟩
  · rintro ⟨⟨⟨a1, b1⟩, h1⟩, h2⟩
    have r1 := Pt.right_iff.1 a1
    have r2 := Pt.right_iff.1 b1
    refine ⟨max p.lo q.lo, Pt.has_iff.2 ⟨a1, by omega, ?_⟩, Pt.has_iff.2 ⟨b1, by omega, ?_⟩⟩ <;> (unfold Pt.lo; omega)
/-- What it takes the place of. -/
def wasP (L : List UInt8) (p : Pt) : Pt := if p.right then ⟨p.at_, (L.drop p.lo).take p.data.length⟩ else ⟨0, []⟩
theorem wasP_right {L : List UInt8} {p : Pt} (hL : L.length = 256) (h : p.right = true) : wasP L p = ⟨p.at_, (L.drop p.lo).take p.data.length⟩ ∧ (wasP L p).data.length = p.data.length ∧ (wasP L p).right = true ∧ (wasP L p).lo = p.lo := by
  have hf := Pt.fits h hL
  have e : wasP L p = ⟨p.at_, (L.drop p.lo).take p.data.length⟩ := by unfold wasP; rw [if_pos h]
  have hl : ((L.drop p.lo).take p.data.length).length = p.data.length := by simp; omega
  refine ⟨e, by rw [e]; exact hl, ?_, by rw [e]; rfl⟩
  rw [e]
  have := Pt.right_iff.1 h
  apply Pt.right_iff.2
  simp only [hl]
  exact this
theorem wasP_wrong {L : List UInt8} {p : Pt} (h : p.right = false) : wasP L p = ⟨0, []⟩ := by unfold wasP; rw [h]; rfl
theorem wasP_has {L : List UInt8} {p : Pt} (hL : L.length = 256) (i : Nat) : (wasP L p).has i = p.has i := by
  cases h : p.right
  · rw [wasP_wrong h]; unfold Pt.has; rw [h]; rfl
  · obtain ⟨_, h2, h3, h4⟩ := wasP_right hL h
    unfold Pt.has
    rw [h2, h3, h4, h]
theorem wasP_get {L : List UInt8} {p : Pt} {i : Nat} (hL : L.length = 256) (h : p.has i = true) : (wasP L p).data[i - (wasP L p).lo]? = L[i]? := by
  obtain ⟨h1, h2, h3⟩ := Pt.has_iff.1 h
  obtain ⟨e, _, _, h4⟩ := wasP_right hL h1
  rw [h4, e]
  show ((L.drop p.lo).take p.data.length)[i - p.lo]? = _
  rw [List.getElem?_take_of_lt (by omega), List.getElem?_drop]
  congr 1; omega
/-- What was there takes it back. -/
theorem lay_back {L : List UInt8} (p : Pt) (hL : L.length = 256) : layP (layP L p) (wasP L p) = L := by
  apply List.ext_getElem?
  intro i
  rw [layP_get _ (layP_len p hL), wasP_has hL, layP_get p hL]
  cases h : p.has i
  · rfl
  · rw [if_pos rfl, wasP_get hL h]
theorem lay_twice {L : List UInt8} (p : Pt) (hL : L.length = 256) : layP (layP L p) p = layP L p := by
  apply List.ext_getElem?
  intro i
  rw [layP_get _ (layP_len p hL), layP_get p hL]
  cases h : p.has i <;> rfl
theorem lay_swap {L : List UInt8} (p q : Pt) (hL : L.length = 256) (h : meetP p q = false) : layP (layP L p) q = layP (layP L q) p := by
  apply List.ext_getElem?
  intro i
  rw [layP_get _ (layP_len p hL), layP_get _ (layP_len q hL), layP_get p hL, layP_get q hL]
  cases h1 : p.has i <;> cases h2 : q.has i
  · rfl
  · rfl
  · rfl
  · rw [meetP_iff.2 ⟨i, h1, h2⟩] at h; cases h
/-- The one that is laid last is there whole. -/
theorem lay_last {L : List UInt8} (q : Pt) (hL : L.length = 256) (h : q.right = true) : wasP (layP L q) q = q := by
  have hL' := layP_len q hL
  obtain ⟨e, h2, _, h4⟩ := wasP_right hL' h
  have hd : ((layP L q).drop q.lo).take q.data.length = q.data := by
    apply List.ext_getElem?
    intro k
    by_cases hk : k < q.data.length
    · rw [List.getElem?_take_of_lt hk, List.getElem?_drop, layP_get q hL, if_pos (Pt.has_iff.2 ⟨h, by omega, by omega⟩)]
      congr 1; omega
    · rw [List.getElem?_eq_none (by simp; omega), List.getElem?_eq_none (by omega)]
  rw [e, hd]

/-! ### Runs -/
/-- Of the first k the runs of those that are so: where each begins, and how long it is. -/
def runsTo (u : Nat → Bool) : Nat → List (Nat × Nat)
  | 0 => []
  | k + 1 => if u k then (if k = 0 ∨ u (k - 1) = false then runsTo u k ++ [(k, 1)] else (runsTo u k).dropLast ++ [(((runsTo u k).getLastD (0, 0)).1, ((runsTo u k).getLastD (0, 0)).2 + 1)]) else runsTo u k
theorem runs_off (u : Nat → Bool) (k : Nat) (h : u k = false) : runsTo u (k + 1) = runsTo u k := by
  show (if u k then _ else _) = _
  rw [h]; rfl
theorem runs_new (u : Nat → Bool) (k : Nat) (h : u k = true) (hb : k = 0 ∨ u (k - 1) = false) : runsTo u (k + 1) = runsTo u k ++ [(k, 1)] := by
  show (if u k then _ else _) = _
  rw [h, if_pos rfl, if_pos hb]
theorem runs_more (u : Nat → Bool) (k s n : Nat) (l : List (Nat × Nat)) (h : u k = true) (hb : k ≠ 0 ∧ u (k - 1) = true) (e : runsTo u k = l ++ [(s, n)]) : runsTo u (k + 1) = l ++ [(s, n + 1)] := by
  show (if u k then _ else _) = _
  rw [h, if_pos rfl, if_neg (by rw [hb.2]; simp; exact hb.1), e]
  simp
/-- A whole run, from where it begins. -/
theorem runs_run (u : Nat → Bool) (s n : Nat) (h0 : s = 0 ∨ u (s - 1) = false) (h : ∀ j, s ≤ j → j < s + (n + 1) → u j = true) : runsTo u (s + (n + 1)) = runsTo u s ++ [(s, n + 1)] := by
  induction n with
  | zero => exact runs_new u s (h s (by omega) (by omega)) h0
  | succ n ih =>
    have h1 := ih (fun j j1 j2 => h j j1 (by omega))
    exact runs_more u (s + (n + 1)) s (n + 1) _ (h _ (by omega) (by omega)) ⟨by omega, h _ (by omega) (by omega)⟩ h1
/-- Such runs as they must be: each is so throughout, begins and ends where it must, and they rise. -/
structure RunsOk (u : Nat → Bool) (k : Nat) (l : List (Nat × Nat)) : Prop where
  pos : ∀ r ∈ l, 1 ≤ r.2 ∧ r.1 + r.2 ≤ k
  in_ : ∀ r ∈ l, ∀ j, r.1 ≤ j → j < r.1 + r.2 → u j = true
  all : ∀ j, j < k → u j = true → ∃ r ∈ l, r.1 ≤ j ∧ j < r.1 + r.2
  rise : List.Pairwise (fun r s => r.1 + r.2 < s.1) l
  last : ∀ l' r, l = l' ++ [r] → k ≠ 0 → u (k - 1) = true → r.1 + r.2 = k
  gap : k ≠ 0 → u (k - 1) = false → ∀ r ∈ l, r.1 + r.2 < k
theorem runs_ok (u : Nat → Bool) (k : Nat) : RunsOk u k (runsTo u k) := by
  induction k with
  | zero => exact ⟨by simp [runsTo], by simp [runsTo], fun j h => by omega, by simp [runsTo], fun _ _ _ h => by simp at h, fun h => by simp at h⟩
  | succ k ih =>
    cases hu : u k
    · rw [runs_off u k hu]
      refine ⟨fun r hr => ?_, ih.in_, fun j hj huj => ?_, ih.rise, fun l' r _ _ h => ?_, fun _ _ r hr => ?_⟩
      · have := ih.pos r hr; omega
      · by_cases hjk : j = k
        · rw [hjk, hu] at huj; cases huj
        · exact ih.all j (by omega) huj
      · rw [show k + 1 - 1 = k by omega, hu] at h; cases h
      · have := ih.pos r hr; omega
    · by_cases hb : k = 0 ∨ u (k - 1) = false
      · rw [runs_new u k hu hb]
        have hgap : ∀ r ∈ runsTo u k, r.1 + r.2 < k := fun r hr => by
          rcases hb with hb | hb
          · subst hb; simp [runsTo] at hr
          · by_cases hk : k = 0
            · subst hk; simp [runsTo] at hr
            · exact ih.gap hk hb r hr
        refine ⟨fun r hr => ?_, fun r hr j j1 j2 => ?_, fun j hj huj => ?_, ?_, fun l' r e _ _ => ?_, fun _ h => ?_⟩
        · rw [List.mem_append, List.mem_singleton] at hr
          rcases hr with hr | rfl
          · have := ih.pos r hr; omega
          · show 1 ≤ 1 ∧ k + 1 ≤ k + 1; omega
        · rw [List.mem_append, List.mem_singleton] at hr
          rcases hr with hr | rfl
          · exact ih.in_ r hr j j1 j2
          · have : j = k := by simp at j1 j2; omega
            rw [this]; exact hu
        · by_cases hjk : j = k
          · exact ⟨(k, 1), by simp, by simp [hjk]⟩
          · obtain ⟨r, hr, h1⟩ := ih.all j (by omega) huj
            exact ⟨r, by simp [hr], h1⟩
        · rw [List.pairwise_append]
          exact ⟨ih.rise, by simp, fun r hr s hs => by rw [List.mem_singleton] at hs; rw [hs]; exact hgap r hr⟩
        · obtain ⟨_, e2⟩ := List.append_inj' e rfl
          simp at e2; rw [← e2]
        · rw [show k + 1 - 1 = k by omega, hu] at h; cases h
      · have hk : k ≠ 0 ∧ u (k - 1) = true := by
          refine ⟨fun h => hb (Or.inl h), ?_⟩
          cases h : u (k - 1)
          · exact absurd (Or.inr h) hb
          · rfl
        obtain ⟨r0, hr0, h0⟩ := ih.all (k - 1) (by omega) hk.2
        obtain ⟨l, r, e⟩ : ∃ l r, runsTo u k = l ++ [r] := by
          cases hl : runsTo u k with
          | nil => rw [hl] at hr0; simp at hr0
          | cons x xs => exact ⟨_, _, (List.dropLast_concat_getLast (by simp)).symm⟩
        obtain ⟨s, n⟩ := r
        have hlast := ih.last l (s, n) e hk.1 hk.2
        rw [runs_more u k s n l hu hk e]
        have hpos := ih.pos
        have hin := ih.in_
        have hall := ih.all
        have hrise := ih.rise
        rw [e] at hpos hin hall hrise
        rw [List.pairwise_append] at hrise
        simp only at hlast
        refine ⟨fun r hr => ?_, fun r hr j j1 j2 => ?_, fun j hj huj => ?_, ?_, fun l' r e _ _ => ?_, fun _ h => ?_⟩
        · rw [List.mem_append, List.mem_singleton] at hr
          rcases hr with hr | rfl
          · have := hpos r (by simp [hr]); omega
          · show 1 ≤ n + 1 ∧ s + (n + 1) ≤ k + 1; omega
        · rw [List.mem_append, List.mem_singleton] at hr
          rcases hr with hr | rfl
          · exact hin r (by simp [hr]) j j1 j2
          · simp only at j1 j2
            by_cases hjk : j = k
            · rw [hjk]; exact hu
            · exact hin (s, n) (by simp) j j1 (by show j < s + n; omega)
        · by_cases hjk : j = k
          · exact ⟨(s, n + 1), by simp, by show s ≤ j ∧ j < s + (n + 1); omega⟩
          · obtain ⟨r, hr, h1⟩ := hall j (by omega) huj
            rw [List.mem_append, List.mem_singleton] at hr
            rcases hr with hr | rfl
            · exact ⟨r, by simp [hr], h1⟩
            · exact ⟨(s, n + 1), by simp, by show s ≤ j ∧ j < s + (n + 1); simp only at h1; omega⟩
        · rw [List.pairwise_append]
          exact ⟨hrise.1, by simp, fun r hr t ht => by rw [List.mem_singleton] at ht; rw [ht]; exact hrise.2.2 r hr (s, n) (by simp)⟩
        · obtain ⟨_, e2⟩ := List.append_inj' e rfl
          simp at e2
          rw [← e2]
          show s + (n + 1) = k + 1
          omega
        · rw [show k + 1 - 1 = k by omega, hu] at h; cases h

end Go.Proofs.Ytmcinaigkjfehaa

/-
  What a row asks of the parameters' types, whatever their number; a list of texts that came in.
-/
namespace Go.Proofs.Ytmcinaigkjfehaa
open Go.ChangeShapes Go.WideShapes Go.ChangeAt Go.RowKit

theorem readable_all {P : Program} {f : Func} (h : (f.params.toList.all fun t => P.readableRec t && decide (t < P.types.size)) = true) : ∀ t ∈ f.params.toList, P.readableRec t = true ∧ t < P.types.size := fun t ht => by
  have := List.all_eq_true.1 h t ht
  simpa using this

section
variable {H : Type} {enc : TypeId × Value → H} {P : Program}
/-- A slice of texts that came in. -/
theorem open_texts {w : World} {base : Nat} {r : Reach} {b0 : Nat} {t e : TypeId} {v : Value} {d : DataW H} {ps : List MemPlace} {spare : Nat → Bool} {held : Bool} (ht : P.underlying t = some (.slice e)) (he : P.underlying e = some .string) (hc : P.cellsOf e = 1)
    (hv : Value.okWide P w r b0 t v) (h : DataW.Trod enc P w base spare held t v d ps) :
    ∃ (A : Option Addr) (n c : Nat) (l : List ByteArray), v = .slice A n c ∧ l.length = n ∧ n ≤ c ∧ c ≤ maxLen ∧ RC w A (svals l) ∧ ∀ s ∈ l, s.size ≤ maxLen := by
  obtain ⟨a0, n, c, rfl⟩ := okWide_slice ht hv
  obtain ⟨fuel, hf⟩ := h
  rcases open_strings ht he hc hf with ⟨hcs, _⟩ | ⟨a, n', c', ss, hcs, _, hl, hm, hlen, _, hcell, hs⟩
  · simp [Value.cells] at hcs
    obtain ⟨rfl, rfl, rfl⟩ := hcs
    exact ⟨none, 0, 0, [], rfl, rfl, by omega, by unfold maxLen; omega, RC.nil_ _ _, by simp⟩
  · simp [Value.cells] at hcs
    obtain ⟨rfl, rfl, rfl⟩ := hcs
    have hnl : n ≤ ss.length := by rw [hlen]; split <;> omega
    refine ⟨some a, n, c, ss.take n, rfl, by simp; omega, hl, hm, fun k hk => ⟨a, rfl, ?_⟩, fun s h => hs s (List.mem_of_mem_take h)⟩
    have hk' : k < n := by simp [svals] at hk; omega
    rw [hcell k (by omega)]
    simp [svals, List.getD, show k < ss.length by omega]
end

end Go.Proofs.Ytmcinaigkjfehaa

/-
  Structs of a number and a slice of bytes that came in, and slices of these. Plain; no program is named here.
-/
namespace Go.Proofs.Ytmcinaigkjfehaa
open Go.ChangeShapes Go.WideShapes Go.ChangeAt Go.RowKit

/-- Two cells that read as a number and a slice of these bytes. -/
structure RP (w : World) (v0 v1 : Value) (p : Pt) : Prop where
  num : v0 = .int .i64 p.at_
  lo : -9223372036854775808 ≤ p.at_
  hi : p.at_ < 9223372036854775808
  bytes : ∃ A c, v1 = .slice A p.data.length c ∧ p.data.length ≤ c ∧ c ≤ maxLen ∧ RB w A p.data
theorem RP.below {w w' : World} {v0 v1 : Value} {p : Pt} (h : RP w v0 v1 p) (hb : Below w.heap.size w w') : RP w' v0 v1 p := by
  obtain ⟨A, c, e, h1, h2, h3⟩ := h.bytes
  exact ⟨h.num, h.lo, h.hi, A, c, e, h1, h2, h3.below hb⟩
/-- A slice with this address reads as these numbers and bytes. -/
def RPL (w : World) (A : Option Addr) (l : List Pt) : Prop :=
  ∀ k (h : k < l.length), ∃ ad v0 v1, A = some ad ∧ w.cell? (ad.add (k * 2)) = some v0 ∧ w.cell? (ad.add (k * 2 + 1)) = some v1 ∧ RP w v0 v1 l[k]
theorem RPL.below {w w' : World} {A : Option Addr} {l : List Pt} (h : RPL w A l) (hb : Below w.heap.size w w') : RPL w' A l := fun k hk => by
  obtain ⟨ad, v0, v1, e, h0, h1, hp⟩ := h k hk
  exact ⟨ad, v0, v1, e, by rw [hb.cell (block_lt_of_cell h0), h0], by rw [hb.cell (block_lt_of_cell h1), h1], hp.below hb⟩

section
variable {H : Type} {enc : TypeId × Value → H} {P : Program}
theorem open_patch_at {w : World} {base fuel : Nat} {s e : TypeId} {f0 f1 : Field} {spare : Nat → Bool} {held : Bool} {c0 c1 : Value} {x : DataW H × List MemPlace}
    (hs : P.underlying s = some (.struct #[f0, f1])) (h0 : P.underlying f0.type = some (.int .i64)) (k0 : P.cellsOf f0.type = 1) (h1 : P.underlying f1.type = some (.slice e)) (k1 : P.cellsOf f1.type = 1) (he : P.underlying e = some (.int .u8)) (hc : P.cellsOf e = 1)
    (o0 : f0.offset = 0) (o1 : f1.offset = 1)
    (h : DataW.trod enc P w base spare held fuel s [c0, c1] = some x) : ∃ p, RP w c0 c1 p := by
  obtain ⟨y0, y1, n, hx, _, g0, g1⟩ := trod_struct2 hs h
  rw [o0, k0] at g0
  rw [o1, k1] at g1
  simp at g0 g1
  obtain ⟨z, e0, -, wz⟩ := DataW.trod_int h0 g0
  obtain ⟨A, m, c, l, e1, hl, hm, hcm, hr, _⟩ := open_bytes_at h1 he hc g1
  simp at e0 e1
  subst e0; subst e1; subst hl
  have bz := bounds_i64 wz
  exact ⟨⟨z, l⟩, rfl, bz.1, by show z < _; omega, A, c, rfl, hm, hcm, hr⟩
/-- A struct of a number and a slice of bytes, by value. -/
theorem open_patch {w : World} {base : Nat} {r : Reach} {b0 : Nat} {s e : TypeId} {f0 f1 : Field} {v : Value} {d : DataW H} {ps : List MemPlace} {spare : Nat → Bool} {held : Bool}
    (hs : P.underlying s = some (.struct #[f0, f1])) (hC : P.cellsOf s = 2) (h0 : P.underlying f0.type = some (.int .i64)) (k0 : P.cellsOf f0.type = 1) (h1 : P.underlying f1.type = some (.slice e)) (k1 : P.cellsOf f1.type = 1) (he : P.underlying e = some (.int .u8)) (hc : P.cellsOf e = 1)
    (o0 : f0.offset = 0) (o1 : f1.offset = 1) (hv : Value.okWide P w r b0 s v) (h : DataW.Trod enc P w base spare held s v d ps) : ∃ v0 v1 p, v = .agg #[v0, v1] ∧ RP w v0 v1 p := by
  obtain ⟨cs, rfl, hsz⟩ := okWide_struct hs hv
  rw [hC] at hsz
  obtain ⟨l⟩ := cs
  match l, hsz with
  | [c0, c1], _ =>
    obtain ⟨fuel, hf⟩ := h
    obtain ⟨p, hp⟩ := open_patch_at (c0 := c0) (c1 := c1) hs h0 k0 h1 k1 he hc o0 o1 (by simpa [Value.cells] using hf)
    exact ⟨c0, c1, p, rfl, hp⟩
/-- A slice of such structs. -/
theorem open_patches {w : World} {base : Nat} {r : Reach} {b0 : Nat} {t s e : TypeId} {f0 f1 : Field} {v : Value} {d : DataW H} {ps : List MemPlace} {held : Bool} (ht : P.underlying t = some (.slice s))
    (hs : P.underlying s = some (.struct #[f0, f1])) (hC : P.cellsOf s = 2) (h0 : P.underlying f0.type = some (.int .i64)) (k0 : P.cellsOf f0.type = 1) (h1 : P.underlying f1.type = some (.slice e)) (k1 : P.cellsOf f1.type = 1) (he : P.underlying e = some (.int .u8)) (hc : P.cellsOf e = 1)
    (o0 : f0.offset = 0) (o1 : f1.offset = 1) (hv : Value.okWide P w r b0 t v) (h : DataW.Trod enc P w base (fun _ => true) held t v d ps) :
    ∃ (A : Option Addr) (n c : Nat) (l : List Pt), v = .slice A n c ∧ l.length = n ∧ n ≤ c ∧ c ≤ maxLen ∧ RPL w A l := by
  obtain ⟨a0, n, c, rfl⟩ := okWide_slice ht hv
  obtain ⟨fuel, hf⟩ := h
  rcases Go.Deep.open_slice ht hf with ⟨hcs, _⟩ | ⟨a, n', c', m, k, D, Pl, hcs, _, hl, hm, hmm, _, hx⟩
  · simp [Value.cells] at hcs
    obtain ⟨rfl, rfl, rfl⟩ := hcs
    exact ⟨none, 0, 0, [], rfl, rfl, by omega, by unfold maxLen; omega, fun k hk => absurd hk (by simp)⟩
  · simp only [if_true] at hmm
    simp [Value.cells] at hcs
    obtain ⟨rfl, rfl, rfl⟩ := hcs
    rw [hC] at hx
    have hall : ∀ i, i < m → ∃ p : Pt, ∃ v0 v1, w.cell? (a.add (i * 2)) = some v0 ∧ w.cell? (a.add (i * 2 + 1)) = some v1 ∧ RP w v0 v1 p := fun i hi => by
      obtain ⟨cs', g1, g2⟩ := hx i hi
      obtain ⟨_, hlen, hg⟩ := World.cells?_some g1
      match cs', hlen with
      | [c0, c1], _ =>
        obtain ⟨p, hp⟩ := open_patch_at (c0 := c0) (c1 := c1) hs h0 k0 h1 k1 he hc o0 o1 g2
        have e0 := hg 0 (by omega)
        have e1 := hg 1 (by omega)
        rw [add_of_add] at e0 e1
        exact ⟨p, c0, c1, by simpa using e0, by simpa using e1, hp⟩
    obtain ⟨B, hB⟩ := Go.Deep.choose_lt (α := Pt) (p := fun i p => ∃ v0 v1, w.cell? (a.add (i * 2)) = some v0 ∧ w.cell? (a.add (i * 2 + 1)) = some v1 ∧ RP w v0 v1 p) hall
    refine ⟨some a, n, c, (List.range n).map B, rfl, by simp, hl, hm, fun j hj => ?_⟩
    have hj' : j < n := by simpa using hj
    obtain ⟨v0, v1, g0, g1, hp⟩ := hB j (by omega)
    exact ⟨a, v0, v1, rfl, g0, g1, by simpa using hp⟩
end

end Go.Proofs.Ytmcinaigkjfehaa

/-
  More laws on arrays of bytes: a copy from a text, bytes as a text, '!=' of two arrays, a result that is an array beside another one. Plain; no program is named here.
-/
namespace Go.Proofs.Ytmcinaigkjfehaa
open Go.RowKit

section
variable {P : Program} {ops : Array Oper} {rest : List Oper} {o : Oper} {a : Act} {w : World} {Q : Exit → Act → World → Prop}

/-- copy of a text that fits into a block of bytes. -/
theorem run_copy_text (P : Program) (w : World) (dT sT ty elem : TypeId) (hu : P.underlying dT = some (.slice elem)) (hs : (P.info? elem).map (·.size) = some 1)
    (g off dLen dCap : Nat) (cur : List UInt8) (t : TypeId) (hg : Blk w g t (bcells cur)) (s : ByteArray) (hle : s.size ≤ dLen) (hd : off + dLen ≤ cur.length) :
    (Builtin.copy_ #[dT, sT] ty #[.slice (some ⟨g, off, none⟩) dLen dCap, .string s]).run P w = .ok (.int .i64 (s.size : Int)) (w.setRow g (bcells (splice cur off s.data.toList))) := by
  have hlen : s.data.toList.length = s.size := by simp
  have hst := run_storeCells_at P g off t (s.data.toList.map fun x : UInt8 => Value.int .u8 (x.toNat : Int)) 0 (bcells cur) w hg (by rw [bcells_size]; simp; omega) (by
    intro v hv
    obtain ⟨x, _, rfl⟩ := List.mem_map.1 hv
    rfl)
  have hmin : Nat.min s.size dLen = s.size := Nat.min_eq_left hle
  have htk : List.take s.size (s.data.toList.map fun x : UInt8 => Value.int .u8 (x.toNat : Int)) = s.data.toList.map fun x : UInt8 => Value.int .u8 (x.toNat : Int) := by
    rw [List.take_of_length_le (by rw [List.length_map, hlen]; exact Nat.le_refl _)]
  have e : (List.take (off + 0) (bcells cur).toList ++ (s.data.toList.map fun x : UInt8 => Value.int .u8 (x.toNat : Int)) ++ List.drop (off + 0 + (s.data.toList.map fun x : UInt8 => Value.int .u8 (x.toNat : Int)).length) (bcells cur).toList).toArray = bcells (splice cur off s.data.toList) := by
    simp only [bcells, splice, Nat.add_zero, List.length_map, List.map_append, List.map_take, List.map_drop]
  rw [e] at hst
  obtain ⟨i, hi, _⟩ := Option.map_eq_some_iff.1 hs
  simp [Builtin.copy_, run_underlying hu, Builtin.lenOf, Builtin.firstCells, sizeOf, typeInfo, hi, hmin]
  rw [htk, hst]
  rfl
theorem wpList_copy_text (hgd : Region.wanted o (yielded ops a.tmps) = true) (s x : Operand) (dT sT : TypeId) (ho : o.op = .call { callee := .builtin .copy, args := #[s, x], argTypes := #[dT, sT] }) (elem : TypeId) (hu : P.underlying dT = some (.slice elem)) (hs : (P.info? elem).map (·.size) = some 1)
    (g off dLen dCap : Nat) (cur : List UInt8) (t : TypeId) (hsv : a.eval s = .slice (some ⟨g, off, none⟩) dLen dCap) (hg : Blk w g t (bcells cur)) (d : ByteArray) (hxv : a.eval x = .string d) (hle : d.size ≤ dLen) (hd : off + dLen ≤ cur.length)
    (h : Stop (∀ w', Hid (Only w w' g) → Hid (Blk w' g t (bcells (splice cur off d.data.toList))) → wpList P ops Q rest (a.put o.dst (.int .i64 (d.size : Int))) w')) : wpList P ops Q (o :: rest) a w := by
  refine wpList_wanted hgd fun K hK => ?_
  have hrun := run_copy_text P w dT sT o.type elem hu hs g off dLen dCap cur t hg d hle hd
  unfold Oper.wp execOp
  simp only [ho, resolve, invoke, builtin, Sem.run_bind, Sem.run_pure, Result.andThen_ok, List.map_toArray, List.map_cons, List.map_nil, hsv, hxv, hrun]
  exact hK _ _ (h _ (Only.setRow hg _) (hg.setRow _))

/-- Bytes as a text. -/
theorem run_bytes_text (P : Program) (w : World) (src dst e : TypeId) (hs : P.underlying src = some (.slice e)) (he : P.underlying e = some (.int .u8)) (hd : P.underlying dst = some .string) (ad : Addr) (n c : Nat) (l : List UInt8) (hn : l.length = n) (hr : RB w (some ad) l) :
    (convert src dst (.slice (some ad) n c)).run P w = .ok (.string ⟨l.toArray⟩) w := by
  subst hn
  refine run_convert_bytes_back w src dst e ad c l hs he hd fun j hj => ?_
  obtain ⟨ad', e', hc⟩ := hr j hj
  injection e' with e'
  subst e'
  exact hc
theorem wpList_bytes_text (hgd : Region.wanted o (yielded ops a.tmps) = true) (src dst e : TypeId) (x : Operand) (ho : o.op = .convert src dst x) (hs : P.underlying src = some (.slice e)) (he : P.underlying e = some (.int .u8)) (hd : P.underlying dst = some .string)
    (ad : Addr) (n c : Nat) (hx : a.eval x = .slice (some ad) n c) (l : List UInt8) (hn : l.length = n) (hr : RB w (some ad) l)
    (h : wpList P ops Q rest (a.put o.dst (.string ⟨l.toArray⟩)) w) : wpList P ops Q (o :: rest) a w := by
  refine wpList_wanted hgd fun K hK => ?_
  have hrun := run_bytes_text P w src dst e hs he hd ad n c l hn hr
  unfold Oper.wp execOp
  simp only [ho, hx, Sem.run_bind, Sem.run_pure, Result.andThen_ok, hrun]
  exact hK _ _ h

/-- '!=' on two arrays of bytes. -/
theorem run_neq_bytes (P : Program) (w : World) (t e : TypeId) (n : Nat) (ht : P.underlying t = some (.array n e)) (he : P.underlying e = some (.int .u8)) (hs : (P.info? e).map (·.size) = some 1) (xs ys : List UInt8) (hx : xs.length = n) (hy : ys.length = n) :
    (binOp .neq t (.agg (bcells xs)) (.agg (bcells ys))).run P w = .ok (.bool (!(xs == ys))) w := by
  have h := run_equalIn_bytes (P := P) w 9998 t e n ht he (sizeOf_of hs) xs ys hx hy
  have e1 : (xs.map Extern.Stop.cell).toArray = bcells xs := rfl
  have e2 : (ys.map Extern.Stop.cell).toArray = bcells ys := rfl
  rw [e1, e2] at h
  rw [run_neq_struct, h]
  rfl
theorem wpList_neq_arr (hgd : Region.wanted o (yielded ops a.tmps) = true) (t t' : TypeId) (x y : Operand) (ho : o.op = .binOp .neq t x y t') (hm : P.eqGuardType P.depth t = false) (n e : Nat) (ht : P.underlying t = some (.array n e)) (he : P.underlying e = some (.int .u8)) (hs : (P.info? e).map (·.size) = some 1)
    (xs ys : List UInt8) (hx : a.eval x = .agg (bcells xs)) (hy : a.eval y = .agg (bcells ys)) (hxl : xs.length = n) (hyl : ys.length = n) (r : Bool) (hr : (!(xs == ys)) = r)
    (h : wpList P ops Q rest (a.put o.dst (.bool r)) w) : wpList P ops Q (o :: rest) a w := by
  refine wpList_wanted hgd fun K hK => ?_
  have hrun := run_neq_bytes P w t e n ht he hs xs ys hxl hyl
  rw [hr] at hrun
  unfold Oper.wp execOp
  simp only [ho, hx, hy, Sem.run_bind, run_eqGuard_agg w .neq t x y (bcells xs) (bcells ys) hm, Result.andThen_ok, hrun]
  exact hK _ _ h

/-- The runs of two of these by themselves. -/
theorem exec_neq_arr {o : Oper} (t t' : TypeId) (x y : Operand) (ho : o.op = .binOp .neq t x y t') (hm : P.eqGuardType P.depth t = false) (n e : Nat) (ht : P.underlying t = some (.array n e)) (he : P.underlying e = some (.int .u8)) (hs : (P.info? e).map (·.size) = some 1)
    (xs ys : List UInt8) (hx : a.eval x = .agg (bcells xs)) (hy : a.eval y = .agg (bcells ys)) (hxl : xs.length = n) (hyl : ys.length = n) (r : Bool) (hr : (!(xs == ys)) = r) : (execOp a.eval o).run P w = .ok (.value (.bool r)) w := by
  have hrun := run_neq_bytes P w t e n ht he hs xs ys hxl hyl
  rw [hr] at hrun
  unfold execOp
  simp only [ho, hx, hy, Sem.run_bind, run_eqGuard_agg w .neq t x y (bcells xs) (bcells ys) hm, Result.andThen_ok, hrun]
  rfl
theorem exec_build_zero {o : Oper} (t : TypeId) (ho : o.op = .build t #[]) (cs : Array Value) (hz : (P.info? t).map (·.zero) = some (some (.agg cs))) (n e : Nat) (hu : P.underlying t = some (.array n e)) (he : (P.info? e).map (·.size) = some 1) : (execOp a.eval o).run P w = .ok (.value (.agg cs)) w := by
  unfold execOp
  simp only [ho, Sem.run_bind, List.map_toArray, List.map_nil, run_build_zero P w t cs hz n e hu he, Result.andThen_ok]
  rfl

/-- The first result lies in a block, the second one in a slot. -/
theorem bodyPost_cell_tmp {R : Ending → World → Prop} {fn : Func} {p q : Tmp} {t : TypeId} (hf : fn.results = #[ResultVar.cell p t, ResultVar.tmp q]) (g : Nat) (hp : a.tmps.getD p undef = .pointer (some ⟨g, 0, none⟩)) (t' : TypeId) (cs : Array Value) (hg : Blk w g t' cs)
    (n : Nat) (e : TypeId) (hu : P.underlying t = some (.array n e)) (hi : (P.info? t).map (·.size) = some cs.size) (hd : a.defers = []) (v : Value) (hq : a.tmps.getD q undef = v) (hR : Stop (R (.returned (.tuple #[.agg cs, v])) w)) : bodyPost P fn R .ret a w := by
  refine bodyPost_ret (v := .tuple #[.agg cs, v]) ?_ hd hR
  have hp' : a.tmps[p]?.getD undef = .pointer (some ⟨g, 0, none⟩) := by simpa using hp
  have hq' : a.tmps[q]?.getD undef = v := by simpa using hq
  simp [results, hf, hp', hq', asAddr, run_loadVar_row w g t' t cs (0, 0) _ hg hu rfl hi]
end

end Go.Proofs.Ytmcinaigkjfehaa
