/-
  Texts of this claim joined: Base, PatchA, ReadyA, ReadyB, RollA, GraphA, GraphB, CacheA, ReadyD, CacheB, Kahn.
-/
import Derived.Below
import Derived.Laws.OwnMore
import Derived.Deep.AppendLies
import Derived.Deep.Draws
import Derived.Lib.Hide
import Derived.WalkKit
import Derived.WalkSpells
import Derived.WalkLawsBesides
import Derived.Stop.BytesEq

/-
  Words for bytes in memory: a slice that reads as a list of bytes, an array of bytes as a value. Plain; no program is named here.
-/
namespace Go.Proofs.YtpmbpklbiocclaaGreat
open Go.RowKit


theorem block_of_add (a : Addr) (n : Nat) : (a.add n).block = a.block := by unfold Addr.add; split <;> rfl
theorem add_of_add (a : Addr) (i j : Nat) : (a.add i).add j = a.add (i + j) := by
  unfold Addr.add
  by_cases hi : i = 0 <;> by_cases hj : j = 0 <;> simp [hi, hj, Nat.add_assoc]

def RB (w : World) (A : Option Addr) (l : List UInt8) : Prop :=
  ∀ k (h : k < l.length), ∃ ad, A = some ad ∧ w.cell? (ad.add k) = some (.int .u8 (l[k].toNat : Int))

theorem RB.cut {w : World} {A : Option Addr} {l : List UInt8} (h : RB w A l) (p q : Nat) : RB w (A.map (·.add p)) ((l.drop p).take q) := fun k hk => by
  have hk' : p + k < l.length := by simp at hk; omega
  obtain ⟨ad, e, hc⟩ := h (p + k) hk'
  refine ⟨ad.add p, by rw [e]; rfl, ?_⟩
  rw [add_of_add, hc]
  simp
theorem RB.addr {w : World} {A : Option Addr} {l : List UInt8} (h : RB w A l) (hl : 0 < l.length) : ∃ ad, A = some ad := by
  obtain ⟨ad, e, _⟩ := h 0 hl
  exact ⟨ad, e⟩
theorem RB.nil_ (w : World) (A : Option Addr) : RB w A [] := fun k h => absurd h (by simp)
theorem RB.below {w w' : World} {A : Option Addr} {l : List UInt8} (h : RB w A l) (hb : Below w.heap.size w w') : RB w' A l := fun k hk => by
  obtain ⟨ad, e, hc⟩ := h k hk
  refine ⟨ad, e, ?_⟩
  have hlt : (ad.add k).block < w.heap.size := block_lt_of_cell hc
  rw [hb.cell hlt, hc]


def bcells (l : List UInt8) : Array Value := (l.map fun x => Value.int .u8 (x.toNat : Int)).toArray
theorem bcells_size (l : List UInt8) : (bcells l).size = l.length := by simp [bcells]
theorem bcells_get (l : List UInt8) (k : Nat) : (bcells l)[k]? = (l[k]?).map fun x => Value.int .u8 (x.toNat : Int) := by simp [bcells]

def Blk (w : World) (g : Nat) (t : TypeId) (cs : Array Value) : Prop := w.heap[g]? = some (.cells cs t (0, 0))
structure Only (w w' : World) (g : Nat) : Prop where
  os : w'.os = w.os
  tape : w'.tape = w.tape
  output : w'.output = w.output
  size : w'.heap.size = w.heap.size
  block : ∀ k, k ≠ g → w'.heap[k]? = w.heap[k]?

section
variable {w w' w'' : World} {g : Nat} {t : TypeId} {cs : Array Value}
theorem Blk.lt (h : Blk w g t cs) : g < w.heap.size := by
  rcases Nat.lt_or_ge g w.heap.size with hlt | hge
  · exact hlt
  · unfold Blk at h; rw [Array.getElem?_eq_none hge] at h; cases h
theorem Blk.cell (h : Blk w g t cs) (i : Nat) : w.cell? ⟨g, i, none⟩ = cs[i]? := cell_of_row w g i cs t (0, 0) h
theorem Blk.byte {l : List UInt8} (h : Blk w g t (bcells l)) (i : Nat) (hi : i < l.length) : ∃ x : UInt8, l[i]? = some x ∧ w.cell? ⟨g, i, none⟩ = some (.int .u8 (x.toNat : Int)) :=
  ⟨l[i], List.getElem?_eq_getElem hi, by rw [h.cell, bcells_get, List.getElem?_eq_getElem hi]; rfl⟩
theorem Blk.frozen (h : Blk w g t cs) (i : Nat) : w.frozen? ⟨g, i, none⟩ = false := by
  unfold Blk at h
  simp [World.frozen?, h]
theorem Blk.new (w : World) (t : TypeId) (cs : Array Value) : Blk (w.alloc (.cells cs t)) w.heap.size t cs := heap_alloc_new w _
theorem Blk.alloc (h : Blk w g t cs) (o : Obj) : Blk (w.alloc o) g t cs := (Below.heap_alloc w o g h.lt).trans h
theorem Blk.set_ (h : Blk w g t cs) (i : Nat) (u : Value) : Blk (w.setCell ⟨g, i, none⟩ u) g t (cs.setIfInBounds i u) := by
  unfold Blk at h ⊢
  simp [World.setCell, Array.getElem?_modify, h]
theorem Blk.far (h : Blk w g t cs) {p : Addr} (hp : g ≠ p.block) (u : Value) : Blk (w.setCell p u) g t cs := (Below.heap_setCell w p u g hp).trans h
theorem Blk.below {B : Nat} (h : Blk w g t cs) (hb : Below B w w') (hg : g < B) : Blk w' g t cs := (hb.block g hg).trans h
theorem Blk.only {g' : Nat} (h : Blk w g t cs) (ho : Only w w' g') (hne : g ≠ g') : Blk w' g t cs := (ho.block g hne).trans h
theorem Only.refl (w : World) (g : Nat) : Only w w g := ⟨rfl, rfl, rfl, rfl, fun _ _ => rfl⟩
theorem Only.trans (h : Only w w' g) (h' : Only w' w'' g) : Only w w'' g :=
  ⟨h'.os.trans h.os, h'.tape.trans h.tape, h'.output.trans h.output, h'.size.trans h.size, fun k hk => (h'.block k hk).trans (h.block k hk)⟩
theorem Only.setCell (h : Only w w' g) (i : Nat) (u : Value) : Only w (w'.setCell ⟨g, i, none⟩ u) g :=
  ⟨h.os, h.tape, h.output, by simpa using h.size, fun k hk => (Below.heap_setCell w' ⟨g, i, none⟩ u k hk).trans (h.block k hk)⟩
theorem Only.below {B : Nat} (h : Only w w' g) (hB : B ≤ g) : Below B w w' :=
  ⟨h.os, h.tape, h.output, Nat.le_of_eq h.size.symm, fun k hk => h.block k (by omega)⟩
theorem RB.of_blk {l : List UInt8} (h : Blk w g t cs) (o : Nat) (hl : ∀ k (hk : k < l.length), cs[o + k]? = some (.int .u8 (l[k].toNat : Int))) : RB w (some ⟨g, o, none⟩) l := fun k hk => by
  refine ⟨_, rfl, ?_⟩
  have e : (⟨g, o, none⟩ : Addr).add k = ⟨g, o + k, none⟩ := by unfold Addr.add; split <;> simp_all
  rw [e, h.cell, hl k hk]
end

def splice (L : List UInt8) (o : Nat) (d : List UInt8) : List UInt8 := L.take o ++ d ++ L.drop (o + d.length)
theorem splice_len (L : List UInt8) (o : Nat) (d : List UInt8) (h : o + d.length ≤ L.length) : (splice L o d).length = L.length := by
  simp [splice]; omega
theorem splice_nil (L : List UInt8) (o : Nat) : splice L o [] = L := by simp [splice]
theorem splice_get (L : List UInt8) (o : Nat) (d : List UInt8) (h : o + d.length ≤ L.length) (i : Nat) :
    (splice L o d)[i]? = if o ≤ i ∧ i < o + d.length then d[i - o]? else L[i]? := by
  unfold splice
  rw [List.append_assoc, List.getElem?_append]
  by_cases h1 : i < o
  · rw [if_pos (by simp; omega), if_neg (by omega), List.getElem?_take_of_lt h1]
  · rw [if_neg (by simp; omega), List.getElem?_append]
    have e : (L.take o).length = o := by simp; omega
    rw [e]
    by_cases h2 : i < o + d.length
    · rw [if_pos (by omega), if_pos (by omega)]
    · rw [if_neg (by omega), if_neg (by omega), List.getElem?_drop]
      congr 1; omega

theorem bt {a b c : World} (h : Below a.heap.size a b) (k : Below b.heap.size b c) : Below a.heap.size a c := h.trans (k.mono h.size)
theorem bdrew (w : World) (n : Nat) : Below w.heap.size w (w.drewN n) := ⟨rfl, rfl, rfl, Nat.le_refl _, fun _ _ => rfl⟩
theorem Blk.ext {w w' : World} {g : Nat} {t : TypeId} {cs : Array Value} (h : Blk w g t cs) (e : Below w.heap.size w w') : Blk w' g t cs := h.below e h.lt
theorem bonly {a b c : World} {g : Nat} (h : Below a.heap.size a b) (k : Only b c g) (hg : a.heap.size ≤ g) : Below a.heap.size a c := h.trans (k.below hg)
theorem sizeOf_of {P : Program} {e n : Nat} (h : (P.info? e).map (·.size) = some n) (w : World) : (sizeOf e).run P w = .ok n w := by
  obtain ⟨i, hi, hs⟩ := Option.map_eq_some_iff.1 h
  simp [sizeOf, typeInfo, hi, hs]
def RetQ (v : Value) (w : World) (e : Ending) (w' : World) : Prop := e = .returned v ∧ ∃ k, w' = w.drewN k
def Stop (p : Prop) : Prop := p
theorem Stop.go {p : Prop} (h : p) : Stop p := h
theorem RB.of_blk0 {w : World} {g : Nat} {t : TypeId} {l : List UInt8} (h : Blk w g t (bcells l)) : RB w (some ⟨g, 0, none⟩) l :=
  RB.of_blk h 0 fun k hk => by rw [Nat.zero_add, bcells_get, List.getElem?_eq_getElem hk]; rfl
def zeros (n : Nat) : List UInt8 := List.replicate n 0
theorem zeros_len (n : Nat) : (zeros n).length = n := by simp [zeros]

def Grew (w w' : World) : Prop := Below w.heap.size w w' ∧ w'.heap.size = w.heap.size + 1
theorem Grew.alloc (w : World) (o : Obj) : Grew w (w.alloc o) := ⟨(Below.refl _ _).alloc (Nat.le_refl _) o, by simp⟩
theorem oneCell_bcells (l : List UInt8) : (bcells l).all (·.oneCell') = true := by
  rw [Array.all_eq_true_iff_forall_mem]
  intro v hv
  simp [bcells] at hv
  obtain ⟨x, _, rfl⟩ := hv
  rfl

section
variable {P : Program} {ops : Array Oper} {rest : List Oper} {o : Oper} {a : Act} {w : World} {Q : Exit → Act → World → Prop}

theorem wpList_wanted (hgd : Region.wanted o (yielded ops a.tmps) = true)
    (h : ∀ K : Act → World → Prop, (∀ a w, wpList P ops Q rest a w → K a w) → o.wp P a w K Q) : wpList P ops Q (o :: rest) a w :=
  wpList_step fun K hK => by rw [if_pos hgd]; exact h K hK
theorem run_box_row (P : Program) (w : World) (t : TypeId) (cs : Array Value) : (Instr.box t (.agg cs)).run P w = .ok (.pointer (some ⟨w.heap.size, 0, none⟩)) (w.alloc (.cells cs t)) := by
  simp [Instr.box, newVar, Value.cells]; rfl
theorem run_alloc_row (P : Program) (w : World) (t : TypeId) (cs : Array Value) (hz : (P.info? t).map (·.zero) = some (some (.agg cs))) :
    (Instr.alloc t true (.tuple #[])).run P w = .ok (.pointer (some ⟨w.heap.size, 0, none⟩)) (w.alloc (.cells cs t)) := by
  obtain ⟨i, hi, hiz⟩ := Option.map_eq_some_iff.1 hz
  simp [Instr.alloc, newVar, zeroValue, typeInfo, hi, hiz, Value.cells]; rfl

theorem run_build_zero (P : Program) (w : World) (t : TypeId) (cs : Array Value) (hz : (P.info? t).map (·.zero) = some (some (.agg cs))) (n e : Nat) (hu : P.underlying t = some (.array n e)) (he : (P.info? e).map (·.size) = some 1) :
    (Instr.build t #[]).run P w = .ok (.agg cs) w := by
  obtain ⟨i, hi, hiz⟩ := Option.map_eq_some_iff.1 hz
  obtain ⟨j, hj, hjz⟩ := Option.map_eq_some_iff.1 he
  simp [Instr.build, zeroValue, typeInfo, hi, hiz, Value.cells, run_underlying hu, sizeOf, hj, Instr.fill]
theorem wpList_build_zero (hgd : Region.wanted o (yielded ops a.tmps) = true) (t : TypeId) (ho : o.op = .build t #[]) (cs : Array Value) (hz : (P.info? t).map (·.zero) = some (some (.agg cs))) (n e : Nat) (hu : P.underlying t = some (.array n e)) (he : (P.info? e).map (·.size) = some 1)
    (h : wpList P ops Q rest (a.put o.dst (.agg cs)) w) : wpList P ops Q (o :: rest) a w := by
  refine wpList_wanted hgd fun K hK => ?_
  unfold Oper.wp execOp
  simp only [ho, Sem.run_bind, List.map_toArray, List.map_nil, run_build_zero P w t cs hz n e hu he, Result.andThen_ok]
  exact hK _ _ h

theorem wpList_box_row (hgd : Region.wanted o (yielded ops a.tmps) = true) (t : TypeId) (x : Operand) (ho : o.op = .box t x) (cs : Array Value) (hx : a.eval x = .agg cs)
    (h : Stop (∀ w', Hid (Grew w w') → Hid (Blk w' w.heap.size t cs) → wpList P ops Q rest (a.put o.dst (.pointer (some ⟨w.heap.size, 0, none⟩))) w')) : wpList P ops Q (o :: rest) a w := by
  refine wpList_wanted hgd fun K hK => ?_
  unfold Oper.wp execOp
  simp only [ho, hx, Sem.run_bind, run_box_row, Result.andThen_ok]
  exact hK _ _ (h _ (Grew.alloc w _) (Blk.new w t cs))

theorem wpList_alloc_row (hgd : Region.wanted o (yielded ops a.tmps) = true) (t : TypeId) (ho : o.op = .alloc t) (cs : Array Value) (hz : (P.info? t).map (·.zero) = some (some (.agg cs)))
    (h : Stop (∀ w', Hid (Grew w w') → Hid (Blk w' w.heap.size t cs) → wpList P ops Q rest (a.put o.dst (.pointer (some ⟨w.heap.size, 0, none⟩))) w')) : wpList P ops Q (o :: rest) a w := by
  refine wpList_wanted hgd fun K hK => ?_
  unfold Oper.wp execOp
  simp only [ho, Sem.run_bind, run_alloc_row P w t cs hz, Result.andThen_ok]
  exact hK _ _ (h _ (Grew.alloc w _) (Blk.new w t cs))

theorem wpList_load_arr (hgd : Region.wanted o (yielded ops a.tmps) = true) (t : TypeId) (x : Operand) (ho : o.op = .load t x) (g : Nat) (hx : a.eval x = .pointer (some ⟨g, 0, none⟩)) (t' : TypeId) (cs : Array Value) (hg : Blk w g t' cs)
    (n : Nat) (e : TypeId) (hu : P.underlying t = some (.array n e)) (hi : (P.info? t).map (·.size) = some cs.size)
    (h : wpList P ops Q rest (a.put o.dst (.agg cs)) w) : wpList P ops Q (o :: rest) a w :=
  wpList_wanted hgd fun _ hK => wp_load_row t x ho g hx t' cs (0, 0) _ hg hu rfl hi (hK _ _ h)

theorem Only.setRow {w : World} {g : Nat} {t : TypeId} {old : Array Value} (_h : Blk w g t old) (cs : Array Value) : Only w (w.setRow g cs) g :=
  ⟨rfl, rfl, rfl, size_setRow _ _ _, fun k hk => setRow_other w g k cs hk⟩
theorem Blk.setRow {w : World} {g : Nat} {t : TypeId} {old : Array Value} (h : Blk w g t old) (cs : Array Value) : Blk (w.setRow g cs) g t cs := setRow_heap w g old cs t _ h

theorem wpList_store_arr (hgd : Region.wanted o (yielded ops a.tmps) = true) (t : TypeId) (x y : Operand) (ho : o.op = .store t x y)
    (g : Nat) (cs : Array Value) (hx : a.eval x = .pointer (some ⟨g, 0, none⟩)) (hy : a.eval y = .agg cs)
    (t' : TypeId) (old : Array Value) (hg : Blk w g t' old) (hi : (P.info? t).map (·.size) = some cs.size) (hold : old.size = cs.size) (h1 : cs.all (·.oneCell') = true)
    (h : Stop (∀ w', Hid (Only w w' g) → Hid (Blk w' g t' cs) → wpList P ops Q rest (a.put o.dst undef) w')) : wpList P ops Q (o :: rest) a w :=
  wpList_wanted hgd fun _ hK => wp_store_row t x y ho g cs hx hy t' old hg hi hold h1 (hK _ _ (h _ (Only.setRow hg cs) (hg.setRow cs)))

theorem addr_add0 (g l : Nat) : (⟨g, 0, none⟩ : Addr).add l = ⟨g, l, none⟩ := by unfold Addr.add; split <;> simp_all
theorem run_slice_arr (P : Program) (w : World) (t N e : Nat) (hu : P.underlying t = some (.array N e)) (hs : (P.info? e).map (·.size) = some 1) (g l h : Nat) (h1 : l ≤ h) (h2 : h ≤ N) (h3 : l < N) (kl kh : IntKind) :
    (Instr.sliceAt t (.pointer (some ⟨g, 0, none⟩)) (some (.int kl l)) (some (.int kh h)) none).run P w = .ok (.slice (some ⟨g, l, none⟩) (h - l) (N - l)) w ∧
    (h = N → (Instr.sliceAt t (.pointer (some ⟨g, 0, none⟩)) (some (.int kl l)) none none).run P w = .ok (.slice (some ⟨g, l, none⟩) (N - l) (N - l)) w) ∧
    (l = 0 → (Instr.sliceAt t (.pointer (some ⟨g, 0, none⟩)) none (some (.int kh h)) none).run P w = .ok (.slice (some ⟨g, 0, none⟩) h N) w) ∧
    (l = 0 → h = N → (Instr.sliceAt t (.pointer (some ⟨g, 0, none⟩)) none none none).run P w = .ok (.slice (some ⟨g, 0, none⟩) N N) w) := by
  obtain ⟨i, hi, hiz⟩ := Option.map_eq_some_iff.1 hs
  have n3 : ¬ N = l := by omega
  refine ⟨?_, fun e => ?_, fun e => ?_, fun e1 e2 => ?_⟩
  · simp [Instr.sliceAt, Instr.sureAddr, run_underlying hu, Instr.sliceBounds, Instr.sliceBound, asIntOf, sizeOf, typeInfo, hi, hiz, n3, addr_add0, h1, h2]
  · subst e
    simp [Instr.sliceAt, Instr.sureAddr, run_underlying hu, Instr.sliceBounds, Instr.sliceBound, asIntOf, sizeOf, typeInfo, hi, hiz, n3, addr_add0, h1]
  · subst e
    simp [Instr.sliceAt, Instr.sureAddr, run_underlying hu, Instr.sliceBounds, Instr.sliceBound, asIntOf, sizeOf, typeInfo, hi, h2, addr_add0]
  · subst e1; subst e2
    simp [Instr.sliceAt, Instr.sureAddr, run_underlying hu, Instr.sliceBounds, sizeOf, typeInfo, hi, addr_add0]

theorem bodyPost_cell {R : Ending → World → Prop} {fn : Func} {p : Tmp} {t : TypeId} (hf : fn.results = #[ResultVar.cell p t]) (g : Nat) (hp : a.tmps.getD p undef = .pointer (some ⟨g, 0, none⟩)) (t' : TypeId) (cs : Array Value) (hg : Blk w g t' cs)
    (n : Nat) (e : TypeId) (hu : P.underlying t = some (.array n e)) (hi : (P.info? t).map (·.size) = some cs.size) (hd : a.defers = []) (hR : Stop (R (.returned (.agg cs)) w)) : bodyPost P fn R .ret a w :=
  bodyPost_ret (results_cell_row hf a.tmps w g t' cs (0, 0) _ hp hg hu rfl hi) hd hR

theorem run_copy_bytes (P : Program) (w : World) (dT sT ty elem : TypeId) (hu : P.underlying dT = some (.slice elem)) (hs : (P.info? elem).map (·.size) = some 1)
    (g off dLen dCap : Nat) (cur : List UInt8) (t : TypeId) (hg : Blk w g t (bcells cur)) (hd : off + dLen ≤ cur.length) (A : Option Addr) (n c : Nat) (l : List UInt8) (hn : l.length = n) (hr : RB w A l) :
    ∃ w', (Builtin.copy_ #[dT, sT] ty #[.slice (some ⟨g, off, none⟩) dLen dCap, .slice A n c]).run P w = .ok (.int .i64 ((min n dLen : Nat) : Int)) w' ∧ Only w w' g ∧ Blk w' g t (bcells (splice cur off (l.take dLen))) := by
  subst hn
  by_cases h0 : min l.length dLen = 0
  · refine ⟨w, ?_, Only.refl _ _, ?_⟩
    · rw [run_copy_none w dT sT ty elem _ _ _ _ _ _ hu hs h0, h0]; rfl
    · have : l.take dLen = [] := by rw [← List.length_eq_zero_iff, List.length_take]; omega
      rw [this, splice_nil]; exact hg
  · obtain ⟨ad, rfl⟩ := hr.addr (by omega)
    have hlen : ((l.take dLen).map fun x : UInt8 => Value.int .u8 (x.toNat : Int)).length = min l.length dLen := by simp; omega
    have hrun := run_copy_row P w dT sT ty elem g off dLen dCap ad l.length c (bcells cur) t ((l.take dLen).map fun x => Value.int .u8 (x.toNat : Int)) hu hs hg hlen ?_ ?_ ?_
    · rw [hlen] at hrun
      refine ⟨_, hrun, Only.setRow hg _, ?_⟩
      have e : (List.take off (bcells cur).toList ++ ((l.take dLen).map fun x => Value.int .u8 (x.toNat : Int)) ++ List.drop (off + min l.length dLen) (bcells cur).toList).toArray = bcells (splice cur off (l.take dLen)) := by
        have e2 : (l.take dLen).length = min l.length dLen := by simp; omega
        simp only [bcells, splice, e2, List.map_append, List.map_take, List.map_drop]
      rw [e]
      exact hg.setRow _
    · intro j v hj
      rw [List.getElem?_map] at hj
      obtain ⟨x, hx, rfl⟩ := Option.map_eq_some_iff.1 hj
      have hjl : j < l.length := by
        have := (List.getElem?_eq_some_iff.1 hx).1
        simp at this; omega
      obtain ⟨ad', e, hc⟩ := hr j hjl
      injection e with e
      subst e
      rw [hc]
      rw [List.getElem?_take_of_lt (by have := (List.getElem?_eq_some_iff.1 hx).1; simp at this; omega), List.getElem?_eq_getElem hjl] at hx
      injection hx with hx
      rw [hx]
    · rw [hlen, bcells_size]; omega
    · intro v hv
      obtain ⟨x, _, rfl⟩ := List.mem_map.1 hv
      rfl


theorem run_make_zeros (P : Program) (w : World) (t e : TypeId) (ht : P.underlying t = some (.slice e)) (hi : (P.info? e).map (fun i => (i.zero, i.size, i.bytes)) = some (some (.int .u8 0), 1, 1)) (kl kc : IntKind) (n : Nat) (hn : n ≤ 281474976710656) :
    (Instr.makeSlice t (.int kl n) (.int kc n)).run P w = .ok (.slice (some ⟨w.heap.size, 0, none⟩) n n) (w.alloc (.cells (bcells (zeros n)) e)) := by
  obtain ⟨i, h1, h2, h3, h4⟩ := info_parts hi
  have hr := run_make (P := P) w t e i (.int .u8 0) ht h1 h2 kl kc n n (by omega) (by omega) (by rw [h4]; omega) (by omega)
  have e1 : madeCells (Value.int .u8 0).cells ((n : Int).toNat * i.size) = bcells (zeros n) := by
    rw [h3, zeros]
    apply Array.ext_getElem?
    intro j
    rw [bcells_get]
    simp [madeCells, Value.cells, Array.getElem?_map, List.getElem?_replicate]
    by_cases hj : j < n <;> simp [hj]
    all_goals simp [Nat.mod_one]
  rw [e1] at hr
  simpa using hr

def OwnB (w : World) (B : Nat) (e : TypeId) (v : Value) (l : List UInt8) : Prop := w.ownsRow B e 1 v l.length (l.map fun x => Value.int .u8 (x.toNat : Int))
theorem OwnB.nil_ (w : World) (B : Nat) (e : TypeId) : OwnB w B e (.slice none 0 0) [] := World.ownsRow_nil w B e 1
theorem OwnB.read {w : World} {B : Nat} {e : TypeId} {v : Value} {l : List UInt8} (h : OwnB w B e v l) : ∃ A c, v = .slice A l.length c ∧ l.length ≤ c ∧ c ≤ maxLen ∧ RB w A l := by
  obtain ⟨hl, h | ⟨g, cap, cur, hv, hb, hg, hn, hc, hs, ht⟩⟩ := h
  · refine ⟨none, 0, by rw [h.1, h.2], by omega, by unfold maxLen; omega, ?_⟩
    have : l = [] := List.eq_nil_of_length_eq_zero h.2
    subst this
    exact RB.nil_ _ _
  · refine ⟨_, cap, hv, hn, hc, RB.of_blk hg 0 fun k hk => ?_⟩
    have h2 : (cur.toList.take (l.length * 1))[k]? = (l.map fun x => Value.int .u8 (x.toNat : Int))[k]? := by rw [ht]
    rw [List.getElem?_take_of_lt (by omega), List.getElem?_map, List.getElem?_eq_getElem hk] at h2
    simpa using h2
theorem OwnB.alloc {w : World} {B : Nat} {e : TypeId} {v : Value} {l : List UInt8} (h : OwnB w B e v l) (o : Obj) : OwnB (w.alloc o) B e v l := World.ownsRow.alloc h o

theorem wpList_append_byte (hgd : Region.wanted o (yielded ops a.tmps) = true) (s x : Operand) (t e : TypeId) (ho : o.op = .call { callee := .builtin .append, args := #[s, x], argTypes := #[t, t] })
    (ht : P.underlying t = some (.slice e)) (hi : (P.info? e).map (fun i => (i.zero, i.size, i.bytes)) = some (some (.int .u8 0), 1, 1))
    (B : Nat) (v : Value) (l : List UInt8) (hs : a.eval s = v) (hown : OwnB w B e v l) (X : Int) (b : UInt8) (hX : X = (b.toNat : Int)) (hx : a.eval x = .slice (some ⟨w.heap.size, 0, none⟩) 1 1)
    (hB : B ≤ w.heap.size) (hlen : l.length + 1 ≤ 140737488355328)
    (h : Stop (∀ v' w', Hid (OwnB w' B e v' (l ++ [b])) → Hid (Below B w w') → wpList P ops Q rest (a.put o.dst v') w')) : wpList P ops Q (o :: rest) a (w.alloc (.cells #[.int .u8 X] e)) := by
  obtain ⟨i, h1, h2, h3, h4⟩ := info_parts hi
  subst hX
  refine wpList_wanted hgd fun _ hK => wp_append_own _ s x t ho B e i (.int .u8 0) 1 1 ht h1 h2 h3 h4 rfl (by omega) v l.length _ hs (hown.alloc _) ⟨w.heap.size, 0, none⟩ 1 1 [.int .u8 (b.toNat : Int)] hx rfl (cell_one_new _ _ _) ?_ (by unfold maxLen; omega) (by omega) (by simp; omega) ?_
  · intro u hu
    simp at hu
    subst hu
    rfl
  · intro v' w' ho' hg _
    refine hK _ _ (h v' w' ?_ ?_)
    · have e1 : (l ++ [b]).length = l.length + 1 := by simp
      unfold OwnB
      rw [e1, List.map_append]
      exact ho'
    · refine (((Below.refl B w).alloc (by omega) _)).grown hg (by simp; omega) ?_
      intro k hk
      exact (World.ownsRow.lt hown k hk).1

end

end Go.Proofs.YtpmbpklbiocclaaGreat

/-
  Patches of a block's bytes: which may be, what laying one makes, what it takes the place of; and the runs in which two blocks are unlike. Plain; no program is named here.
-/
namespace Go.Proofs.YtpmbpklbiocclaaGreat

structure Pt where
  at_ : Int
  data : List UInt8
instance : Inhabited Pt := ⟨⟨0, []⟩⟩
def Pt.right (p : Pt) : Bool := decide (1 ≤ p.data.length ∧ p.data.length ≤ 256 ∧ 0 ≤ p.at_ ∧ p.at_ ≤ 256 - (p.data.length : Int))
theorem Pt.right_iff {p : Pt} : p.right = true ↔ 1 ≤ p.data.length ∧ p.data.length ≤ 256 ∧ 0 ≤ p.at_ ∧ p.at_ ≤ 256 - (p.data.length : Int) := by unfold Pt.right; simp
def Pt.lo (p : Pt) : Nat := p.at_.toNat
def Pt.has (p : Pt) (i : Nat) : Bool := p.right && decide (p.lo ≤ i ∧ i < p.lo + p.data.length)
theorem Pt.has_iff {p : Pt} {i : Nat} : p.has i = true ↔ p.right = true ∧ p.lo ≤ i ∧ i < p.lo + p.data.length := by unfold Pt.has; simp
theorem Pt.has_lt {p : Pt} {i : Nat} (h : p.has i = true) : i < 256 := by
  obtain ⟨h1, h2, h3⟩ := Pt.has_iff.1 h
  have := Pt.right_iff.1 h1
  unfold Pt.lo at *
  omega
def layP (L : List UInt8) (p : Pt) : List UInt8 := if p.right then splice L p.lo p.data else L
theorem Pt.fits {p : Pt} (h : p.right = true) {L : List UInt8} (hL : L.length = 256) : p.lo + p.data.length ≤ L.length := by
  have := Pt.right_iff.1 h
  unfold Pt.lo
  omega
theorem layP_len {L : List UInt8} (p : Pt) (hL : L.length = 256) : (layP L p).length = 256 := by
  unfold layP
  split
  · rename_i h; rw [splice_len _ _ _ (Pt.fits h hL), hL]
  · exact hL
theorem layP_get {L : List UInt8} (p : Pt) (hL : L.length = 256) (i : Nat) : (layP L p)[i]? = if p.has i then p.data[i - p.lo]? else L[i]? := by
  unfold layP Pt.has
  by_cases h : p.right = true
  · rw [if_pos h, splice_get _ _ _ (Pt.fits h hL), h]
    simp only [Bool.true_and, decide_eq_true_eq]
  · rw [if_neg h]
    have h' : p.right = false := by simpa using h
    rw [h']
    simp
theorem layP_wrong {L : List UInt8} {p : Pt} (h : p.right = false) : layP L p = L := by unfold layP; rw [h]; rfl
def layAll (L : List UInt8) (l : List Pt) : List UInt8 := l.foldl layP L
theorem layAll_len {L : List UInt8} (l : List Pt) (hL : L.length = 256) : (layAll L l).length = 256 := by
  induction l generalizing L with
  | nil => exact hL
  | cons p l ih => exact ih (layP_len p hL)
theorem layAll_snoc (L : List UInt8) (l : List Pt) (p : Pt) : layAll L (l ++ [p]) = layP (layAll L l) p := by unfold layAll; rw [List.foldl_append]; rfl
def meetP (p q : Pt) : Bool := (List.range 256).any fun i => p.has i && q.has i
theorem meetP_iff {p q : Pt} : meetP p q = true ↔ ∃ i, p.has i = true ∧ q.has i = true := by
  unfold meetP
  rw [List.any_eq_true]
  constructor
  · rintro ⟨i, _, h⟩
    exact ⟨i, by simpa using h⟩
  · rintro ⟨i, h1, h2⟩
    exact ⟨i, by simpa using Pt.has_lt h1, by simp [h1, h2]⟩
theorem lay_swap {L : List UInt8} (p q : Pt) (hL : L.length = 256) (h : meetP p q = false) : layP (layP L p) q = layP (layP L q) p := by
  apply List.ext_getElem?
  intro i
  rw [layP_get _ (layP_len p hL), layP_get _ (layP_len q hL), layP_get p hL, layP_get q hL]
  cases h1 : p.has i <;> cases h2 : q.has i
  · rfl
  · rfl
  · rfl
  · rw [meetP_iff.2 ⟨i, h1, h2⟩] at h; cases h


end Go.Proofs.YtpmbpklbiocclaaGreat

/-
  Lists of changes: which may be, for whom one waits, which of a block's are ready, what is left; and that what is ready goes in order. Plain; no program is named here.
-/
namespace Go.Proofs.YtpmbpklbiocclaaGreat

structure Cg where
  id : Int
  block : Int
  p : Pt
  needs : List Int
instance : Inhabited Cg := ⟨⟨0, 0, ⟨0, []⟩, []⟩⟩
def riseN (e : Int) : Int → List Int → Bool
  | _, [] => true
  | b, x :: l => decide (b < x) && decide (x < e) && riseN e x l
def Cg.may (b : Int) (c : Cg) : Bool := decide (b < c.id) && decide (0 ≤ c.block) && c.p.right && riseN c.id 0 c.needs
def mayN : Int → List Cg → Bool
  | _, [] => true
  | b, c :: l => c.may b && mayN c.id l
def mayC (l : List Cg) : Bool := mayN 0 l
theorem mayN_cons {b : Int} {c : Cg} {l : List Cg} : mayN b (c :: l) = true ↔ c.may b = true ∧ mayN c.id l = true := by
  show (c.may b && mayN c.id l) = true ↔ _
  rw [Bool.and_eq_true]
theorem Cg.may_iff {b : Int} {c : Cg} : c.may b = true ↔ b < c.id ∧ 0 ≤ c.block ∧ c.p.right = true ∧ riseN c.id 0 c.needs = true := by
  unfold Cg.may
  simp only [Bool.and_eq_true, decide_eq_true_eq]
  constructor
  · rintro ⟨⟨⟨h1, h2⟩, h3⟩, h4⟩; exact ⟨h1, h2, h3, h4⟩
  · rintro ⟨h1, h2, h3, h4⟩; exact ⟨⟨⟨h1, h2⟩, h3⟩, h4⟩
theorem mayN_down {b b' : Int} (h : b' ≤ b) {l : List Cg} (hm : mayN b l = true) : mayN b' l = true := by
  cases l with
  | nil => rfl
  | cons c l =>
    obtain ⟨h1, h2⟩ := mayN_cons.1 hm
    have h3 := Cg.may_iff.1 h1
    exact mayN_cons.2 ⟨Cg.may_iff.2 ⟨by omega, h3.2⟩, h2⟩
theorem mayN_gt {b : Int} {l : List Cg} (hm : mayN b l = true) : ∀ c ∈ l, b < c.id := by
  induction l generalizing b with
  | nil => intro c hc; simp at hc
  | cons d l ih =>
    obtain ⟨h1, h2⟩ := mayN_cons.1 hm
    have h3 := (Cg.may_iff.1 h1).1
    intro c hc
    rcases List.mem_cons.1 hc with rfl | hc
    · exact h3
    · have := ih h2 c hc; omega
theorem mayN_filter {b : Int} {l : List Cg} (p : Cg → Bool) (hm : mayN b l = true) : mayN b (l.filter p) = true := by
  induction l generalizing b with
  | nil => rfl
  | cons c l ih =>
    obtain ⟨h1, h2⟩ := mayN_cons.1 hm
    rw [List.filter_cons]
    split
    · exact mayN_cons.2 ⟨h1, ih h2⟩
    · have h3 := (Cg.may_iff.1 h1).1
      exact ih (mayN_down (by omega) h2)
theorem may_id {b : Int} {l : List Cg} (hm : mayN b l = true) {c d : Cg} (hc : c ∈ l) (hd : d ∈ l) (h : c.id = d.id) : c = d := by
  induction l generalizing b with
  | nil => simp at hc
  | cons e l ih =>
    obtain ⟨h1, h2⟩ := mayN_cons.1 hm
    have hg := mayN_gt h2
    rcases List.mem_cons.1 hc with e1 | hc1
    · rcases List.mem_cons.1 hd with e2 | hd1
      · rw [e1, e2]
      · have := hg d hd1; rw [e1] at h; omega
    · rcases List.mem_cons.1 hd with e2 | hd1
      · have := hg c hc1; rw [e2] at h; omega
      · exact ih h2 hc1 hd1

def splitId (id : Int) : List Cg → Option (List Cg × Cg)
  | [] => none
  | c :: l => if c.id = id then some ([], c) else (splitId id l).map fun x => (c :: x.1, x.2)
def keepsB (d c : Cg) : Bool := (decide (d.block = c.block) && meetP d.p c.p) || c.needs.contains d.id
def waitsC (l : List Cg) (id : Int) : List Int :=
  if mayC l then (match splitId id l with
    | none => []
    | some (pre, c) => (pre.filter fun d => keepsB d c).map (·.id)) else []
def readyGo (block : Int) : List Cg → List Int → List Cg → List Int
  | _, out, [] => out
  | pre, out, c :: l =>
    if c.block = block ∧ ((pre.filter fun d => keepsB d c).all fun d => out.contains d.id) then readyGo block (pre ++ [c]) (out ++ [c.id]) l
    else readyGo block (pre ++ [c]) out l
def readyC (l : List Cg) (block : Int) : List Int := if mayC l then readyGo block [] [] l else []
def ofC (l : List Cg) (block : Int) : List Cg := l.filter fun c => decide (c.block = block)
def withoutC (l : List Cg) (ids : List Int) : List Cg := l.filter fun c => !ids.contains c.id

theorem splitId_some {id : Int} {l : List Cg} {pre : List Cg} {c : Cg} (h : splitId id l = some (pre, c)) : c.id = id ∧ ∃ post, l = pre ++ c :: post ∧ ∀ d ∈ pre, d.id ≠ id := by
  induction l generalizing pre with
  | nil => cases h
  | cons d l ih =>
    unfold splitId at h
    by_cases hd : d.id = id
    · rw [if_pos hd] at h
      simp only [Option.some.injEq, Prod.mk.injEq] at h
      obtain ⟨rfl, rfl⟩ := h
      exact ⟨hd, l, rfl, fun _ h => by simp at h⟩
    · rw [if_neg hd] at h
      obtain ⟨⟨pre', c'⟩, h1, h2⟩ := Option.map_eq_some_iff.1 h
      simp only [Prod.mk.injEq] at h2
      obtain ⟨rfl, rfl⟩ := h2
      obtain ⟨h3, post, rfl, h4⟩ := ih h1
      refine ⟨h3, post, rfl, fun e he => ?_⟩
      rcases List.mem_cons.1 he with rfl | he
      · exact hd
      · exact h4 e he
theorem splitId_mid {l pre post : List Cg} {c : Cg} {b : Int} (hm : mayN b l = true) (hl : l = pre ++ c :: post) : splitId c.id l = some (pre, c) := by
  subst hl
  induction pre generalizing b with
  | nil => rw [List.nil_append]; simp [splitId]
  | cons d pre ih =>
    rw [List.cons_append] at hm ⊢
    obtain ⟨h1, h2⟩ := mayN_cons.1 hm
    have hg := mayN_gt h2 c (by simp)
    unfold splitId
    rw [if_neg (by omega), ih h2]
    rfl
theorem splitId_none {id : Int} {l : List Cg} : splitId id l = none ↔ ∀ c ∈ l, c.id ≠ id := by
  induction l with
  | nil => simp [splitId]
  | cons d l ih =>
    unfold splitId
    by_cases hd : d.id = id
    · rw [if_pos hd]
      simp [hd]
    · rw [if_neg hd, Option.map_eq_none_iff, ih]
      simp [hd]
theorem waitsC_mid {l pre post : List Cg} {c : Cg} (hm : mayC l = true) (hl : l = pre ++ c :: post) : waitsC l c.id = (pre.filter fun d => keepsB d c).map (·.id) := by
  unfold waitsC
  rw [if_pos hm, splitId_mid hm hl]

theorem readyGo_spec (block : Int) (l0 : List Cg) : ∀ (l pre : List Cg) (out : List Int), l0 = pre ++ l →
    (∀ x ∈ out, ∃ p c q, l0 = p ++ c :: q ∧ c.id = x ∧ c.block = block ∧ ∀ d ∈ p, keepsB d c = true → d.id ∈ out) →
    ∀ x ∈ readyGo block pre out l, ∃ p c q, l0 = p ++ c :: q ∧ c.id = x ∧ c.block = block ∧ ∀ d ∈ p, keepsB d c = true → d.id ∈ readyGo block pre out l := by
  intro l
  induction l with
  | nil => intro pre out _ h; exact h
  | cons c l ih =>
    intro pre out hl h
    unfold readyGo
    split
    · rename_i hc
      refine ih _ _ (by rw [hl]; simp) ?_
      intro x hx
      rcases List.mem_append.1 hx with hx | hx
      · obtain ⟨p, d, q, h1, h2, h3, h4⟩ := h x hx
        exact ⟨p, d, q, h1, h2, h3, fun e he hk => List.mem_append.2 (Or.inl (h4 e he hk))⟩
      · rw [List.mem_singleton] at hx
        subst hx
        refine ⟨pre, c, l, hl, rfl, hc.1, fun d hd hk => List.mem_append.2 (Or.inl ?_)⟩
        have h5 := List.all_eq_true.1 hc.2 d (List.mem_filter.2 ⟨hd, hk⟩)
        simpa using h5
    · exact ih _ _ (by rw [hl]; simp) h
theorem readyC_spec {l : List Cg} {block : Int} (hm : mayC l = true) : ∀ x ∈ readyC l block, ∃ p c q, l = p ++ c :: q ∧ c.id = x ∧ c.block = block ∧ ∀ d ∈ p, keepsB d c = true → d.id ∈ readyC l block := by
  unfold readyC
  rw [if_pos hm]
  exact readyGo_spec block l l [] [] rfl (fun x hx => by simp at hx)
theorem readyGo_more (block : Int) : ∀ (l pre : List Cg) (out : List Int), ∃ t, readyGo block pre out l = out ++ t ∧ t.Sublist (l.map (·.id)) := by
  intro l
  induction l with
  | nil => intro pre out; exact ⟨[], by simp [readyGo], by simp⟩
  | cons c l ih =>
    intro pre out
    unfold readyGo
    split
    · obtain ⟨t, h1, h2⟩ := ih (pre ++ [c]) (out ++ [c.id])
      exact ⟨c.id :: t, by rw [h1]; simp, by rw [List.map_cons]; exact List.Sublist.cons_cons _ h2⟩
    · obtain ⟨t, h1, h2⟩ := ih (pre ++ [c]) out
      exact ⟨t, h1, by rw [List.map_cons]; exact List.Sublist.cons _ h2⟩
theorem readyC_sub {l : List Cg} {block : Int} : (readyC l block).Sublist (l.map (·.id)) := by
  unfold readyC
  split
  · obtain ⟨t, h1, h2⟩ := readyGo_more block l [] []
    rw [h1, List.nil_append]
    exact h2
  · simp
theorem readyC_first {c : Cg} {l : List Cg} (hm : mayC (c :: l) = true) : ∃ t, readyC (c :: l) c.block = c.id :: t := by
  unfold readyC
  rw [if_pos hm]
  unfold readyGo
  rw [if_pos ⟨rfl, by simp⟩]
  obtain ⟨t, h1, _⟩ := readyGo_more c.block l ([] ++ [c]) ([] ++ [c.id])
  exact ⟨t, by rw [h1]; rfl⟩

theorem withoutC_may {l : List Cg} (ids : List Int) (hm : mayC l = true) : mayC (withoutC l ids) = true := mayN_filter _ hm
theorem without_len {b : Int} : ∀ (l : List Cg) (r : List Int), mayN b l = true → r.Sublist (l.map (·.id)) → (l.filter fun c => !r.contains c.id).length + r.length = l.length := by
  intro l
  induction l generalizing b with
  | nil =>
    intro r _ hs
    have : r = [] := by simpa using hs
    subst this
    rfl
  | cons c l ih =>
    intro r hm hs
    obtain ⟨h1, h2⟩ := mayN_cons.1 hm
    have hg := mayN_gt h2
    rw [List.map_cons] at hs
    have key : ∀ r' : List Int, r'.Sublist (l.map (·.id)) → c.id ∉ r' := fun r' hs' hin => by
      obtain ⟨d, hd, he⟩ := List.mem_map.1 (hs'.subset hin)
      have := hg d hd
      omega
    rcases List.sublist_cons_iff.1 hs with h | ⟨r', rfl, h⟩
    · have hn := key r h
      have h5 := ih r h2 h
      rw [List.filter_cons, if_pos (by simpa using hn), List.length_cons, List.length_cons]
      omega
    · have h5 := ih r' h2 h
      have e : (l.filter fun d => !(c.id :: r').contains d.id) = l.filter fun d => !r'.contains d.id := by
        apply List.filter_congr
        intro d hd
        have := hg d hd
        simp
        intro _
        omega
      rw [List.filter_cons, if_neg (by simp), e, List.length_cons, List.length_cons]
      omega
theorem withoutC_len {l : List Cg} {block : Int} (hm : mayC l = true) : (withoutC l (readyC l block)).length + (readyC l block).length = l.length := without_len l _ hm readyC_sub
theorem withoutC_waits {l : List Cg} (ids : List Int) (hm : mayC l = true) {c : Cg} (hc : c ∈ withoutC l ids) : ∀ y ∈ waitsC (withoutC l ids) c.id, y ∈ waitsC l c.id := by
  obtain ⟨hc1, hc2⟩ := List.mem_filter.1 hc
  obtain ⟨p, q, hpq⟩ := List.append_of_mem hc1
  have hw : withoutC l ids = (p.filter fun c => !ids.contains c.id) ++ c :: (q.filter fun c => !ids.contains c.id) := by
    unfold withoutC
    rw [hpq, List.filter_append, List.filter_cons, if_pos hc2]
  rw [waitsC_mid (withoutC_may ids hm) hw, waitsC_mid hm hpq]
  intro y hy
  obtain ⟨d, hd, rfl⟩ := List.mem_map.1 hy
  obtain ⟨hd1, hd2⟩ := List.mem_filter.1 hd
  obtain ⟨hd3, _⟩ := List.mem_filter.1 hd1
  exact List.mem_map.2 ⟨d, List.mem_filter.2 ⟨hd3, hd2⟩, rfl⟩

end Go.Proofs.YtpmbpklbiocclaaGreat

/-
  Lists of changes by their places: as loops go through them; the blocks of a list, rising. Plain; no program is named here.
-/
namespace Go.Proofs.YtpmbpklbiocclaaGreat

theorem riseN_cons {e b x : Int} {l : List Int} : riseN e b (x :: l) = true ↔ b < x ∧ x < e ∧ riseN e x l = true := by
  show (decide (b < x) && decide (x < e) && riseN e x l) = true ↔ _
  simp only [Bool.and_eq_true, decide_eq_true_eq, and_assoc]
theorem riseN_iff {e b : Int} {l : List Int} : riseN e b l = true ↔ ∀ i (h : i < l.length), l[i] < e ∧ (if i = 0 then b < l[i] else l[i - 1] < l[i]) := by
  induction l generalizing b with
  | nil => simp [riseN]
  | cons x l ih =>
    rw [riseN_cons, ih]
    constructor
    · rintro ⟨h1, h2, h3⟩ i hi
      cases i with
      | zero => simpa using ⟨h2, h1⟩
      | succ i =>
        have hi' : i < l.length := by simpa using hi
        obtain ⟨h4, h5⟩ := h3 i hi'
        refine ⟨by simpa using h4, ?_⟩
        rw [if_neg (by omega)]
        cases i with
        | zero => simpa using h5
        | succ i => simpa using h5
    · intro h
      have h0 := h 0 (by simp)
      refine ⟨by simpa using h0.2, by simpa using h0.1, fun i hi => ?_⟩
      have h1 := h (i + 1) (by simpa using hi)
      refine ⟨by simpa using h1.1, ?_⟩
      have h2 := h1.2
      rw [if_neg (by omega)] at h2
      cases i with
      | zero => simpa using h2
      | succ i => simpa using h2
theorem mayN_iff {b : Int} {l : List Cg} : mayN b l = true ↔ ∀ i (h : i < l.length), (if i = 0 then b < l[i].id else l[i - 1].id < l[i].id) ∧ 0 ≤ l[i].block ∧ l[i].p.right = true ∧ riseN l[i].id 0 l[i].needs = true := by
  induction l generalizing b with
  | nil => simp [mayN]
  | cons x l ih =>
    rw [mayN_cons, Cg.may_iff, ih]
    constructor
    · rintro ⟨⟨h1, h2⟩, h3⟩ i hi
      cases i with
      | zero => simpa using ⟨h1, h2⟩
      | succ i =>
        have hi' : i < l.length := by simpa using hi
        obtain ⟨h4, h5⟩ := h3 i hi'
        refine ⟨?_, by simpa using h5⟩
        rw [if_neg (by omega)]
        cases i with
        | zero => simpa using h4
        | succ i => simpa using h4
    · intro h
      have h0 := h 0 (by simp)
      refine ⟨by simpa using h0, fun i hi => ?_⟩
      have h1 := h (i + 1) (by simpa using hi)
      refine ⟨?_, by simpa using h1.2⟩
      have h2 := h1.1
      rw [if_neg (by omega)] at h2
      cases i with
      | zero => simpa using h2
      | succ i => simpa using h2
theorem readyGo_at {block : Int} {l : List Cg} {out : List Int} {i : Nat} (hm : mayC l = true) (hi : i < l.length) :
    readyGo block (l.take i) out (l.drop i) = readyGo block (l.take (i + 1)) (if l[i].block = block ∧ ((waitsC l l[i].id).all fun x => out.contains x) = true then out ++ [l[i].id] else out) (l.drop (i + 1)) := by
  have hl : l = l.take i ++ l[i] :: l.drop (i + 1) := by rw [List.getElem_cons_drop, List.take_append_drop]
  rw [waitsC_mid hm hl, List.take_succ_eq_append_getElem hi]
  conv => lhs; rw [← List.getElem_cons_drop hi]
  conv => lhs; unfold readyGo
  rw [List.all_map, show ((fun x => out.contains x) ∘ fun x : Cg => x.id) = fun d : Cg => out.contains d.id from rfl]
  by_cases h : l[i].block = block ∧ ((l.take i).filter fun d => keepsB d l[i]).all (fun d => out.contains d.id) = true
  · rw [if_pos h, if_pos h]
  · rw [if_neg h, if_neg h]

def insI (x : Int) : List Int → List Int
  | [] => [x]
  | y :: l => if x < y then x :: y :: l else if x = y then y :: l else y :: insI x l
def RiseI (l : List Int) : Prop := l.Pairwise (· < ·)
theorem insI_mem {x : Int} {l : List Int} : ∀ y, y ∈ insI x l ↔ y = x ∨ y ∈ l := by
  induction l with
  | nil => intro y; simp [insI]
  | cons z l ih =>
    intro y
    unfold insI
    split
    · simp
    · split
      · rename_i h
        subst h
        simp
      · rw [List.mem_cons, ih]
        simp only [List.mem_cons]
        constructor
        · rintro (h | h | h)
          · exact Or.inr (Or.inl h)
          · exact Or.inl h
          · exact Or.inr (Or.inr h)
        · rintro (h | h | h)
          · exact Or.inr (Or.inl h)
          · exact Or.inl h
          · exact Or.inr (Or.inr h)
theorem insI_rise {x : Int} {l : List Int} (h : RiseI l) : RiseI (insI x l) := by
  induction l with
  | nil => exact List.pairwise_singleton _ _
  | cons z l ih =>
    obtain ⟨h1, h2⟩ := List.pairwise_cons.1 h
    unfold insI
    split
    · rename_i hlt
      exact List.pairwise_cons.2 ⟨fun a ha => by
        rcases List.mem_cons.1 ha with rfl | ha
        · exact hlt
        · have := h1 a ha; omega, h⟩
    · split
      · exact h
      · refine List.pairwise_cons.2 ⟨fun a ha => ?_, ih h2⟩
        rcases (insI_mem a).1 ha with rfl | ha
        · omega
        · exact h1 a ha
theorem RiseI.uniq {l l' : List Int} (h : RiseI l) (h' : RiseI l') (hm : ∀ x, x ∈ l ↔ x ∈ l') : l = l' := by
  induction l generalizing l' with
  | nil =>
    cases l' with
    | nil => rfl
    | cons y l' => exact absurd ((hm y).2 (by simp)) (by simp)
  | cons x l ih =>
    cases l' with
    | nil => exact absurd ((hm x).1 (by simp)) (by simp)
    | cons y l' =>
      obtain ⟨h1, h2⟩ := List.pairwise_cons.1 h
      obtain ⟨h3, h4⟩ := List.pairwise_cons.1 h'
      have e : x = y := by
        rcases List.mem_cons.1 ((hm x).1 (by simp)) with e | e
        · exact e
        · rcases List.mem_cons.1 ((hm y).2 (by simp)) with e' | e'
          · exact e'.symm
          · have a := h3 x e
            have b := h1 y e'
            omega
      subst e
      congr 1
      refine ih h2 h4 fun z => ?_
      have hz := hm z
      simp only [List.mem_cons] at hz
      constructor
      · intro h5
        rcases hz.1 (Or.inr h5) with e | e
        · have := h1 z h5; omega
        · exact e
      · intro h5
        rcases hz.2 (Or.inr h5) with e | e
        · have := h3 z h5; omega
        · exact e
def blocksC (l : List Cg) : List Int := l.foldr (fun c s => insI c.block s) []
theorem blocksC_rise (l : List Cg) : RiseI (blocksC l) := by
  induction l with
  | nil => exact List.Pairwise.nil
  | cons c l ih => exact insI_rise ih
theorem blocksC_mem (l : List Cg) : ∀ x, x ∈ blocksC l ↔ ∃ c ∈ l, c.block = x := by
  induction l with
  | nil => intro x; simp [blocksC]
  | cons c l ih =>
    intro x
    show x ∈ insI c.block (blocksC l) ↔ _
    rw [insI_mem, ih]
    simp only [List.mem_cons, exists_eq_or_imp]
    constructor
    · rintro (h | h)
      · exact Or.inl h.symm
      · exact Or.inr h
    · rintro (h | h)
      · exact Or.inl h.symm
      · exact Or.inr h
theorem RiseI.snoc {l : List Int} {x : Int} (h : RiseI l) (hx : ∀ y ∈ l, y < x) : RiseI (l ++ [x]) := by
  unfold RiseI
  rw [List.pairwise_append]
  exact ⟨h, List.pairwise_singleton _ _, fun a ha b hb => by rw [List.mem_singleton] at hb; subst hb; exact hx a ha⟩

end Go.Proofs.YtpmbpklbiocclaaGreat

/-
  A block as it is written: its view, its image, what is held; and that nothing is lost by that. Plain; no program is named here.
-/
namespace Go.Proofs.YtpmbpklbiocclaaGreat

def laidC (L : List UInt8) (l : List Cg) : List UInt8 := layAll L (l.map (·.p))
theorem laidC_cons (L : List UInt8) (c : Cg) (l : List Cg) : laidC L (c :: l) = laidC (layP L c.p) l := rfl
theorem laidC_len {L : List UInt8} (l : List Cg) (hL : L.length = 256) : (laidC L l).length = 256 := layAll_len _ hL
def viewC (L : List UInt8) (l : List Cg) (block : Int) : List UInt8 := if mayC l then laidC L (ofC l block) else L
def doneC (l : List Cg) (block : Int) : List Cg := (ofC l block).filter fun c => (readyC l block).contains c.id
def imageC (L : List UInt8) (l : List Cg) (block : Int) : List UInt8 := laidC L (doneC l block)
def restC (l : List Cg) (block : Int) : List Cg := (ofC l block).filter fun c => !(readyC l block).contains c.id
def leftC (l : List Cg) (block : Int) : List Cg := withoutC l (readyC l block)
theorem readyC_wrong {l : List Cg} (h : mayC l = false) (block : Int) : readyC l block = [] := by unfold readyC; rw [h]; rfl
theorem leftC_wrong {l : List Cg} (h : mayC l = false) (block : Int) : leftC l block = l := by
  unfold leftC withoutC
  rw [readyC_wrong h]
  exact List.filter_eq_self.2 (fun c _ => by simp)
theorem imageC_wrong {l : List Cg} (h : mayC l = false) (L : List UInt8) (block : Int) : imageC L l block = L := by
  unfold imageC doneC
  rw [readyC_wrong h]
  have e : (ofC l block).filter (fun c => ([] : List Int).contains c.id) = [] := List.filter_eq_nil_iff.2 (fun c _ => by simp)
  rw [e]
  rfl

theorem laid_past {L : List UInt8} (hL : L.length = 256) (c : Cg) : ∀ l : List Cg, (∀ d ∈ l, meetP c.p d.p = false) → laidC (layP L c.p) l = layP (laidC L l) c.p := by
  intro l
  induction l generalizing L with
  | nil => intro _; rfl
  | cons d l ih =>
    intro h
    rw [laidC_cons, laidC_cons, lay_swap c.p d.p hL (h d (by simp))]
    exact ih (layP_len _ hL) (fun e he => h e (List.mem_cons_of_mem _ he))
theorem laidC_append (L : List UInt8) (l l' : List Cg) : laidC L (l ++ l') = laidC (laidC L l) l' := by
  unfold laidC layAll
  rw [List.map_append, List.foldl_append]
theorem laid_parts (f : Cg → Bool) : ∀ (l : List Cg) (L : List UInt8), L.length = 256 → l.Pairwise (fun d c => f d = false → f c = true → meetP d.p c.p = false) →
    laidC L l = laidC (laidC L (l.filter f)) (l.filter fun c => !f c) := by
  intro l
  induction l with
  | nil => intro L _ _; rfl
  | cons c l ih =>
    intro L hL hp
    obtain ⟨h1, h2⟩ := List.pairwise_cons.1 hp
    rw [laidC_cons, ih _ (layP_len _ hL) h2]
    cases hf : f c
    · rw [List.filter_cons_of_neg (by simp [hf]), List.filter_cons_of_pos (by simp [hf]), laidC_cons]
      rw [laid_past hL c _ (fun d hd => by
        obtain ⟨hd1, hd2⟩ := List.mem_filter.1 hd
        exact h1 d hd1 hf hd2)]
    · rw [List.filter_cons_of_pos hf, List.filter_cons_of_neg (by simp [hf]), laidC_cons]

theorem held_far {l : List Cg} {block : Int} (hm : mayC l = true) : (ofC l block).Pairwise fun d c => (readyC l block).contains d.id = false → (readyC l block).contains c.id = true → meetP d.p c.p = false := by
  have key : ∀ p c q, l = p ++ c :: q → c.block = block → (readyC l block).contains c.id = true → ∀ d ∈ p, d.block = block → (readyC l block).contains d.id = false → meetP d.p c.p = false := by
    intro p c q hl hcb hc d hd hdb hdr
    have hmem : c.id ∈ readyC l block := by simpa using hc
    obtain ⟨p', c', q', h1, h2, _, h4⟩ := readyC_spec hm _ hmem
    have s1 := splitId_mid hm hl
    have s2 := splitId_mid hm h1
    rw [h2, s1] at s2
    injection s2 with s2
    simp only [Prod.mk.injEq] at s2
    obtain ⟨rfl, rfl⟩ := s2
    cases hmt : meetP d.p c.p
    · rfl
    · have hk : keepsB d c = true := by unfold keepsB; rw [hmt, decide_eq_true (by rw [hdb, hcb])]; rfl
      have := h4 d hd hk
      rw [show (readyC l block).contains d.id = true by simpa using this] at hdr
      cases hdr
  have gen : ∀ (t p : List Cg), l = p ++ t → (t.filter fun c => decide (c.block = block)).Pairwise fun d c => (readyC l block).contains d.id = false → (readyC l block).contains c.id = true → meetP d.p c.p = false := by
    intro t
    induction t with
    | nil => intro p _; exact List.Pairwise.nil
    | cons d t ih =>
      intro p hl
      have h5 := ih (p ++ [d]) (by rw [hl]; simp)
      rw [List.filter_cons]
      split
      · rename_i hd
        refine List.pairwise_cons.2 ⟨fun c hc hdr hcr => ?_, h5⟩
        obtain ⟨hc1, hc2⟩ := List.mem_filter.1 hc
        obtain ⟨u, v, rfl⟩ := List.append_of_mem hc1
        exact key (p ++ d :: u) c v (by rw [hl]; simp) (by simpa using hc2) hcr d (by simp) (by simpa using hd) hdr
      · exact h5
  exact gen l [] rfl
theorem ofC_left {l : List Cg} {block : Int} : ofC (leftC l block) block = restC l block := by
  unfold ofC leftC restC withoutC ofC
  rw [List.filter_filter, List.filter_filter]
  congr 1
  funext c
  rw [Bool.and_comm]
theorem view_keeps {L : List UInt8} (hL : L.length = 256) (l : List Cg) (block : Int) : viewC (imageC L l block) (leftC l block) block = viewC L l block := by
  cases hm : mayC l
  · rw [leftC_wrong hm, imageC_wrong hm]
  · unfold viewC
    rw [hm, if_pos rfl, show mayC (leftC l block) = true from withoutC_may _ hm, if_pos rfl, ofC_left]
    unfold imageC doneC restC
    exact (laid_parts (fun c => (readyC l block).contains c.id) (ofC l block) L hL (held_far hm)).symm
theorem ofC_other {l : List Cg} {block b' : Int} (hm : mayC l = true) (hb : b' ≠ block) : ofC (leftC l block) b' = ofC l b' := by
  unfold ofC leftC withoutC
  rw [List.filter_filter]
  apply List.filter_congr
  intro c hc
  by_cases h : c.block = b'
  · have hn : c.id ∉ readyC l block := fun hin => by
      obtain ⟨p, d, q, h1, h2, h3, _⟩ := readyC_spec hm _ hin
      have hd : d ∈ l := by rw [h1]; simp
      have := may_id hm hd hc h2
      subst this
      exact hb (h.symm.trans h3)
    simp [h, hn]
  · simp [h]
theorem view_other (L : List UInt8) (l : List Cg) {block b' : Int} (hb : b' ≠ block) : viewC L (leftC l block) b' = viewC L l b' := by
  cases hm : mayC l
  · rw [leftC_wrong hm]
  · unfold viewC
    rw [hm, if_pos rfl, show mayC (leftC l block) = true from withoutC_may _ hm, if_pos rfl, ofC_other hm hb]

theorem readyGo_full (block : Int) : ∀ (l pre : List Cg) (out : List Int) (b : Int), mayN b (pre ++ l) = true → ∀ p c q, pre ++ l = p ++ c :: q → pre.length ≤ p.length → c.block = block → (∀ d ∈ p, keepsB d c = true → d.id ∈ readyGo block pre out l) → c.id ∈ readyGo block pre out l := by
  intro l
  induction l with
  | nil =>
    intro pre out b _ p c q hl hlen
    have h := congrArg List.length hl
    simp at h
    omega
  | cons e l ih =>
    intro pre out b hm p c q hl hlen hcb hk
    by_cases hp : pre.length = p.length
    · have hpe : pre = p ∧ e :: l = c :: q := List.append_inj hl hp
      obtain ⟨rfl, h2⟩ := hpe
      injection h2 with h2 h3
      subst h2; subst h3
      -- c is the next one: all that keep it back are in 'out'
      unfold readyGo at hk ⊢
      by_cases hc : e.block = block ∧ ((pre.filter fun d => keepsB d e).all fun d => out.contains d.id) = true
      · rw [if_pos hc]
        obtain ⟨t, h5, _⟩ := readyGo_more block l (pre ++ [e]) (out ++ [e.id])
        rw [h5]
        simp
      · exfalso
        rw [if_neg hc] at hk
        refine hc ⟨hcb, List.all_eq_true.2 fun d hd => ?_⟩
        obtain ⟨hd1, hd2⟩ := List.mem_filter.1 hd
        have h6 := hk d hd1 hd2
        obtain ⟨t, h7, h8⟩ := readyGo_more block l (pre ++ [e]) out
        rw [h7] at h6
        rcases List.mem_append.1 h6 with h6 | h6
        · simpa using h6
        · exfalso
          have h9 := h8.subset h6
          obtain ⟨x, hx, hxe⟩ := List.mem_map.1 h9
          have hdd : d = x := may_id hm (List.mem_append.2 (Or.inl hd1)) (List.mem_append.2 (Or.inr (List.mem_cons_of_mem _ hx))) hxe.symm
          subst hdd
          -- d stands on both sides
          obtain ⟨u, v, rfl⟩ := List.append_of_mem hd1
          have hm' := hm
          rw [List.append_assoc, List.cons_append] at hm'
          have hs := splitId_mid hm' (pre := u) (c := d) (post := v ++ e :: l) rfl
          obtain ⟨u2, v2, rfl⟩ := List.append_of_mem hx
          have hs2 := splitId_mid hm' (pre := u ++ d :: (v ++ e :: u2)) (c := d) (post := v2) (by simp)
          rw [hs] at hs2
          injection hs2 with hs2
          simp only [Prod.mk.injEq] at hs2
          have := congrArg List.length hs2.1
          simp at this
    · have hl' : (pre ++ [e]) ++ l = p ++ c :: q := by rw [List.append_assoc]; exact hl
      have hm' : mayN b ((pre ++ [e]) ++ l) = true := by rw [List.append_assoc]; exact hm
      unfold readyGo at hk ⊢
      split
      · rename_i hc
        rw [if_pos hc] at hk
        exact ih (pre ++ [e]) _ b hm' p c q hl' (by simp; omega) hcb hk
      · rename_i hc
        rw [if_neg hc] at hk
        exact ih (pre ++ [e]) _ b hm' p c q hl' (by simp; omega) hcb hk
theorem readyC_full {l : List Cg} {block : Int} (hm : mayC l = true) {p q : List Cg} {c : Cg} (hl : l = p ++ c :: q) (hcb : c.block = block) (hk : ∀ d ∈ p, keepsB d c = true → d.id ∈ readyC l block) : c.id ∈ readyC l block := by
  unfold readyC at hk ⊢
  rw [if_pos hm] at hk ⊢
  exact readyGo_full block l [] [] 0 hm p c q hl (Nat.zero_le _) hcb hk

end Go.Proofs.YtpmbpklbiocclaaGreat

/-
  All that a change needs; how deep that goes; rows of blocks by which it is done, and by which all is. Plain; no program is named here.
-/
namespace Go.Proofs.YtpmbpklbiocclaaGreat

theorem RiseI.len {a b : List Int} (ha : RiseI a) (hb : RiseI b) (h : ∀ x ∈ a, x ∈ b) : a.length ≤ b.length := by
  induction b generalizing a with
  | nil =>
    cases a with
    | nil => exact Nat.le_refl _
    | cons x a => exact absurd (h x (by simp)) (by simp)
  | cons y b ih =>
    obtain ⟨h3, h4⟩ := List.pairwise_cons.1 hb
    cases a with
    | nil => exact Nat.zero_le _
    | cons x a =>
      obtain ⟨h1, h2⟩ := List.pairwise_cons.1 ha
      refine Nat.succ_le_succ (ih h2 h4 fun z hz => ?_)
      have hxz := h1 z hz
      rcases List.mem_cons.1 (h z (List.mem_cons_of_mem _ hz)) with e | e
      · exfalso
        rcases List.mem_cons.1 (h x (by simp)) with e' | e'
        · omega
        · have := h3 x e'; omega
      · exact e
theorem RiseI.sub {a b : List Int} (hb : RiseI b) (h : a.Sublist b) : RiseI a := List.Pairwise.sublist h hb
theorem ids_rise {b : Int} {l : List Cg} (hm : mayN b l = true) : RiseI (l.map (·.id)) := by
  induction l generalizing b with
  | nil => exact List.Pairwise.nil
  | cons c l ih =>
    obtain ⟨_, h2⟩ := mayN_cons.1 hm
    refine List.pairwise_cons.2 ⟨fun x hx => ?_, ih h2⟩
    obtain ⟨d, hd, rfl⟩ := List.mem_map.1 hx
    exact mayN_gt h2 d hd
theorem ahead_lt {b : Int} {l p q : List Cg} {c : Cg} (hm : mayN b l = true) (hl : l = p ++ c :: q) : ∀ d ∈ p, d.id < c.id := by
  subst hl
  induction p generalizing b with
  | nil => intro d hd; simp at hd
  | cons e p ih =>
    rw [List.cons_append] at hm
    obtain ⟨_, h2⟩ := mayN_cons.1 hm
    intro d hd
    rcases List.mem_cons.1 hd with rfl | hd
    · exact mayN_gt h2 c (by simp)
    · exact ih h2 d hd
theorem mem_split {l : List Cg} {c : Cg} (h : c ∈ l) : ∃ p q, l = p ++ c :: q := List.append_of_mem h
theorem waitsC_lt {l : List Cg} (hm : mayC l = true) {x y : Int} (h : y ∈ waitsC l x) : y < x := by
  unfold waitsC at h
  rw [if_pos hm] at h
  cases hs : splitId x l with
  | none => rw [hs] at h; simp at h
  | some pc =>
    obtain ⟨p, c⟩ := pc
    rw [hs] at h
    obtain ⟨h1, q, h2, _⟩ := splitId_some hs
    obtain ⟨d, hd, rfl⟩ := List.mem_map.1 h
    have := ahead_lt hm h2 d (List.mem_filter.1 hd).1
    omega
theorem waitsC_mem {l : List Cg} {x y : Int} (h : y ∈ waitsC l x) : ∃ d ∈ l, d.id = y := by
  unfold waitsC at h
  split at h
  · cases hs : splitId x l with
    | none => rw [hs] at h; simp at h
    | some pc =>
      obtain ⟨p, c⟩ := pc
      rw [hs] at h
      obtain ⟨_, q, h2, _⟩ := splitId_some hs
      obtain ⟨d, hd, rfl⟩ := List.mem_map.1 h
      exact ⟨d, by rw [h2]; exact List.mem_append.2 (Or.inl (List.mem_filter.1 hd).1), rfl⟩
  · simp at h

def allGo : List Cg → List Int → List Int
  | [], _ => []
  | c :: r, want => if c.id ∈ want then allGo r (want ++ (r.filter fun d => keepsB d c).map (·.id)) ++ [c.id] else allGo r want
def allC (l : List Cg) (id : Int) : List Int := if mayC l = true ∧ ∃ c ∈ l, c.id = id then allGo l.reverse [id] else []
theorem allGo_sub : ∀ (r : List Cg) (want : List Int), (allGo r want).Sublist (r.reverse.map (·.id)) := by
  intro r
  induction r with
  | nil => intro _; exact List.Sublist.refl _
  | cons c r ih =>
    intro want
    unfold allGo
    rw [List.reverse_cons, List.map_append]
    split
    · exact List.Sublist.append (ih _) (List.Sublist.refl _)
    · exact List.Sublist.trans (ih _) (List.sublist_append_left _ _)
theorem allGo_want : ∀ (r : List Cg) (want : List Int), ∀ c ∈ r, c.id ∈ want → c.id ∈ allGo r want := by
  intro r
  induction r with
  | nil => intro _ c hc; simp at hc
  | cons e r ih =>
    intro want c hc hw
    unfold allGo
    rcases List.mem_cons.1 hc with rfl | hc1
    · rw [if_pos hw]
      simp
    · split
      · exact List.mem_append.2 (Or.inl (ih _ c hc1 (List.mem_append.2 (Or.inl hw))))
      · exact ih _ c hc1 hw
theorem allGo_from : ∀ (r : List Cg) (want : List Int), ∀ x ∈ allGo r want, x ∈ want ∨ ∃ u c v, r = u ++ c :: v ∧ c.id ∈ allGo r want ∧ ∃ d ∈ v, d.id = x ∧ keepsB d c = true := by
  intro r
  induction r with
  | nil => intro _ x hx; simp [allGo] at hx
  | cons e r ih =>
    intro want x hx
    unfold allGo at hx ⊢
    by_cases he : e.id ∈ want
    · rw [if_pos he] at hx ⊢
      rcases List.mem_append.1 hx with hx | hx
      · rcases ih _ x hx with h | ⟨u, c, v, h1, h2, h3⟩
        · rcases List.mem_append.1 h with h | h
          · exact Or.inl h
          · obtain ⟨d, hd, rfl⟩ := List.mem_map.1 h
            obtain ⟨hd1, hd2⟩ := List.mem_filter.1 hd
            exact Or.inr ⟨[], e, r, rfl, by simp, d, hd1, rfl, hd2⟩
        · exact Or.inr ⟨e :: u, c, v, by rw [h1]; rfl, List.mem_append.2 (Or.inl h2), h3⟩
      · rw [List.mem_singleton] at hx
        subst hx
        exact Or.inl he
    · rw [if_neg he] at hx ⊢
      rcases ih _ x hx with h | ⟨u, c, v, h1, h2, h3⟩
      · exact Or.inl h
      · exact Or.inr ⟨e :: u, c, v, by rw [h1]; rfl, h2, h3⟩
theorem allGo_closed : ∀ (r : List Cg) (want : List Int), r.Pairwise (fun c d => d.id < c.id) → ∀ u c v, r = u ++ c :: v → c.id ∈ allGo r want → ∀ d ∈ v, keepsB d c = true → d.id ∈ allGo r want := by
  intro r
  induction r with
  | nil => intro _ _ u c v h; simp at h
  | cons e r ih =>
    intro want hp u c v hr hc d hd hk
    obtain ⟨h1, h2⟩ := List.pairwise_cons.1 hp
    cases u with
    | nil =>
      simp only [List.nil_append, List.cons.injEq] at hr
      obtain ⟨rfl, rfl⟩ := hr
      unfold allGo at hc ⊢
      by_cases he : e.id ∈ want
      · rw [if_pos he]
        exact List.mem_append.2 (Or.inl (allGo_want r _ d hd (List.mem_append.2 (Or.inr (List.mem_map.2 ⟨d, List.mem_filter.2 ⟨hd, hk⟩, rfl⟩)))))
      · exfalso
        rw [if_neg he] at hc
        have h5 := (allGo_sub r want).subset hc
        obtain ⟨x, hx, hxe⟩ := List.mem_map.1 h5
        have := h1 x (List.mem_reverse.1 hx)
        omega
    | cons e' u =>
      simp only [List.cons_append, List.cons.injEq] at hr
      obtain ⟨rfl, hr⟩ := hr
      have hcr : c ∈ r := by rw [hr]; simp
      have hne : c.id ≠ e.id := by have := h1 c hcr; omega
      unfold allGo at hc ⊢
      split
      · rename_i he
        rw [if_pos he] at hc
        rcases List.mem_append.1 hc with hc | hc
        · exact List.mem_append.2 (Or.inl (ih _ h2 u c v hr hc d hd hk))
        · rw [List.mem_singleton] at hc
          exact absurd hc hne
      · rename_i he
        rw [if_neg he] at hc
        exact ih _ h2 u c v hr hc d hd hk
theorem rev_fall {b : Int} {l : List Cg} (hm : mayN b l = true) : l.reverse.Pairwise (fun c d => d.id < c.id) := by
  rw [List.pairwise_reverse]
  have h := ids_rise hm
  unfold RiseI at h
  rwa [List.pairwise_map] at h

section
variable {l : List Cg} {id : Int} (hm : mayC l = true) (hid : ∃ c ∈ l, c.id = id)
include hm hid
theorem allC_eq : allC l id = allGo l.reverse [id] := by unfold allC; rw [if_pos ⟨hm, hid⟩]
theorem allC_sub : (allC l id).Sublist (l.map (·.id)) := by
  rw [allC_eq hm hid]
  have h := allGo_sub l.reverse [id]
  rwa [List.reverse_reverse] at h
theorem allC_rise : RiseI (allC l id) := RiseI.sub (ids_rise hm) (allC_sub hm hid)
theorem allC_self : id ∈ allC l id := by
  obtain ⟨c, hc, rfl⟩ := hid
  rw [allC_eq hm ⟨c, hc, rfl⟩]
  exact allGo_want _ _ c (List.mem_reverse.2 hc) (by simp)
theorem allC_closed {x y : Int} (hx : x ∈ allC l id) (hy : y ∈ waitsC l x) : y ∈ allC l id := by
  rw [allC_eq hm hid] at hx ⊢
  unfold waitsC at hy
  rw [if_pos hm] at hy
  cases hs : splitId x l with
  | none => rw [hs] at hy; simp at hy
  | some pc =>
    obtain ⟨p, c⟩ := pc
    rw [hs] at hy
    obtain ⟨h1, q, h2, _⟩ := splitId_some hs
    obtain ⟨d, hd, rfl⟩ := List.mem_map.1 hy
    obtain ⟨hd1, hd2⟩ := List.mem_filter.1 hd
    rw [← h1] at hx
    exact allGo_closed _ _ (rev_fall hm) q.reverse c p.reverse (by rw [h2]; simp) hx d (List.mem_reverse.2 hd1) hd2
theorem allC_from {x : Int} (hx : x ∈ allC l id) : x = id ∨ ∃ z ∈ allC l id, x ∈ waitsC l z := by
  rw [allC_eq hm hid] at hx ⊢
  rcases allGo_from _ _ x hx with h | ⟨u, c, v, h1, h2, d, hd, rfl, hk⟩
  · exact Or.inl (by simpa using h)
  · refine Or.inr ⟨c.id, h2, ?_⟩
    have hl : l = v.reverse ++ c :: u.reverse := by
      have := congrArg List.reverse h1
      rw [List.reverse_reverse] at this
      rw [this]
      simp
    rw [waitsC_mid hm hl]
    exact List.mem_map.2 ⟨d, List.mem_filter.2 ⟨List.mem_reverse.2 hd, hk⟩, rfl⟩
theorem allC_le {x : Int} (hx : x ∈ allC l id) : x ≤ id := by
  have key : ∀ n : Nat, ∀ x ∈ allC l id, (l.map (·.id)).length ≤ n + (l.map (·.id)).countP (fun z => decide (z ≤ x)) → x ≤ id := by
    intro n
    induction n with
    | zero =>
      intro x hx hn
      rcases allC_from hm hid hx with h | ⟨z, hz, hxz⟩
      · omega
      · exfalso
        have hzx := waitsC_lt hm hxz
        have hall := List.countP_eq_length.1 (Nat.le_antisymm List.countP_le_length (by rw [Nat.zero_add] at hn; exact hn))
        have hzm := (allC_sub hm hid).subset hz
        have := hall z hzm
        simp at this
        omega
    | succ n ih =>
      intro x hx hn
      rcases allC_from hm hid hx with h | ⟨z, hz, hxz⟩
      · omega
      · have hzx := waitsC_lt hm hxz
        have hzm := (allC_sub hm hid).subset hz
        have hlt : (l.map (·.id)).countP (fun y => decide (y ≤ x)) < (l.map (·.id)).countP (fun y => decide (y ≤ z)) := by
          have h1 : (l.map (·.id)).countP (fun y => decide (y ≤ z)) = (l.map (·.id)).countP (fun y => decide (y ≤ x)) + (l.map (·.id)).countP (fun y => decide (x < y) && decide (y ≤ z)) := by
            generalize l.map (·.id) = a
            induction a with
            | nil => rfl
            | cons y a ih =>
              simp only [List.countP_cons, ih]
              by_cases q1 : y ≤ x
              · have q2 : y ≤ z := by omega
                have q3 : ¬ x < y := by omega
                simp [q1, q2, q3]
                omega
              · by_cases q2 : y ≤ z
                · have q3 : x < y := by omega
                  simp [q1, q2, q3]
                  omega
                · simp [q1, q2]
          have h2 : 0 < (l.map (·.id)).countP (fun y => decide (x < y) && decide (y ≤ z)) := List.countP_pos_iff.2 ⟨z, hzm, by simp; omega⟩
          omega
        have := ih z hz (by omega)
        omega
  exact key _ x hx (Nat.le_add_right _ _)
end

end Go.Proofs.YtpmbpklbiocclaaGreat

/-
  Rows of blocks: by which a change is done, by which all is; how deep. Plain; no program is named here.
-/
namespace Go.Proofs.YtpmbpklbiocclaaGreat

def HasId (l : List Cg) (a : Int) : Prop := ∃ c ∈ l, c.id = a
instance (l : List Cg) (a : Int) : Decidable (HasId l a) := decidable_of_iff (a ∈ l.map (·.id)) (by
  unfold HasId
  rw [List.mem_map])
theorem leftC_may {l : List Cg} (b : Int) (hm : mayC l = true) : mayC (leftC l b) = true := withoutC_may _ hm
theorem leftC_has {l : List Cg} {b a : Int} (h : HasId (leftC l b) a) : HasId l a := by
  obtain ⟨c, hc, he⟩ := h
  exact ⟨c, (List.mem_filter.1 hc).1, he⟩
theorem leftC_done {l : List Cg} {b a : Int} (h : a ∈ readyC l b) : ¬ HasId (leftC l b) a := by
  rintro ⟨c, hc, rfl⟩
  have h2 := (List.mem_filter.1 hc).2
  have h3 : (readyC l b).contains c.id = true := by simpa using h
  simp only [h3] at h2
  cases h2
def afterC (l : List Cg) (blocks : List Int) : List Cg := blocks.foldl leftC l
theorem afterC_cons (l : List Cg) (b : Int) (r : List Int) : afterC l (b :: r) = afterC (leftC l b) r := rfl

theorem allC_none {l : List Cg} {id : Int} (h : ¬ HasId l id) : allC l id = [] := by
  unfold allC
  rw [if_neg fun hh => h hh.2]
theorem allC_mono {l l' : List Cg} {id e : Int} (hm : mayC l = true) (hm' : mayC l' = true) (hid : HasId l id) (he : HasId l' e) (hin : e ∈ allC l id) (hw : ∀ z, HasId l' z → ∀ y ∈ waitsC l' z, y ∈ waitsC l z) : ∀ z ∈ allC l' e, z ∈ allC l id := by
  have key : ∀ n : Nat, ∀ z ∈ allC l' e, (e - z).toNat ≤ n → z ∈ allC l id := by
    intro n
    induction n with
    | zero =>
      intro z hz hn
      rcases allC_from hm' he hz with h | ⟨y, hy, hzy⟩
      · rw [h]; exact hin
      · have h1 := waitsC_lt hm' hzy
        have h2 := allC_le hm' he hy
        omega
    | succ n ih =>
      intro z hz hn
      rcases allC_from hm' he hz with h | ⟨y, hy, hzy⟩
      · rw [h]; exact hin
      · have h1 := waitsC_lt hm' hzy
        have h2 := allC_le hm' he hy
        have h3 := ih y hy (by omega)
        have hyl : HasId l' y := by
          obtain ⟨c, hc, hcy⟩ := List.mem_map.1 ((allC_sub hm' he).subset hy)
          exact ⟨c, hc, hcy⟩
        exact allC_closed hm hid h3 (hw y hyl z hzy)
  intro z hz
  exact key _ z hz (Nat.le_refl _)



theorem RiseI.fits {a : List Int} (ha : RiseI a) : ∀ r : List Int, (∀ x ∈ a, x ∈ r) → a.length ≤ r.length := by
  induction a with
  | nil => intro r _; exact Nat.zero_le _
  | cons x a ih =>
    intro r h
    obtain ⟨h1, h2⟩ := List.pairwise_cons.1 ha
    have hx := h x (by simp)
    have h3 := ih h2 (r.erase x) fun y hy => (List.mem_erase_of_ne (by have := h1 y hy; omega)).2 (h y (List.mem_cons_of_mem _ hy))
    rw [List.length_erase_of_mem hx] at h3
    have := List.length_pos_of_mem hx
    rw [List.length_cons]
    omega

def maxL : List Nat → Nat
  | [] => 0
  | x :: l => max x (maxL l)
theorem maxL_le {l : List Nat} {m : Nat} (h : ∀ x ∈ l, x ≤ m) : maxL l ≤ m := by
  induction l with
  | nil => exact Nat.zero_le _
  | cons x l ih =>
    have h1 := h x (by simp)
    have h2 := ih fun y hy => h y (List.mem_cons_of_mem _ hy)
    unfold maxL
    omega
def deepGo : List (Cg × Nat) → List Cg → List (Cg × Nat)
  | acc, [] => acc
  | acc, c :: l => deepGo (acc ++ [(c, maxL ((acc.filter fun d => keepsB d.1 c).map (·.2)) + 1)]) l
theorem deepGo_spec {l0 : List Cg} (hm : mayC l0 = true) : ∀ (l : List Cg) (acc : List (Cg × Nat)), l0 = acc.map (·.1) ++ l → (∀ x ∈ acc, x.2 ≤ (allC l0 x.1.id).length) → (deepGo acc l).map (·.1) = l0 ∧ ∀ x ∈ deepGo acc l, x.2 ≤ (allC l0 x.1.id).length := by
  intro l
  induction l with
  | nil => intro acc hl h; exact ⟨by rw [hl]; simp [deepGo], h⟩
  | cons c l ih =>
    intro acc hl h
    unfold deepGo
    refine ih _ (by rw [hl]; simp) fun x hx => ?_
    rcases List.mem_append.1 hx with hx | hx
    · exact h x hx
    · rw [List.mem_singleton] at hx
      subst hx
      have hc : HasId l0 c.id := ⟨c, by rw [hl]; simp, rfl⟩
      have hpos : 1 ≤ (allC l0 c.id).length := List.length_pos_of_mem (allC_self hm hc)
      have key : maxL ((acc.filter fun d => keepsB d.1 c).map (·.2)) ≤ (allC l0 c.id).length - 1 := maxL_le fun y hy => by
        obtain ⟨d, hd, rfl⟩ := List.mem_map.1 hy
        obtain ⟨hd1, hd2⟩ := List.mem_filter.1 hd
        have hdl : d.1 ∈ acc.map (·.1) := List.mem_map.2 ⟨d, hd1, rfl⟩
        have hdm : HasId l0 d.1.id := ⟨d.1, by rw [hl]; exact List.mem_append.2 (Or.inl hdl), rfl⟩
        have hw : d.1.id ∈ waitsC l0 c.id := by
          rw [waitsC_mid hm hl]
          exact List.mem_map.2 ⟨d.1, List.mem_filter.2 ⟨hdl, hd2⟩, rfl⟩
        have hda := allC_closed hm hc (allC_self hm hc) hw
        have hlt := waitsC_lt hm hw
        have hsub := allC_mono hm hm hc hdm hda (fun z _ y hy => hy)
        have hle : (allC l0 d.1.id ++ [c.id]).length ≤ (allC l0 c.id).length := RiseI.len (RiseI.snoc (allC_rise hm hdm) fun y hy => by
          have := allC_le hm hdm hy
          omega) (allC_rise hm hc) fun y hy => by
          rcases List.mem_append.1 hy with hy | hy
          · exact hsub y hy
          · rw [List.mem_singleton] at hy
            rw [hy]
            exact allC_self hm hc
        rw [List.length_append, List.length_singleton] at hle
        have := h d hd1
        omega
      show maxL _ + 1 ≤ (allC l0 c.id).length
      omega
def depthC (l : List Cg) (id : Int) : Nat := if mayC l then (((deepGo [] l).find? fun x => decide (x.1.id = id)).map (·.2)).getD 0 else 0
theorem depthC_le {l : List Cg} {id : Int} (hm : mayC l = true) : depthC l id ≤ (allC l id).length := by
  unfold depthC
  rw [if_pos hm]
  obtain ⟨_, h⟩ := deepGo_spec hm l [] rfl (fun x hx => by simp at hx)
  cases hf : (deepGo [] l).find? fun x => decide (x.1.id = id) with
  | none => exact Nat.zero_le _
  | some x =>
    have h1 := h x (List.mem_of_find?_eq_some hf)
    have h2 := List.find?_some hf
    have h3 : x.1.id = id := by simpa using h2
    rw [h3] at h1
    exact h1

end Go.Proofs.YtpmbpklbiocclaaGreat

/-
  A cache as lists: all changes that were made, those that are left, what the device has; what holds between these behind each put and each flush. Plain; no program is named here.
-/
namespace Go.Proofs.YtpmbpklbiocclaaGreat

def Cg.key (c : Cg) : Int × Int × Pt := (c.id, c.block, c.p)
theorem key_filter {l l' : List Cg} (h : l.map Cg.key = l'.map Cg.key) (f : Int × Int × Pt → Bool) : (l.filter fun c => f c.key).map Cg.key = (l'.filter fun c => f c.key).map Cg.key := by
  have e : ∀ a : List Cg, (a.filter fun c => f c.key).map Cg.key = (a.map Cg.key).filter f := fun a => by
    rw [List.filter_map]
    rfl
  rw [e, e, h]
theorem key_laid {l l' : List Cg} (h : l.map Cg.key = l'.map Cg.key) (L : List UInt8) : laidC L l = laidC L l' := by
  have e : ∀ a : List Cg, a.map (·.p) = (a.map Cg.key).map (·.2.2) := fun a => by
    rw [List.map_map]
    rfl
  unfold laidC
  rw [e, e, h]
theorem key_ofC {l l' : List Cg} (h : l.map Cg.key = l'.map Cg.key) (b : Int) : (ofC l b).map Cg.key = (ofC l' b).map Cg.key := key_filter h fun k => decide (k.2.1 = b)
theorem leftC_iff {l : List Cg} {b a : Int} : HasId (leftC l b) a ↔ HasId l a ∧ a ∉ readyC l b := by
  constructor
  · intro h
    exact ⟨leftC_has h, fun hr => leftC_done hr h⟩
  · rintro ⟨⟨c, hc, rfl⟩, hn⟩
    exact ⟨c, List.mem_filter.2 ⟨hc, by simpa using hn⟩, rfl⟩

structure CInv (z : List UInt8) (H l : List Cg) (base : Int → List UInt8) : Prop where
  may : mayC l = true
  ids : ∀ k (h : k < H.length), H[k].id = (k : Int) + 1
  sub : l.map Cg.key = (H.filter fun c => decide (HasId l c.id)).map Cg.key
  need : ∀ c ∈ l, ∀ c0 ∈ H, c0.id = c.id → ∀ n ∈ c0.needs, HasId l n → n ∈ c.needs
  len : ∀ b, (base b).length = 256
  dev : ∀ b, base b = laidC z ((ofC H b).filter fun c => !decide (HasId l c.id))
  far : ∀ d ∈ l, ∀ c ∈ H, ¬ HasId l c.id → d.id < c.id → d.block = c.block → meetP d.p c.p = false
  closed : ∀ c ∈ H, ¬ HasId l c.id → ∀ n ∈ c.needs, ¬ HasId l n
  below : ∀ c ∈ H, ∀ n ∈ c.needs, n < c.id

theorem CInv.start {z : List UInt8} (hz : z.length = 256) : CInv z [] [] (fun _ => z) :=
  ⟨rfl, fun _ h => absurd h (by simp), rfl, fun _ h => by simp at h, fun _ => hz, fun _ => rfl, fun _ h => by simp at h, fun _ h => by simp at h, fun _ h => by simp at h⟩
section
variable {z : List UInt8} {H l : List Cg} {base : Int → List UInt8}
theorem CInv.id_mem (h : CInv z H l base) {c : Cg} (hc : c ∈ H) : 1 ≤ c.id ∧ c.id ≤ H.length := by
  obtain ⟨k, hk, rfl⟩ := List.getElem_of_mem hc
  have := h.ids k hk
  omega
theorem CInv.in_H (h : CInv z H l base) {a : Int} (ha : HasId l a) : HasId H a := by
  obtain ⟨c, hc, rfl⟩ := ha
  have h1 : c.key ∈ l.map Cg.key := List.mem_map.2 ⟨c, hc, rfl⟩
  rw [h.sub] at h1
  obtain ⟨d, hd, he⟩ := List.mem_map.1 h1
  exact ⟨d, (List.mem_filter.1 hd).1, congrArg (·.1) he⟩
theorem CInv.id_le (h : CInv z H l base) {a : Int} (ha : HasId l a) : 1 ≤ a ∧ a ≤ H.length := by
  obtain ⟨c, hc, rfl⟩ := h.in_H ha
  exact h.id_mem hc
theorem CInv.fall (h : CInv z H l base) : H.Pairwise (fun c d => c.id < d.id) := by
  rw [List.pairwise_iff_getElem]
  intro i j hi hj hij
  rw [h.ids i hi, h.ids j hj]
  omega
theorem CInv.one (h : CInv z H l base) {c d : Cg} (hc : c ∈ H) (hd : d ∈ H) (he : c.id = d.id) : c = d := by
  obtain ⟨i, hi, rfl⟩ := List.getElem_of_mem hc
  obtain ⟨j, hj, rfl⟩ := List.getElem_of_mem hd
  rw [h.ids i hi, h.ids j hj] at he
  have : i = j := by omega
  subst this
  rfl
theorem CInv.of_left (h : CInv z H l base) {c : Cg} (hc : c ∈ l) : ∃ c0 ∈ H, c0.id = c.id ∧ c0.block = c.block ∧ c0.p = c.p := by
  have h1 : c.key ∈ l.map Cg.key := List.mem_map.2 ⟨c, hc, rfl⟩
  rw [h.sub] at h1
  obtain ⟨d, hd, he⟩ := List.mem_map.1 h1
  exact ⟨d, (List.mem_filter.1 hd).1, congrArg (·.1) he, congrArg (·.2.1) he, congrArg (·.2.2) he⟩
theorem CInv.to_left (h : CInv z H l base) {c : Cg} (hc : c ∈ H) (hl : HasId l c.id) : ∃ c1 ∈ l, c1.id = c.id ∧ c1.block = c.block ∧ c1.p = c.p := by
  have h1 : c.key ∈ (H.filter fun c => decide (HasId l c.id)).map Cg.key := List.mem_map.2 ⟨c, List.mem_filter.2 ⟨hc, decide_eq_true hl⟩, rfl⟩
  rw [← h.sub] at h1
  obtain ⟨d, hd, he⟩ := List.mem_map.1 h1
  exact ⟨d, hd, congrArg (·.1) he, congrArg (·.2.1) he, congrArg (·.2.2) he⟩
theorem CInv.view (h : CInv z H l base) (hz : z.length = 256) (b : Int) : viewC (base b) l b = laidC z (ofC H b) := by
  unfold viewC
  rw [if_pos h.may, h.dev b]
  have e := key_laid (key_ofC h.sub b) (laidC z ((ofC H b).filter fun c => !decide (HasId l c.id)))
  rw [e]
  have e2 : ofC (H.filter fun c => decide (HasId l c.id)) b = (ofC H b).filter fun c => decide (HasId l c.id) := by
    unfold ofC
    rw [List.filter_filter, List.filter_filter]
    congr 1
    funext c
    rw [Bool.and_comm]
  rw [e2]
  have hp := laid_parts (fun c => !decide (HasId l c.id)) (ofC H b) z hz (by
    have hpw : (ofC H b).Pairwise (fun c d => c.id < d.id) := List.Pairwise.sublist List.filter_sublist h.fall
    refine List.Pairwise.imp_of_mem ?_ hpw
    intro d c hd hc hlt hf1 hf2
    obtain ⟨hd1, hd2⟩ := List.mem_filter.1 hd
    obtain ⟨hc1, hc2⟩ := List.mem_filter.1 hc
    have hdl : HasId l d.id := by simpa using hf1
    have hcl : ¬ HasId l c.id := by simpa using hf2
    obtain ⟨d1, hd3, e1, e2, e3⟩ := h.to_left hd1 hdl
    have hb1 : d.block = b := by simpa using hd2
    have hb2 : c.block = b := by simpa using hc2
    have := h.far d1 hd3 c hc1 hcl (by omega) (by rw [e2, hb1, hb2])
    rwa [e3] at this)
  simp only [Bool.not_not] at hp
  exact hp.symm
theorem CInv.put (h : CInv z H l base) (c0 : Cg) (c : Cg) (hid : c0.id = (H.length : Int) + 1) (hk : c.key = c0.key) (hmay : mayC (l ++ [c]) = true) (hn : ∀ n ∈ c0.needs, HasId l n → n ∈ c.needs) (hn1 : ∀ n ∈ c0.needs, n ≤ H.length) : CInv z (H ++ [c0]) (l ++ [c]) base := by
  have hcid : c.id = (H.length : Int) + 1 := by rw [← hid]; exact congrArg (·.1) hk
  have hhas : ∀ a, HasId (l ++ [c]) a ↔ HasId l a ∨ a = (H.length : Int) + 1 := fun a => by
    unfold HasId
    constructor
    · rintro ⟨d, hd, rfl⟩
      rcases List.mem_append.1 hd with hd | hd
      · exact Or.inl ⟨d, hd, rfl⟩
      · rw [List.mem_singleton] at hd
        subst hd
        exact Or.inr hcid
    · rintro (⟨d, hd, rfl⟩ | rfl)
      · exact ⟨d, List.mem_append.2 (Or.inl hd), rfl⟩
      · exact ⟨c, by simp, hcid⟩
  have hold : ∀ x ∈ H, (HasId (l ++ [c]) x.id ↔ HasId l x.id) := fun x hx => by
    have := h.id_mem hx
    rw [hhas]
    constructor
    · rintro (h1 | h1)
      · exact h1
      · omega
    · exact Or.inl
  have hnew : HasId (l ++ [c]) c0.id := (hhas _).2 (Or.inr hid)
  refine ⟨hmay, fun k hk' => ?_, ?_, ?_, h.len, fun b => ?_, ?_, ?_, ?_⟩
  · by_cases hlt : k < H.length
    · rw [List.getElem_append_left hlt]
      exact h.ids k hlt
    · have : k = H.length := by simp at hk'; omega
      subst this
      simp only [List.getElem_append_right (Nat.le_refl _), Nat.sub_self, List.getElem_cons_zero]
      exact hid
  · rw [List.filter_append, List.map_append, List.map_append]
    have e1 : (H.filter fun x => decide (HasId (l ++ [c]) x.id)) = H.filter fun x => decide (HasId l x.id) := List.filter_congr fun x hx => by rw [decide_eq_decide]; exact hold x hx
    rw [e1, ← h.sub, List.filter_cons, if_pos (decide_eq_true hnew)]
    simp [hk]
  · intro x hx x0 hx0 he n hn2 hnl
    rcases List.mem_append.1 hx with hx | hx <;> rcases List.mem_append.1 hx0 with hx0 | hx0
    · rcases (hhas n).1 hnl with h1 | h1
      · exact h.need x hx x0 hx0 he n hn2 h1
      · exfalso
        have h2 := h.below x0 hx0 n hn2
        have h3 := (h.id_mem hx0).2
        omega
    · rw [List.mem_singleton] at hx0
      subst hx0
      have := (h.id_le ⟨x, hx, rfl⟩).2
      omega
    · rw [List.mem_singleton] at hx
      subst hx
      have := (h.id_mem hx0).2
      omega
    · rw [List.mem_singleton] at hx hx0
      subst hx; subst hx0
      rcases (hhas n).1 hnl with h1 | h1
      · exact hn n hn2 h1
      · have := hn1 n hn2; omega
  · rw [h.dev b]
    congr 1
    unfold ofC
    rw [List.filter_append, List.filter_append]
    have e1 : ((H.filter fun c => decide (c.block = b)).filter fun x => !decide (HasId (l ++ [c]) x.id)) = (H.filter fun c => decide (c.block = b)).filter fun x => !decide (HasId l x.id) := List.filter_congr fun x hx => by
      rw [decide_eq_decide.2 (hold x (List.mem_filter.1 hx).1)]
    have e2 : (([c0].filter fun c => decide (c.block = b)).filter fun x => !decide (HasId (l ++ [c]) x.id)) = [] := List.filter_eq_nil_iff.2 fun x hx => by
      have : x = c0 := by simpa using (List.mem_filter.1 hx).1
      subst this
      simp [hnew]
    rw [e1, e2, List.append_nil]
  · intro d hd x hx hxl hlt hb
    rcases List.mem_append.1 hx with hx | hx
    · rcases List.mem_append.1 hd with hd | hd
      · exact h.far d hd x hx (fun hh => hxl ((hold x hx).2 hh)) hlt hb
      · rw [List.mem_singleton] at hd
        subst hd
        have := (h.id_mem hx).2
        omega
    · rw [List.mem_singleton] at hx
      subst hx
      exact absurd hnew hxl
  · intro x hx hxl n hn2 hnl
    rcases List.mem_append.1 hx with hx | hx
    · have h1 : ¬ HasId l x.id := fun hh => hxl ((hold x hx).2 hh)
      rcases (hhas n).1 hnl with h2 | h2
      · exact h.closed x hx h1 n hn2 h2
      · have h3 := h.below x hx n hn2
        have h4 := (h.id_mem hx).2
        omega
    · rw [List.mem_singleton] at hx
      subst hx
      exact absurd hnew hxl
  · intro x hx n hn2
    rcases List.mem_append.1 hx with hx | hx
    · exact h.below x hx n hn2
    · rw [List.mem_singleton] at hx
      subst hx
      have := hn1 n hn2
      omega
theorem CInv.flush (h : CInv z H l base) (hz : z.length = 256) (b : Int) : CInv z H (leftC l b) (fun x => if x = b then imageC (base b) l b else base x) := by
  have hm := h.may
  have hready : ∀ a, a ∈ readyC l b → HasId l a := fun a ha => by
    obtain ⟨p, c, q, h1, h2, _⟩ := readyC_spec hm a ha
    exact ⟨c, by rw [h1]; simp, h2⟩
  -- one that is done now: its change in the list, and in what was made
  have hnow : ∀ c ∈ H, HasId l c.id → ¬ HasId (leftC l b) c.id → c.id ∈ readyC l b := fun c _ h1 h2 => by
    refine Decidable.byContradiction fun hn => h2 (leftC_iff.2 ⟨h1, hn⟩)
  have hblock : ∀ c ∈ H, c.id ∈ readyC l b → c.block = b := fun c hc hr => by
    obtain ⟨p, d, q, h1, h2, h3, _⟩ := readyC_spec hm _ hr
    obtain ⟨d0, k1, k2, k3, _⟩ := h.of_left (c := d) (by rw [h1]; simp)
    have := h.one hc k1 (by rw [k2, h2])
    rw [this, k3, h3]
  refine ⟨leftC_may b hm, h.ids, ?_, ?_, fun x => ?_, fun x => ?_, ?_, ?_, h.below⟩
  · have e : ∀ a : List Cg, (a.filter fun c => !(readyC l b).contains c.id) = a.filter fun c => (fun k : Int × Int × Pt => !(readyC l b).contains k.1) c.key := fun _ => rfl
    have e1 := key_filter h.sub (fun k : Int × Int × Pt => !(readyC l b).contains k.1)
    have e2 : leftC l b = l.filter fun c => (fun k : Int × Int × Pt => !(readyC l b).contains k.1) c.key := rfl
    rw [e2, e1, List.filter_filter]
    congr 1
    apply List.filter_congr
    intro c _
    rw [← e2, Bool.eq_iff_iff]
    simp only [Bool.and_eq_true, decide_eq_true_eq]
    rw [leftC_iff]
    constructor
    · rintro ⟨h1, h2⟩
      exact ⟨h2, by simpa [Cg.key] using h1⟩
    · rintro ⟨h1, h2⟩
      exact ⟨by simpa [Cg.key] using h2, h1⟩
  · intro c hc c0 hc0 he n hn hl
    exact h.need c (List.mem_filter.1 hc).1 c0 hc0 he n hn (leftC_has hl)
  · show (if x = b then imageC (base b) l b else base x).length = 256
    split
    · exact laidC_len _ (h.len b)
    · exact h.len x
  · show (if x = b then imageC (base b) l b else base x) = _
    by_cases hx : x = b
    · subst hx
      rw [if_pos rfl]
      unfold imageC
      rw [h.dev x]
      -- of the block: done before, and done now
      have hd : (doneC l x).map Cg.key = ((ofC H x).filter fun c => (readyC l x).contains c.id).map Cg.key := by
        have e1 := key_filter (key_ofC h.sub x) (fun k : Int × Int × Pt => (readyC l x).contains k.1)
        have e2 : doneC l x = (ofC l x).filter fun c => (fun k : Int × Int × Pt => (readyC l x).contains k.1) c.key := rfl
        rw [e2, e1]
        congr 1
        unfold ofC
        rw [List.filter_filter, List.filter_filter, List.filter_filter]
        apply List.filter_congr
        intro c hc
        rw [Bool.eq_iff_iff]
        simp only [Bool.and_eq_true, decide_eq_true_eq]
        constructor
        · rintro ⟨⟨h1, h2⟩, _⟩
          exact ⟨h1, h2⟩
        · rintro ⟨h1, h2⟩
          exact ⟨⟨h1, h2⟩, hready _ (by simpa [Cg.key] using h1)⟩
      rw [key_laid hd]
      have hp := laid_parts (fun c => !decide (HasId l c.id)) ((ofC H x).filter fun c => !decide (HasId (leftC l x) c.id)) z hz (by
        have hpw : ((ofC H x).filter fun c => !decide (HasId (leftC l x) c.id)).Pairwise (fun c d => c.id < d.id) := List.Pairwise.sublist (List.Sublist.trans List.filter_sublist List.filter_sublist) h.fall
        refine List.Pairwise.imp_of_mem ?_ hpw
        intro d c hd hc hlt hf1 hf2
        have hd1 := (List.mem_filter.1 (List.mem_filter.1 hd).1)
        have hc1 := (List.mem_filter.1 (List.mem_filter.1 hc).1)
        have hdl : HasId l d.id := by simpa using hf1
        have hcl : ¬ HasId l c.id := by simpa using hf2
        obtain ⟨d1, hd3, e1, e2, e3⟩ := h.to_left hd1.1 hdl
        have hb1 : d.block = x := by simpa using hd1.2
        have hb2 : c.block = x := by simpa using hc1.2
        have := h.far d1 hd3 c hc1.1 hcl (by omega) (by rw [e2, hb1, hb2])
        rwa [e3] at this)
      simp only [Bool.not_not] at hp
      rw [hp]
      have e1 : (((ofC H x).filter fun c => !decide (HasId (leftC l x) c.id)).filter fun c => !decide (HasId l c.id)) = (ofC H x).filter fun c => !decide (HasId l c.id) := by
        rw [List.filter_filter]
        apply List.filter_congr
        intro c _
        rw [Bool.eq_iff_iff]
        simp only [Bool.and_eq_true, Bool.not_eq_true', decide_eq_false_iff_not]
        exact ⟨fun h1 => h1.1, fun h1 => ⟨h1, fun h2 => h1 (leftC_has h2)⟩⟩
      have e2 : (((ofC H x).filter fun c => !decide (HasId (leftC l x) c.id)).filter fun c => decide (HasId l c.id)) = (ofC H x).filter fun c => (readyC l x).contains c.id := by
        rw [List.filter_filter]
        apply List.filter_congr
        intro c hc
        rw [Bool.eq_iff_iff]
        simp only [Bool.and_eq_true, Bool.not_eq_true', decide_eq_false_iff_not, decide_eq_true_eq]
        constructor
        · rintro ⟨h1, h2⟩
          simpa using hnow c (List.mem_filter.1 hc).1 h1 h2
        · intro h1
          have h2 : c.id ∈ readyC l x := by simpa using h1
          exact ⟨hready _ h2, leftC_done h2⟩
      rw [e1, e2]
    · rw [if_neg hx, h.dev x]
      congr 1
      apply List.filter_congr
      intro c hc
      rw [decide_eq_decide.2]
      constructor
      · intro h1
        refine leftC_iff.2 ⟨h1, fun hr => hx ?_⟩
        have h2 := hblock c (List.mem_filter.1 hc).1 hr
        have h3 : c.block = x := by simpa using (List.mem_filter.1 hc).2
        rw [← h3, h2]
      · exact leftC_has
  · intro d hd c hc hcl hlt hb
    have hd1 := (List.mem_filter.1 hd).1
    have hdn : d.id ∉ readyC l b := by simpa using (List.mem_filter.1 hd).2
    by_cases hc1 : HasId l c.id
    · have hcr := hnow c hc hc1 hcl
      obtain ⟨c1, k1, k2, k3, k4⟩ := h.to_left hc hc1
      have hcb := hblock c hc hcr
      -- c is ready, d stands ahead and is not
      obtain ⟨p, c2, q, h1, h2, _, h4⟩ := readyC_spec hm _ hcr
      have hcc : c2 = c1 := may_id hm (by rw [h1]; simp) k1 (by rw [h2, k2])
      subst hcc
      have hdp : d ∈ p := by
        rw [h1] at hd1
        rcases List.mem_append.1 hd1 with h5 | h5
        · exact h5
        · exfalso
          rcases List.mem_cons.1 h5 with h6 | h6
          · rw [h6, k2] at hlt; omega
          · have hm2 : mayN 0 (p ++ c2 :: q) = true := by rw [← h1]; exact hm
            have h7 : (p ++ c2 :: q).Pairwise (fun x y => x.id < y.id) := by
              have h8 := ids_rise hm2
              unfold RiseI at h8
              rwa [List.pairwise_map] at h8
            have h9 := (List.pairwise_cons.1 (List.pairwise_append.1 h7).2.1).1 d h6
            rw [k2] at h9
            omega
      rw [← k4]
      cases hmt : meetP d.p c2.p
      · rfl
      · exfalso
        refine hdn (h4 d hdp ?_)
        unfold keepsB
        rw [hmt, decide_eq_true (by rw [hb, k3])]
        rfl
    · exact h.far d hd1 c hc hc1 hlt hb
  · intro c hc hcl n hn hnl
    obtain ⟨hnl1, hnr⟩ := leftC_iff.1 hnl
    by_cases hc1 : HasId l c.id
    · have hcr := hnow c hc hc1 hcl
      obtain ⟨p, c2, q, h1, h2, _, h4⟩ := readyC_spec hm _ hcr
      have hc2 : c2 ∈ l := by rw [h1]; simp
      have hnn := h.need c2 hc2 c hc h2.symm n hn hnl1
      obtain ⟨d, hd, rfl⟩ := hnl1
      have hlt := h.below c hc _ hn
      have hdp : d ∈ p := by
        rw [h1] at hd
        rcases List.mem_append.1 hd with h5 | h5
        · exact h5
        · exfalso
          rcases List.mem_cons.1 h5 with h6 | h6
          · rw [h6, h2] at hlt; omega
          · have hm2 : mayN 0 (p ++ c2 :: q) = true := by rw [← h1]; exact hm
            have h7 : (p ++ c2 :: q).Pairwise (fun x y => x.id < y.id) := by
              have h8 := ids_rise hm2
              unfold RiseI at h8
              rwa [List.pairwise_map] at h8
            have h9 := (List.pairwise_cons.1 (List.pairwise_append.1 h7).2.1).1 d h6
            rw [h2] at h9
            omega
      refine hnr (h4 d hdp ?_)
      unfold keepsB
      rw [show c2.needs.contains d.id = true by simpa using hnn, Bool.or_true]
    · exact h.closed c hc hc1 n hn hnl1
end

end Go.Proofs.YtpmbpklbiocclaaGreat

/-
  Which changes of a block are ready, place by place, and which bytes those have that are not: as a loop goes through them. Plain; no program is named here.
-/
namespace Go.Proofs.YtpmbpklbiocclaaGreat

def rdN (l : List Cg) (block : Int) : Nat → List Int
  | 0 => []
  | i + 1 => if (l.getD i default).block = block ∧ ((waitsC l (l.getD i default).id).all fun x => (rdN l block i).contains x) = true then rdN l block i ++ [(l.getD i default).id] else rdN l block i
theorem rdN_succ {l : List Cg} {block : Int} {i : Nat} (hi : i < l.length) :
    rdN l block (i + 1) = if l[i].block = block ∧ ((waitsC l l[i].id).all fun x => (rdN l block i).contains x) = true then rdN l block i ++ [l[i].id] else rdN l block i := by
  have e : l.getD i default = l[i] := by simp [List.getD, hi]
  show (if _ then _ else _) = _
  rw [e]
theorem readyC_rdN {l : List Cg} (block : Int) (hm : mayC l = true) : readyC l block = rdN l block l.length := by
  have key : ∀ i, i ≤ l.length → readyC l block = readyGo block (l.take i) (rdN l block i) (l.drop i) := by
    intro i
    induction i with
    | zero => intro _; unfold readyC; rw [if_pos hm]; rfl
    | succ i ih =>
      intro hi
      rw [ih (by omega), readyGo_at hm (by omega), rdN_succ (by omega)]
  rw [key l.length (Nat.le_refl _), List.take_length, List.drop_length]
  rfl
theorem mayC_ids {l : List Cg} (hm : mayC l = true) {i j : Nat} (hi : i < l.length) (hj : j < l.length) (h : l[i].id = l[j].id) : i = j := by
  have key : ∀ (b : Int) (l : List Cg), mayN b l = true → ∀ i j (hj : j < l.length) (hij : i < j), (l[i]'(by omega)).id < l[j].id := by
    intro b l
    induction l generalizing b with
    | nil => intro _ i j hj; simp at hj
    | cons c l ih =>
      intro hm i j hj hij
      obtain ⟨h1, h2⟩ := mayN_cons.1 hm
      cases j with
      | zero => omega
      | succ j =>
        have hj' : j < l.length := by simpa using hj
        cases i with
        | zero =>
          have := mayN_gt h2 l[j] (List.getElem_mem hj')
          simpa using this
        | succ i =>
          have := ih c.id h2 i j hj' (by omega)
          simpa using this
  rcases Nat.lt_trichotomy i j with h1 | h1 | h1
  · have := key 0 l hm i j hj h1; omega
  · exact h1
  · have := key 0 l hm j i hi h1; omega
theorem rdN_len (l : List Cg) (block : Int) (i : Nat) : (rdN l block i).length ≤ i := by
  induction i with
  | zero => simp [rdN]
  | succ i ih =>
    unfold rdN
    split
    · rw [List.length_append]; simp; omega
    · omega
def hasId (l : List Cg) (x : Int) : Bool := l.any fun c => decide (c.id = x)
theorem hasId_iff {l : List Cg} {x : Int} : hasId l x = true ↔ ∃ c ∈ l, c.id = x := by unfold hasId; simp
theorem riseN_below {e b : Int} {l : List Int} (h : riseN e b l = true) : ∀ x ∈ l, x < e := by
  induction l generalizing b with
  | nil => simp
  | cons x l ih =>
    obtain ⟨_, h2, h3⟩ := riseN_cons.1 h
    intro y hy
    rcases List.mem_cons.1 hy with rfl | hy
    · exact h2
    · exact ih h3 y hy

end Go.Proofs.YtpmbpklbiocclaaGreat

/-
  A cache on its device, as the document has it: what is put, flushed, brought up to; and what holds at any time. Plain; no program is named here.
-/
namespace Go.Proofs.YtpmbpklbiocclaaGreat

structure DC where
  base : List (List UInt8)
  list : List Cg
  last : Nat
  fuse : Int
  off : Bool
  wrote : Nat
  knows : List Bool
structure StC where
  do_ : Int
  no : Int
  p : Pt
  needs : List Int
def DC.new (n : Nat) : DC := ⟨List.replicate n (zeros 256), [], 0, -1, false, 0, List.replicate n false⟩
def DC.has (x : DC) (no : Int) : Bool := decide (0 ≤ no) && decide (no < (x.knows.length : Int))
theorem DC.has_iff {x : DC} {no : Int} : x.has no = true ↔ 0 ≤ no ∧ no < (x.knows.length : Int) := by unfold DC.has; simp
def DC.kn (x : DC) (no : Int) : Bool := x.has no && x.knows.getD no.toNat false
def DC.knownE (x : DC) (no : Int) : Int := if x.kn no then 0 else if x.off then 12 else if x.has no then 0 else 2
def DC.known (x : DC) (no : Int) : DC := if x.knownE no = 0 then { x with knows := x.knows.set no.toNat true } else x
def DC.done (x : DC) (id : Int) : Bool := decide (1 ≤ id) && decide (id ≤ (x.last : Int)) && !hasId x.list id
def DC.bad (x : DC) (needs : List Int) : Bool := needs.any fun n => decide (n < 1) || decide ((x.last : Int) < n)
def DC.needsOf (x : DC) (needs : List Int) : List Int := ((List.range x.last).map fun (k : Nat) => (k : Int) + 1).filter fun n => needs.contains n && !x.done n
def DC.putE (x : DC) (s : StC) : Int := if !s.p.right then 1 else if x.bad s.needs then 1 else x.knownE s.no
def DC.putN (x : DC) (s : StC) : Int := if x.putE s = 0 then (x.last : Int) + 1 else 0
def DC.put (x : DC) (s : StC) : DC :=
  if x.putE s = 0 then { x with knows := x.knows.set s.no.toNat true, last := x.last + 1, list := x.list ++ [⟨(x.last : Int) + 1, s.no, s.p, x.needsOf s.needs⟩] } else x
def DC.stuck (x : DC) : Bool := x.off || decide (x.fuse = 0)
def DC.flushE (x : DC) (no : Int) : Int := if readyC x.list no = [] then 0 else if x.stuck then 12 else 0
def DC.flush (x : DC) (no : Int) : DC :=
  if readyC x.list no = [] then x else if x.stuck then { x with off := true } else
    { x with fuse := if 0 < x.fuse then x.fuse - 1 else x.fuse, base := x.base.set no.toNat (imageC (x.base.getD no.toNat (zeros 256)) x.list no), list := leftC x.list no, wrote := x.wrote + 1 }
def DC.uptoGo : Nat → DC → Int → DC × Int
  | 0, x, _ => (x, 0)
  | n + 1, x, id => match x.list with
    | [] => (x, 0)
    | c :: _ => if c.id ≤ id then (if x.flushE c.block = 0 then DC.uptoGo n (x.flush c.block) id else (x.flush c.block, x.flushE c.block)) else (x, 0)
def DC.upto (x : DC) (id : Int) : DC × Int := DC.uptoGo x.list.length x id
def DC.setFuse (x : DC) (n : Int) : DC := { x with fuse := if n < 0 then -1 else n }
def DC.up (x : DC) : DC := { x with fuse := -1, off := false }
def DC.go (x : DC) (s : StC) : DC × Int × Int :=
  if s.do_ = 0 then (x.put s, x.putN s, x.putE s) else if s.do_ = 1 then (x.flush s.no, 0, x.flushE s.no) else if s.do_ = 2 then ((x.upto s.no).1, 0, (x.upto s.no).2)
  else if s.do_ = 3 then ((x.upto (x.last : Int)).1, 0, (x.upto (x.last : Int)).2) else if s.do_ = 4 then (x.setFuse s.no, 0, 0) else if s.do_ = 5 then (x.up, 0, 0) else (x, 0, 0)

structure DC.Ok (x : DC) : Prop where
  may : mayC x.list = true
  ids : ∀ c ∈ x.list, c.id ≤ (x.last : Int)
  blk : ∀ c ∈ x.list, 0 ≤ c.block ∧ c.block < (x.base.length : Int)
  knw : ∀ c ∈ x.list, x.kn c.block = true
  bks : ∀ b ∈ x.base, b.length = 256
  kl : x.knows.length = x.base.length
  fuse : -1 ≤ x.fuse
  wrote : x.wrote + x.list.length ≤ x.last
  nlen : ∀ c ∈ x.list, c.needs.length ≤ x.last
theorem DC.new_ok (n : Nat) : (DC.new n).Ok :=
  ⟨rfl, fun _ h => (by cases h), fun _ h => (by cases h), fun _ h => (by cases h), fun b h => (by rw [List.eq_of_mem_replicate h]; exact List.length_replicate), (by simp [DC.new]), (by simp [DC.new]), (by simp [DC.new]), fun _ h => (by cases h)⟩

theorem riseN_of {e : Int} : ∀ (l : List Int) (b : Int), l.Pairwise (· < ·) → (∀ x ∈ l, b < x ∧ x < e) → riseN e b l = true := by
  intro l
  induction l with
  | nil => intro b _ _; rfl
  | cons x l ih =>
    intro b h hb
    rw [riseN_cons]
    obtain ⟨h1, h2⟩ := List.pairwise_cons.1 h
    exact ⟨(hb x (by simp)).1, (hb x (by simp)).2, ih x h2 fun y hy => ⟨h1 y hy, (hb y (List.mem_cons_of_mem _ hy)).2⟩⟩
theorem mayN_snoc {c : Cg} (h1 : 0 ≤ c.block) (h2 : c.p.right = true) (h3 : riseN c.id 0 c.needs = true) : ∀ (l : List Cg) (b : Int), mayN b l = true → b < c.id → (∀ d ∈ l, d.id < c.id) → mayN b (l ++ [c]) = true := by
  intro l
  induction l with
  | nil => intro b _ hb _; exact mayN_cons.2 ⟨Cg.may_iff.2 ⟨hb, h1, h2, h3⟩, rfl⟩
  | cons d l ih =>
    intro b hm hb hl
    obtain ⟨g1, g2⟩ := mayN_cons.1 hm
    exact mayN_cons.2 ⟨g1, ih d.id g2 (hl d (by simp)) fun y hy => hl y (List.mem_cons_of_mem _ hy)⟩
theorem DC.needsOf_rise (x : DC) (needs : List Int) : (x.needsOf needs).Pairwise (· < ·) := by
  refine List.Pairwise.sublist List.filter_sublist ?_
  rw [List.pairwise_map]
  exact List.pairwise_lt_range.imp fun h => by omega
theorem DC.needsOf_mem {x : DC} {needs : List Int} {n : Int} : n ∈ x.needsOf needs ↔ (1 ≤ n ∧ n ≤ (x.last : Int)) ∧ n ∈ needs ∧ hasId x.list n = true := by
  unfold DC.needsOf
  rw [List.mem_filter, List.mem_map]
  constructor
  · rintro ⟨⟨k, hk, rfl⟩, h⟩
    rw [List.mem_range] at hk
    simp only [Bool.and_eq_true, Bool.not_eq_true', DC.done, List.contains_iff_mem] at h
    refine ⟨by omega, h.1, ?_⟩
    cases hh : hasId x.list ((k : Int) + 1)
    · have := h.2
      rw [hh, decide_eq_true (by omega), decide_eq_true (by omega)] at this
      cases this
    · rfl
  · rintro ⟨⟨h1, h2⟩, h3, h4⟩
    refine ⟨⟨(n - 1).toNat, List.mem_range.2 (by omega), by omega⟩, ?_⟩
    simp [DC.done, h3, h4]
theorem DC.needsOf_len (x : DC) (needs : List Int) : (x.needsOf needs).length ≤ x.last := by
  refine Nat.le_trans (List.length_filter_le _ _) ?_
  simp
theorem DC.kn_set {x : DC} {no b : Int} (h : x.kn b = true) : ({ x with knows := x.knows.set no.toNat true } : DC).kn b = true := by
  unfold DC.kn DC.has at h ⊢
  simp only [Bool.and_eq_true, decide_eq_true_eq, List.length_set] at h ⊢
  refine ⟨h.1, ?_⟩
  by_cases e : no.toNat = b.toNat
  · rw [e, List.getD_eq_getElem?_getD, List.getElem?_set_self (by omega)]
    rfl
  · rw [List.getD_eq_getElem?_getD, List.getElem?_set_ne e, ← List.getD_eq_getElem?_getD]
    exact h.2
theorem DC.knownE_has {x : DC} {no : Int} (h : x.knownE no = 0) : x.has no = true := by
  unfold DC.knownE at h
  cases h1 : x.kn no
  · rw [h1] at h
    cases h2 : x.off
    · rw [h2] at h
      cases h3 : x.has no
      · rw [h3] at h
        simp at h
      · rfl
    · rw [h2] at h
      simp at h
  · unfold DC.kn at h1
    simp only [Bool.and_eq_true] at h1
    exact h1.1
theorem DC.putE_ok {x : DC} {s : StC} (h : x.putE s = 0) : s.p.right = true ∧ x.bad s.needs = false ∧ x.knownE s.no = 0 := by
  unfold DC.putE at h
  cases h1 : s.p.right
  · rw [h1] at h; simp at h
  · cases h2 : x.bad s.needs
    · rw [h1, h2] at h
      exact ⟨rfl, rfl, by simpa using h⟩
    · rw [h1, h2] at h; simp at h
theorem DC.bad_no {x : DC} {needs : List Int} (h : x.bad needs = false) : ∀ n ∈ needs, 1 ≤ n ∧ n ≤ (x.last : Int) := by
  intro n hn
  unfold DC.bad at h
  rw [List.any_eq_false] at h
  have := h n hn
  simp only [Bool.or_eq_true, decide_eq_true_eq, not_or] at this
  omega
theorem DC.put_ok {x : DC} (h : x.Ok) (s : StC) : (x.put s).Ok := by
  unfold DC.put
  split
  · rename_i he
    obtain ⟨h1, h2, h3⟩ := DC.putE_ok he
    have hh := DC.has_iff.1 (DC.knownE_has h3)
    have hb := DC.bad_no h2
    refine ⟨?_, ?_, ?_, ?_, h.bks, by simpa using h.kl, h.fuse, ?_, ?_⟩
    · refine mayN_snoc hh.1 h1 (riseN_of _ _ (x.needsOf_rise _) fun n hn => ?_) _ _ h.may (by show (0 : Int) < (x.last : Int) + 1; omega) fun d hd => ?_
      · have := (DC.needsOf_mem.1 hn).1
        simp; omega
      · have := h.ids d hd
        simp; omega
    · intro c hc
      rcases List.mem_append.1 hc with hc | hc
      · have := h.ids c hc
        simp; omega
      · rw [List.mem_singleton] at hc
        subst hc
        simp
    · intro c hc
      rcases List.mem_append.1 hc with hc | hc
      · exact h.blk c hc
      · rw [List.mem_singleton] at hc
        subst hc
        have := h.kl
        exact ⟨hh.1, by show s.no < (x.base.length : Int); omega⟩
    · intro c hc
      rcases List.mem_append.1 hc with hc | hc
      · exact DC.kn_set (h.knw c hc)
      · rw [List.mem_singleton] at hc
        subst hc
        show DC.kn _ s.no = true
        unfold DC.kn DC.has
        simp only [Bool.and_eq_true, decide_eq_true_eq, List.length_set]
        refine ⟨hh, ?_⟩
        rw [List.getD_eq_getElem?_getD, List.getElem?_set_self (by omega)]
        rfl
    · have := h.wrote
      show x.wrote + (x.list ++ [_]).length ≤ x.last + 1
      rw [List.length_append, List.length_singleton]
      omega
    · intro c hc
      rcases List.mem_append.1 hc with hc | hc
      · have := h.nlen c hc
        show _ ≤ x.last + 1
        omega
      · rw [List.mem_singleton] at hc
        subst hc
        have := x.needsOf_len s.needs
        show _ ≤ x.last + 1
        simp; omega
  · exact h
theorem ready_block {l : List Cg} {b : Int} (hm : mayC l = true) (h : readyC l b ≠ []) : ∃ c ∈ l, c.block = b := by
  cases hr : readyC l b with
  | nil => exact absurd hr h
  | cons a t =>
    obtain ⟨p, c, q, h1, _, h3, _⟩ := readyC_spec hm a (by rw [hr]; simp)
    exact ⟨c, by rw [h1]; simp, h3⟩
theorem left_shorter {l : List Cg} {b : Int} (hm : mayC l = true) (h : readyC l b ≠ []) : (leftC l b).length < l.length := by
  have h1 := withoutC_len (block := b) hm
  have h2 := List.length_pos_iff.2 h
  show (withoutC l (readyC l b)).length < _
  omega
theorem DC.flush_ok {x : DC} (h : x.Ok) (no : Int) : (x.flush no).Ok := by
  unfold DC.flush
  split
  · exact h
  · rename_i hr
    split
    · exact ⟨h.may, h.ids, h.blk, h.knw, h.bks, h.kl, h.fuse, h.wrote, h.nlen⟩
    · have hls := left_shorter h.may hr
      obtain ⟨c0, hc0, hcb⟩ := ready_block h.may hr
      refine ⟨leftC_may _ h.may, fun c hc => h.ids c (List.mem_filter.1 hc).1, fun c hc => ?_, fun c hc => h.knw c (List.mem_filter.1 hc).1, fun b hb => ?_, ?_, ?_, ?_, fun c hc => h.nlen c (List.mem_filter.1 hc).1⟩
      · have := h.blk c (List.mem_filter.1 hc).1
        simpa using this
      · rcases List.mem_or_eq_of_mem_set hb with hb | hb
        · exact h.bks b hb
        · subst hb
          refine laidC_len _ ?_
          have h1 := h.blk c0 hc0
          have h2 : no.toNat < x.base.length := by rw [← hcb]; omega
          rw [List.getD_eq_getElem?_getD, List.getElem?_eq_getElem h2]
          exact h.bks _ (List.getElem_mem h2)
      · simpa using h.kl
      · show -1 ≤ (if 0 < x.fuse then x.fuse - 1 else x.fuse)
        have := h.fuse
        split <;> omega
      · have := h.wrote
        show x.wrote + 1 + (leftC x.list no).length ≤ x.last
        omega
theorem DC.known_ok {x : DC} (h : x.Ok) (no : Int) : (x.known no).Ok := by
  unfold DC.known
  split
  · exact ⟨h.may, h.ids, h.blk, fun c hc => DC.kn_set (h.knw c hc), h.bks, by simpa using h.kl, h.fuse, h.wrote, h.nlen⟩
  · exact h

def DC.bd (x : DC) (b : Int) : List UInt8 := if 0 ≤ b then x.base.getD b.toNat (zeros 256) else zeros 256
structure DC.Hist (x : DC) (H : List Cg) : Prop where
  inv : CInv (zeros 256) H x.list x.bd
  len : H.length = x.last
theorem DC.new_hist (n : Nat) : (DC.new n).Hist [] := ⟨by
  have e : (DC.new n).bd = fun _ => zeros 256 := funext fun b => by
    unfold DC.bd DC.new
    split
    · rw [List.getD_eq_getElem?_getD]
      by_cases hb : b.toNat < n
      · rw [List.getElem?_replicate_of_lt hb]
        rfl
      · rw [List.getElem?_eq_none (by simpa using hb)]
        rfl
    · rfl
  rw [e]
  exact CInv.start List.length_replicate, rfl⟩
def DC.made (x : DC) (s : StC) : Cg := ⟨(x.last : Int) + 1, s.no, s.p, s.needs⟩
theorem DC.put_hist {x : DC} {H : List Cg} (h : x.Hist H) (hk : x.Ok) {s : StC} (he : x.putE s = 0) : (x.put s).Hist (H ++ [x.made s]) := by
  obtain ⟨h1, h2, h3⟩ := DC.putE_ok he
  have hb := DC.bad_no h2
  have hok := DC.put_ok hk s
  have hl := h.len
  unfold DC.put at hok ⊢
  rw [if_pos he] at hok ⊢
  refine ⟨?_, by rw [List.length_append, hl]; rfl⟩
  refine h.inv.put (x.made s) _ (by rw [hl]; rfl) rfl hok.may (fun n hn hh => ?_) (fun n hn => ?_)
  · exact DC.needsOf_mem.2 ⟨hb n hn, hn, hasId_iff.2 hh⟩
  · have := (hb n hn).2
    rw [hl]
    exact this
theorem DC.put_no {x : DC} {s : StC} (he : x.putE s ≠ 0) : x.put s = x := by
  unfold DC.put
  rw [if_neg he]
theorem DC.flush_hist {x : DC} {H : List Cg} (h : x.Hist H) (hk : x.Ok) (no : Int) : (x.flush no).Hist H := by
  unfold DC.flush
  split
  · exact h
  · rename_i hr
    split
    · exact ⟨h.inv, h.len⟩
    · refine ⟨?_, h.len⟩
      obtain ⟨c0, hc0, hcb⟩ := ready_block hk.may hr
      have hb := hk.blk c0 hc0
      rw [hcb] at hb
      have h1 := h.inv.flush List.length_replicate no
      have e : DC.bd { x with fuse := if 0 < x.fuse then x.fuse - 1 else x.fuse, base := x.base.set no.toNat (imageC (x.base.getD no.toNat (zeros 256)) x.list no), list := leftC x.list no, wrote := x.wrote + 1 } = fun y => if y = no then imageC (x.bd no) x.list no else x.bd y := ?_
      · show CInv (zeros 256) H (leftC x.list no) (DC.bd _)
        rw [e]
        exact h1
      funext b
      by_cases hbn : b = no
      · subst hbn
        rw [if_pos rfl]
        unfold DC.bd
        rw [if_pos hb.1, if_pos hb.1]
        rw [List.getD_eq_getElem?_getD (l := List.set _ _ _), List.getElem?_set_self (by omega)]
        rfl
      · rw [if_neg hbn]
        unfold DC.bd
        split
        · rw [List.getD_eq_getElem?_getD, List.getElem?_set_ne (by omega), ← List.getD_eq_getElem?_getD]
        · rfl
theorem DC.uptoGo_hist {H : List Cg} : ∀ n {x : DC}, x.Hist H → x.Ok → ∀ id, (DC.uptoGo n x id).1.Hist H := by
  intro n
  induction n with
  | zero => intro x h _ id; exact h
  | succ n ih =>
    intro x h hk id
    unfold DC.uptoGo
    split
    · exact h
    · split
      · split
        · exact ih (DC.flush_hist h hk _) (DC.flush_ok hk _) id
        · exact DC.flush_hist h hk _
      · exact h
theorem DC.upto_hist {x : DC} {H : List Cg} (h : x.Hist H) (hk : x.Ok) (id : Int) : (x.upto id).1.Hist H := DC.uptoGo_hist _ h hk id
theorem DC.setFuse_hist {x : DC} {H : List Cg} (h : x.Hist H) (n : Int) : (x.setFuse n).Hist H := ⟨h.inv, h.len⟩
theorem DC.up_hist {x : DC} {H : List Cg} (h : x.Hist H) : x.up.Hist H := ⟨h.inv, h.len⟩
theorem DC.known_hist {x : DC} {H : List Cg} (h : x.Hist H) (no : Int) : (x.known no).Hist H := by
  unfold DC.known
  split
  · exact ⟨h.inv, h.len⟩
  · exact h
theorem DC.go_hist {x : DC} {H : List Cg} (h : x.Hist H) (hk : x.Ok) (s : StC) : (x.go s).1.Hist (if s.do_ = 0 ∧ x.putE s = 0 then H ++ [x.made s] else H) := by
  unfold DC.go
  by_cases h0 : s.do_ = 0
  · rw [if_pos h0]
    by_cases he : x.putE s = 0
    · rw [if_pos ⟨h0, he⟩]
      exact DC.put_hist h hk he
    · rw [if_neg (fun hh => he hh.2)]
      show (x.put s).Hist H
      rw [DC.put_no he]
      exact h
  · rw [if_neg h0, if_neg (show ¬ (s.do_ = 0 ∧ x.putE s = 0) from fun hh => h0 hh.1)]
    split
    · exact DC.flush_hist h hk _
    · split
      · exact DC.upto_hist h hk _
      · split
        · exact DC.upto_hist h hk _
        · split
          · exact DC.setFuse_hist h _
          · split
            · exact DC.up_hist h
            · exact h
theorem DC.Hist.view {x : DC} {H : List Cg} (h : x.Hist H) (b : Int) : viewC (x.bd b) x.list b = laidC (zeros 256) (ofC H b) := h.inv.view List.length_replicate b
theorem DC.Hist.dev {x : DC} {H : List Cg} (h : x.Hist H) (b : Int) : x.bd b = laidC (zeros 256) ((ofC H b).filter fun c => !hasId x.list c.id) := by
  rw [h.inv.dev b]
  refine congrArg _ (List.filter_congr fun c _ => ?_)
  have e : decide (HasId x.list c.id) = hasId x.list c.id := by
    rw [Bool.eq_iff_iff, decide_eq_true_eq, hasId_iff]
    rfl
  rw [e]
theorem DC.Hist.closed {x : DC} {H : List Cg} (h : x.Hist H) {c : Cg} (hc : c ∈ H) (hd : hasId x.list c.id = false) {n : Int} (hn : n ∈ c.needs) : hasId x.list n = false := by
  have h1 : ¬ HasId x.list c.id := fun hh => by rw [hasId_iff.2 hh] at hd; cases hd
  have h2 := h.inv.closed c hc h1 n hn
  cases e : hasId x.list n
  · rfl
  · exact absurd (hasId_iff.1 e) h2

end Go.Proofs.YtpmbpklbiocclaaGreat

/-
  Numbers of which each waits for some that are less: how many each waits for, who waits for each, and the rows in which those of one block come up one behind the other. Plain; no program is named here.
-/
namespace Go.Proofs.YtpmbpklbiocclaaGreat
open Go.RowKit

theorem erase_sub {A B : List Int} {x : Int} (hx : x ∉ A) (hs : ∀ y ∈ A, y ∈ B) : ∀ y ∈ A, y ∈ B.erase x := fun y hy => (List.mem_erase_of_ne (fun e => hx (by rw [← e]; exact hy))).2 (hs y hy)
theorem nodup_len {A : List Int} (hA : A.Nodup) : ∀ {B : List Int}, (∀ x ∈ A, x ∈ B) → A.length ≤ B.length := by
  induction A with
  | nil => intro B _; exact Nat.zero_le _
  | cons a A ih =>
    intro B hs
    obtain ⟨h1, h2⟩ := List.nodup_cons.1 hA
    have hb : a ∈ B := hs a (by simp)
    have h3 := ih h2 (erase_sub h1 fun y hy => hs y (by simp [hy]))
    rw [List.length_erase_of_mem hb] at h3
    have h4 : 0 < B.length := List.length_pos_of_mem hb
    simp only [List.length_cons]
    omega
theorem nodup_all {A B : List Int} (hA : A.Nodup) (hs : ∀ x ∈ A, x ∈ B) (hl : B.length ≤ A.length) : ∀ x ∈ B, x ∈ A := by
  intro x hx
  by_cases h : x ∈ A
  · exact h
  · have h1 : (x :: A).Nodup := List.nodup_cons.2 ⟨h, hA⟩
    have h2 := nodup_len h1 (B := B) fun y hy => by
      rcases List.mem_cons.1 hy with rfl | hy
      · exact hx
      · exact hs y hy
    simp only [List.length_cons] at h2
    omega
theorem nodup_filter {A : List Int} (h : A.Nodup) (f : Int → Bool) : (A.filter f).Nodup := h.sublist List.filter_sublist
theorem nodup_take {A : List Int} (h : A.Nodup) (n : Nat) : (A.take n).Nodup := h.sublist (List.take_sublist n A)
theorem RiseI.nodup {l : List Int} (h : RiseI l) : l.Nodup := List.Pairwise.imp (fun {a b} (hab : a < b) => by omega) h

section
variable (ids : List Int) (dep : Int → Int → Bool)
def wN (j : Int) : Nat := (ids.filter fun i => dep i j).length
def bN (i : Int) : List Int := ids.filter fun j => dep i j
def mN (l : List Int) (j : Int) : Nat := (l.filter fun i => dep i j).length
end
section
variable {ids : List Int} {dep : Int → Int → Bool}
theorem bN_mem {i j : Int} : j ∈ bN ids dep i ↔ j ∈ ids ∧ dep i j = true := by unfold bN; rw [List.mem_filter]
theorem bN_nodup (h : ids.Nodup) (i : Int) : (bN ids dep i).Nodup := nodup_filter h _
theorem mN_le {l : List Int} (hl : l.Nodup) (hs : ∀ x ∈ l, x ∈ ids) (j : Int) : mN dep l j ≤ wN ids dep j :=
  nodup_len (nodup_filter hl _) fun x hx => by
    obtain ⟨h1, h2⟩ := List.mem_filter.1 hx
    exact List.mem_filter.2 ⟨hs x h1, h2⟩
theorem mN_all {l : List Int} (hl : l.Nodup) (hs : ∀ x ∈ l, x ∈ ids) {j : Int} (h : wN ids dep j ≤ mN dep l j) : ∀ i ∈ ids, dep i j = true → i ∈ l := fun i hi hd => by
  have h1 := nodup_all (nodup_filter hl (fun i => dep i j)) (B := ids.filter fun i => dep i j) (fun x hx => by
    obtain ⟨h1, h2⟩ := List.mem_filter.1 hx
    exact List.mem_filter.2 ⟨hs x h1, h2⟩) h i (List.mem_filter.2 ⟨hi, hd⟩)
  exact (List.mem_filter.1 h1).1
theorem mN_eq {l : List Int} (hl : l.Nodup) (hs : ∀ x ∈ l, x ∈ ids) (hi : ids.Nodup) {j : Int} (h : ∀ i ∈ ids, dep i j = true → i ∈ l) : mN dep l j = wN ids dep j :=
  Nat.le_antisymm (mN_le hl hs j) (nodup_len (nodup_filter hi _) fun x hx => by
    obtain ⟨h1, h2⟩ := List.mem_filter.1 hx
    exact List.mem_filter.2 ⟨h x h1 h2, h2⟩)
theorem mN_snoc (l : List Int) (i j : Int) : mN dep (l ++ [i]) j = mN dep l j + (if dep i j then 1 else 0) := by
  unfold mN
  rw [List.filter_append, List.length_append]
  congr 1
  by_cases h : dep i j = true
  · simp [h]
  · simp [h]
theorem take_snoc {l : List Int} {p : Nat} (h : p < l.length) : l.take (p + 1) = l.take p ++ [l[p]] := List.take_succ_eq_append_getElem h
theorem take_app {l : List Int} (m : List Int) {p : Nat} (h : p ≤ l.length) : (l ++ m).take p = l.take p := List.take_append_of_le_length h

structure Kahn (ids : List Int) (dep : Int → Int → Bool) (blk : Int → Int) (b : Int) (l : List Int) : Prop where
  nd : l.Nodup
  mem : ∀ j ∈ l, j ∈ ids ∧ blk j = b
  ord : ∀ q (h : q < l.length), ∀ i ∈ ids, dep i l[q] = true → i ∈ l.take q
  cl : ∀ j ∈ ids, blk j = b → (∀ i ∈ ids, dep i j = true → i ∈ l) → j ∈ l

def kPart (ids : List Int) (dep : Int → Int → Bool) (l : List Int) (p k : Nat) : List Int := match l[p]? with
  | some i => (bN ids dep i).take k
  | none => []
theorem kPart_at {ids : List Int} {dep : Int → Int → Bool} {l : List Int} {p k : Nat} (h : p < l.length) : kPart ids dep l p k = (bN ids dep l[p]).take k := by unfold kPart; rw [List.getElem?_eq_getElem h]
theorem kPart_zero (ids : List Int) (dep : Int → Int → Bool) (l : List Int) (p : Nat) : kPart ids dep l p 0 = [] := by unfold kPart; split <;> rfl
structure KI (ids : List Int) (dep : Int → Int → Bool) (blk : Int → Int) (b : Int) (l : List Int) (p k : Nat) (met : Int → Int) : Prop where
  nd : l.Nodup
  mem : ∀ j ∈ l, j ∈ ids ∧ blk j = b
  le : p ≤ l.length
  cnt : ∀ j ∈ ids, met j = (mN dep (l.take p) j : Int) + (if j ∈ kPart ids dep l p k then 1 else 0)
  iff : ∀ j ∈ ids, blk j = b → (j ∈ l ↔ met j = (wN ids dep j : Int))
  ord : ∀ q (h : q < l.length), ∀ i ∈ ids, dep i l[q] = true → i ∈ l.take q
section
variable {blk : Int → Int} {b : Int} {l : List Int} {p k : Nat} {met : Int → Int}
theorem KI.start (_ : ids.Nodup) (h0 : l.Nodup) (h1 : ∀ j, j ∈ l ↔ j ∈ ids ∧ blk j = b ∧ wN ids dep j = 0) (h2 : ∀ j, met j = 0) : KI ids dep blk b l 0 0 met where
  nd := h0
  mem j hj := ⟨((h1 j).1 hj).1, ((h1 j).1 hj).2.1⟩
  le := Nat.zero_le _
  cnt j _ := by
    rw [h2, kPart_zero, if_neg (by simp)]
    rfl
  iff j hj hb := by
    rw [h1, h2]
    constructor
    · rintro ⟨_, _, h⟩; omega
    · intro h; exact ⟨hj, hb, by omega⟩
  ord q h i hii hd := by
    have h3 := ((h1 l[q]).1 (List.getElem_mem h)).2.2
    have h4 := nodup_len (A := [i]) (by simp) (B := ids.filter fun i => dep i l[q]) (fun x hx => by
      simp only [List.mem_singleton] at hx
      subst hx
      exact List.mem_filter.2 ⟨hii, hd⟩)
    unfold wN at h3
    simp only [List.length_singleton] at h4
    omega
theorem KI.next (h : KI ids dep blk b l p k met) (hp : p < l.length) (hk : k = (bN ids dep l[p]).length) : KI ids dep blk b l (p + 1) 0 met where
  nd := h.nd
  mem := h.mem
  le := hp
  cnt j hj := by
    rw [h.cnt j hj, take_snoc hp, mN_snoc, kPart_zero, kPart_at hp, hk, List.take_length, if_neg (c := j ∈ []) (by simp)]
    by_cases hd : dep l[p] j = true
    · rw [if_pos (bN_mem.2 ⟨hj, hd⟩), if_pos hd]; omega
    · rw [if_neg (fun hh => hd (bN_mem.1 hh).2), if_neg hd]; omega
  iff := h.iff
  ord := h.ord
theorem nodup_take_not {A : List Int} (h : A.Nodup) {k : Nat} (hk : k < A.length) : A[k] ∉ A.take k := fun hx => by
  have e := take_snoc hk
  have h1 : (A.take (k + 1)).Nodup := nodup_take h _
  rw [e] at h1
  exact (List.nodup_append.1 h1).2.2 _ hx _ (by simp) rfl
theorem KI.low (h : KI ids dep blk b l p k met) (hi : ids.Nodup) (hp : p < l.length) (hk : k < (bN ids dep l[p]).length) :
    (bN ids dep l[p])[k] ∈ ids ∧ met (bN ids dep l[p])[k] = (mN dep (l.take p) (bN ids dep l[p])[k] : Int) ∧ met (bN ids dep l[p])[k] < (wN ids dep (bN ids dep l[p])[k] : Int) := by
  have hm := bN_mem.1 (List.getElem_mem hk)
  have h1 : met (bN ids dep l[p])[k] = (mN dep (l.take p) (bN ids dep l[p])[k] : Int) := by
    rw [h.cnt _ hm.1, kPart_at hp, if_neg (nodup_take_not (bN_nodup hi _) hk)]
    omega
  refine ⟨hm.1, h1, ?_⟩
  rw [h1]
  have h2 := mN_le (ids := ids) (dep := dep) (nodup_take h.nd (p + 1)) (fun x hx => (h.mem x (List.mem_of_mem_take hx)).1) (bN ids dep l[p])[k]
  rw [take_snoc hp, mN_snoc, if_pos hm.2] at h2
  omega
theorem KI.step (h : KI ids dep blk b l p k met) (hi : ids.Nodup) (hp : p < l.length) (hk : k < (bN ids dep l[p]).length) (j : Int) (hj : (bN ids dep l[p])[k] = j) (met' : Int → Int) (hm : ∀ i, met' i = if i = j then met j + 1 else met i) :
    (blk j = b ∧ met' j = (wN ids dep j : Int) → KI ids dep blk b (l ++ [j]) p (k + 1) met') ∧ (¬ (blk j = b ∧ met' j = (wN ids dep j : Int)) → KI ids dep blk b l p (k + 1) met') := by
  obtain ⟨l1, l2, l3⟩ := h.low hi hp hk
  have hmem := bN_mem.1 (List.getElem_mem hk)
  have hno := nodup_take_not (bN_nodup (dep := dep) hi l[p]) hk
  rw [hj] at l1 l2 l3 hmem hno
  have hj1 : met' j = met j + 1 := by rw [hm, if_pos rfl]
  have hnot : blk j = b → j ∉ l := fun hb hl => by
    have := (h.iff _ l1 hb).1 hl
    omega
  have hmet : ∀ i ∈ ids, met' i = (mN dep (l.take p) i : Int) + (if i ∈ kPart ids dep l p (k + 1) then 1 else 0) := fun i hii => by
    rw [kPart_at hp, take_snoc hk, hj]
    by_cases hij : i = j
    · subst hij
      rw [hj1, l2, if_pos (by simp)]
    · rw [hm, if_neg hij, h.cnt i hii, kPart_at hp]
      by_cases hx : i ∈ (bN ids dep l[p]).take k
      · rw [if_pos hx, if_pos (by simp [hx])]
      · rw [if_neg hx, if_neg (by simp [hx, hij])]
  constructor
  · rintro ⟨hb, hw⟩
    have hp' : p ≤ l.length := h.le
    have hd : ∀ i ∈ ids, dep i j = true → i ∈ l := fun i hii hdi => by
      have h2 : wN ids dep j ≤ mN dep (l.take (p + 1)) j := by
        rw [take_snoc hp, mN_snoc, if_pos hmem.2]
        omega
      exact List.mem_of_mem_take (mN_all (nodup_take h.nd (p + 1)) (fun x hx => (h.mem x (List.mem_of_mem_take hx)).1) h2 i hii hdi)
    refine ⟨?_, ?_, by simp; omega, fun i hii => ?_, fun i hii hbi => ?_, fun q hq i hii hdi => ?_⟩
    · rw [List.nodup_append]
      refine ⟨h.nd, by simp, fun x hx y hy e => ?_⟩
      simp only [List.mem_singleton] at hy
      subst hy; subst e
      exact hnot hb hx
    · intro x hx
      rcases List.mem_append.1 hx with hx | hx
      · exact h.mem x hx
      · simp only [List.mem_singleton] at hx
        subst hx
        exact ⟨l1, hb⟩
    · rw [hmet i hii, take_app _ hp']
      congr 2
      unfold kPart
      rw [List.getElem?_append_left hp]
    · by_cases hij : i = j
      · subst hij
        exact ⟨fun _ => hw, fun _ => by simp⟩
      · rw [hm, if_neg hij, ← h.iff i hii hbi]
        simp [hij]
    · by_cases hql : q < l.length
      · rw [List.getElem_append_left hql] at hdi
        rw [take_app _ (by omega)]
        exact h.ord q hql i hii hdi
      · have hqe : q = l.length := by simp at hq; omega
        subst hqe
        rw [List.getElem_append_right (Nat.le_refl _)] at hdi
        simp only [Nat.sub_self, List.getElem_cons_zero] at hdi
        rw [List.take_left]
        exact hd i hii hdi
  · intro hn
    refine ⟨h.nd, h.mem, h.le, hmet, fun i hii hbi => ?_, h.ord⟩
    by_cases hij : i = j
    · subst hij
      exact ⟨fun hx => absurd hx (hnot hbi), fun hx => absurd ⟨hbi, hx⟩ hn⟩
    · rw [hm, if_neg hij]
      exact h.iff i hii hbi
theorem KI.done (h : KI ids dep blk b l p k met) (hi : ids.Nodup) (hp : l.length ≤ p) : Kahn ids dep blk b l where
  nd := h.nd
  mem := h.mem
  ord := h.ord
  cl j hj hb hd := by
    rw [h.iff j hj hb, h.cnt j hj]
    have e : kPart ids dep l p k = [] := by unfold kPart; rw [List.getElem?_eq_none hp]
    rw [e, if_neg (by simp), List.take_of_length_le hp, mN_eq h.nd (fun x hx => (h.mem x hx).1) hi hd]
    omega
theorem KI.len (h : KI ids dep blk b l p k met) : l.length ≤ ids.length := nodup_len h.nd fun x hx => (h.mem x hx).1
theorem Kahn.len (h : Kahn ids dep blk b l) : l.length ≤ ids.length := nodup_len h.nd fun x hx => (h.mem x hx).1
theorem Kahn.iff (h : Kahn ids dep blk b l) {j : Int} (hj : j ∈ ids) (hb : blk j = b) : j ∈ l ↔ ∀ i ∈ ids, dep i j = true → i ∈ l := by
  constructor
  · intro hl i hi hd
    obtain ⟨q, hq, e⟩ := List.getElem_of_mem hl
    rw [← e] at hd
    exact List.mem_of_mem_take (h.ord q hq i hi hd)
  · exact h.cl j hj hb
end
end

end Go.Proofs.YtpmbpklbiocclaaGreat
