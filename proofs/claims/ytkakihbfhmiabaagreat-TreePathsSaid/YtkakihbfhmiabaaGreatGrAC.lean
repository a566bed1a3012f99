/-
  Texts of this claim joined: List, Cell, Held, DiskA.
-/
import Derived.Test.YtkakihbfhmiabaaGreatGrAA
import Derived.SliceStrings
import Derived.Deep.RegionHeld

/-
  Words for lists of one-cell values in memory: a slice that reads as a list, a slice of the call's own. Plain; no program is named here.
-/
namespace Go.Proofs.YtkakihbfhmiabaaGreat
open Go.RowKit

/-- A slice value with this address reads as these cells. -/
def RC (w : World) (A : Option Addr) (l : List Value) : Prop :=
  ∀ k (h : k < l.length), ∃ ad, A = some ad ∧ w.cell? (ad.add k) = some l[k]
theorem RC.below {w w' : World} {A : Option Addr} {l : List Value} (h : RC w A l) (hb : Below w.heap.size w w') : RC w' A l := fun k hk => by
  obtain ⟨ad, e, hc⟩ := h k hk
  refine ⟨ad, e, ?_⟩
  rw [hb.cell (block_lt_of_cell hc), hc]
theorem RC.nil_ (w : World) (A : Option Addr) : RC w A [] := fun k h => absurd h (by simp)
/-- A slice value of the call's own (no block below B) that reads as these cells. -/
def OwnC (w : World) (B : Nat) (e : TypeId) (v : Value) (l : List Value) : Prop := w.ownsRow B e 1 v l.length l
theorem OwnC.nil_ (w : World) (B : Nat) (e : TypeId) : OwnC w B e (.slice none 0 0) [] := World.ownsRow_nil w B e 1
theorem OwnC.read {w : World} {B : Nat} {e : TypeId} {v : Value} {l : List Value} (h : OwnC w B e v l) : ∃ A c, v = .slice A l.length c ∧ l.length ≤ c ∧ c ≤ maxLen ∧ RC w A l := by
  obtain ⟨hl, h | ⟨g, cap, cur, hv, hb, hg, hn, hc, hs, ht⟩⟩ := h
  · refine ⟨none, 0, by rw [h.1, h.2], by omega, by unfold maxLen; omega, ?_⟩
    have : l = [] := List.eq_nil_of_length_eq_zero h.2
    subst this
    exact RC.nil_ _ _
  · refine ⟨_, cap, hv, hn, hc, fun k hk => ⟨_, rfl, ?_⟩⟩
    have h2 : (cur.toList.take (l.length * 1))[k]? = l[k]? := by rw [ht]
    rw [List.getElem?_take_of_lt (by omega), List.getElem?_eq_getElem hk] at h2
    rw [addr_add0, cell_of_row w g k cur e (0, 0) hg]
    simpa using h2
theorem OwnC.lt {w : World} {B : Nat} {e : TypeId} {v : Value} {l : List Value} (h : OwnC w B e v l) : ∀ k, v.ownBlock = some k → B ≤ k ∧ k < w.heap.size := World.ownsRow.lt h
theorem OwnC.ext {w w' : World} {B : Nat} {e : TypeId} {v : Value} {l : List Value} (h : OwnC w B e v l) (hb : Below w.heap.size w w') : OwnC w' B e v l := by
  obtain ⟨hl, h | ⟨g, cap, cur, hv, hbg, hg, h⟩⟩ := h
  · exact ⟨hl, Or.inl h⟩
  · exact ⟨hl, Or.inr ⟨g, cap, cur, hv, hbg, Blk.ext hg hb, h⟩⟩
theorem OwnC.low {w : World} {B B' : Nat} {e : TypeId} {v : Value} {l : List Value} (h : OwnC w B e v l) (hb : B' ≤ B) : OwnC w B' e v l := by
  obtain ⟨hl, h | ⟨g, cap, cur, hv, hbg, h⟩⟩ := h
  · exact ⟨hl, Or.inl h⟩
  · exact ⟨hl, Or.inr ⟨g, cap, cur, hv, Nat.le_trans hb hbg, h⟩⟩
/-- No block is both's. -/
def Apart (u v : Value) : Prop := ∀ k, u.ownBlock = some k → v.ownBlock ≠ some k
theorem Apart.nil_ (v : Value) : Apart (.slice none 0 0) v := fun k h => by simp [Value.ownBlock] at h
theorem Apart.symm {u v : Value} (h : Apart u v) : Apart v u := fun k h1 h2 => h k h2 h1
/-- What an append to v leaves: v' in its place, and all others' as they were. -/
structure Added (w w' : World) (B : Nat) (v v' : Value) : Prop where
  below : Below B w w'
  keep : ∀ B' e u l, OwnC w B' e u l → Apart u v → OwnC w' B' e u l ∧ Apart u v'

section
variable {P : Program} {ops : Array Oper} {rest : List Oper} {o : Oper} {a : Act} {w : World} {Q : Exit → Act → World → Prop}

theorem run_append_one (P : Program) (w : World) (t ty e : TypeId) (ht : P.underlying t = some (.slice e)) (z : Value) (by_ : Nat) (hi : (P.info? e).map (fun i => (i.zero, i.size, i.bytes)) = some (some z, 1, by_)) (hz : z.cells.size = 1)
    (B : Nat) (v : Value) (l : List Value) (hown : OwnC w B e v l) (X : Value) (hX : X.oneCell' = true) (ad : Addr) (c : Nat) (hc : w.cell? ad = some X) (hB : B ≤ w.heap.size) (hlen : l.length + 1 ≤ maxLen) (hby : (l.length + 1) * by_ ≤ 140737488355328) :
    ∃ v' w', (Builtin.append_ #[t, t] ty #[v, .slice (some ad) 1 c]).run P w = .ok v' w' ∧ OwnC w' B e v' (l ++ [X]) ∧ w.grownBy w' v.ownBlock ∧ (v'.ownBlock = v.ownBlock ∨ v'.ownBlock = some w.heap.size) := by
  obtain ⟨i, h1, h2, h3, h4⟩ := info_parts hi
  have hnews : ∀ j u, [X][j]? = some u → w.cell? (ad.add j) = some u := fun j u hj => by
    match j, hj with
    | 0, hj =>
      simp at hj
      subst hj
      exact hc
  have h5 : ∀ u ∈ [X], u.oneCell' = true := fun u hu => by
    simp at hu
    subst hu
    exact hX
  have hlm : l.length + 1 ≤ 9223372036854775807 := by unfold maxLen at hlen; omega
  obtain ⟨v', w', hr, ho, hg, _⟩ := run_append_own (P := P) w B t ty e i z 1 by_ ht h1 h2 h3 h4 hz (by omega) v l.length l hown ad 1 c [X] rfl hnews h5 hlen hby hB
  have e1 : (l ++ [X]).length = l.length + 1 := by simp
  refine ⟨v', w', hr, by unfold OwnC; rw [e1]; exact ho, hg, ?_⟩
  obtain ⟨hl, ⟨rfl, hn⟩ | ⟨g, cap, cur, rfl, hbg, hgr, hnc, hcm, hcs, htk⟩⟩ := id hown
  · have hb1 : 1 * by_ ≤ 140737488355328 := Nat.le_trans (Nat.mul_le_mul_right by_ (by omega)) hby
    have hr' := run_append_nil (P := P) w t ty e i z ht h1 h2 ad 1 c [X] (by rw [h3]; rfl) hnews (by omega) (by omega) (by rw [h4]; omega)
    rw [hr] at hr'
    injection hr' with e2 _
    right
    rw [e2]
    rfl
  · by_cases hroom : l.length + 1 ≤ cap
    · have hr' := run_append_room (P := P) w t ty e i ht h1 g l.length cap cur hgr ad 1 c [X] (by rw [h3]; rfl) hnews h5 hroom (by rw [h3, hcs]; simp; omega)
      rw [hr] at hr'
      injection hr' with e2 _
      left
      rw [e2]
      rfl
    · have holds : ∀ j u, l[j]? = some u → w.cell? ((⟨g, 0, none⟩ : Addr).add j) = some u := hown.cells (g := g) rfl
      have hr' := run_append_grow (P := P) w t ty e i z ht h1 h2 ⟨g, 0, none⟩ l.length cap l (by rw [h3]; simp) holds ad 1 c [X] (by rw [h3]; rfl) hnews (by omega) (by omega) (by rw [h4]; exact growslice_fits (by omega) hby)
      rw [hr] at hr'
      injection hr' with e2 _
      right
      rw [e2]
      rfl

/-- append of one value, boxed just ahead. -/
theorem wpList_append_one (hgd : Region.wanted o (yielded ops a.tmps) = true) (s x : Operand) (t e : TypeId) (ho : o.op = .call { callee := .builtin .append, args := #[s, x], argTypes := #[t, t] })
    (ht : P.underlying t = some (.slice e)) (z : Value) (by_ : Nat) (hi : (P.info? e).map (fun i => (i.zero, i.size, i.bytes)) = some (some z, 1, by_)) (hz : z.cells.size = 1)
    (B : Nat) (v : Value) (l : List Value) (hs : a.eval s = v) (hown : OwnC w B e v l) (X : Value) (hX : X.oneCell' = true) (hx : a.eval x = .slice (some ⟨w.heap.size, 0, none⟩) 1 1)
    (hB : B ≤ w.heap.size) (hlen : l.length + 1 ≤ maxLen) (hby : (l.length + 1) * by_ ≤ 140737488355328)
    (h : Stop (∀ v' w', Hid (OwnC w' B e v' (l ++ [X])) → Hid (Added w w' B v v') → wpList P ops Q rest (a.put o.dst v') w')) : wpList P ops Q (o :: rest) a (w.alloc (.cells #[X] e)) := by
  refine wpList_wanted hgd fun K hK => ?_
  obtain ⟨v', w', hr, h1, h2, h3⟩ := run_append_one P (w.alloc (.cells #[X] e)) t o.type e ht z by_ hi hz B v l (World.ownsRow.alloc hown _) X hX ⟨w.heap.size, 0, none⟩ 1 (by have h := cell_one_new w X e 0 X rfl; rwa [addr_add0] at h) (by simp; omega) hlen hby
  unfold Oper.wp execOp
  simp only [ho, resolve, invoke, builtin, Sem.run_bind, Sem.run_pure, Result.andThen_ok, List.map_toArray, List.map_cons, List.map_nil, hs, hx, hr]
  refine hK _ _ (h v' w' h1 ⟨?_, fun B' e' u m hu hap => ⟨?_, fun k hk => ?_⟩⟩)
  · refine (((Below.refl B w).alloc (by omega) _)).grown h2 (by simp; omega) ?_
    intro k hk
    exact (hown.lt k hk).1
  · refine World.ownsRow.kept (World.ownsRow.alloc hu _) h2 ?_
    cases hb : u.ownBlock with
    | none => exact Or.inl rfl
    | some k => exact Or.inr fun e => hap k hb e.symm
  · have hlt := (hu.lt k hk).2
    rcases h3 with h3 | h3 <;> rw [h3]
    · exact hap k hk
    · simp
      omega
end

/-! Lists of texts. -/
def svals (l : List ByteArray) : List Value := l.map Value.string
theorem svals_len (l : List ByteArray) : (svals l).length = l.length := by simp [svals]
theorem svals_snoc (l : List ByteArray) (s : ByteArray) : svals l ++ [.string s] = svals (l ++ [s]) := by simp [svals]
theorem RC.str {w : World} {A : Option Addr} {l : List ByteArray} (h : RC w A (svals l)) (k : Nat) (hk : k < l.length) : ∃ ad, A = some ad ∧ w.cell? (ad.add k) = some (.string l[k]) := by
  obtain ⟨ad, e, hc⟩ := h k (by rw [svals_len]; exact hk)
  exact ⟨ad, e, by rw [hc]; simp [svals]⟩
theorem OwnC.strs {w : World} {B : Nat} {e : TypeId} {v : Value} {l : List ByteArray} (h : OwnC w B e v (svals l)) : ∃ A c, v = .slice A l.length c ∧ l.length ≤ c ∧ c ≤ maxLen ∧ RC w A (svals l) := by
  have := h.read
  rwa [svals_len] at this
theorem bytes_eq (s t : ByteArray) : (s.toList == t.toList) = decide (s = t) := by
  rw [Bool.eq_iff_iff, ByteArray.toList_eq, ByteArray.toList_eq]
  simp only [beq_iff_eq, decide_eq_true_eq]
  exact ⟨fun h => Go.WideShapes.bytes_inj h, fun h => by rw [h]⟩

end Go.Proofs.YtkakihbfhmiabaaGreat

/-
  Laws on one cell of a known block, and on make of noughts of any one-cell type. Plain; no program is named here.
-/
namespace Go.Proofs.YtkakihbfhmiabaaGreat
open Go.RowKit

section
variable {P : Program} {ops : Array Oper} {rest : List Oper} {o : Oper} {a : Act} {w : World} {Q : Exit → Act → World → Prop}

theorem run_storeVar_cell (P : Program) (w : World) (ty : TypeId) (hs : (P.info? ty).map (·.size) = some 1) (g i : Nat) (t : TypeId) (cs : Array Value) (hg : Blk w g t cs) (hi : i < cs.size) (v : Value) (hv : v.cells = #[v]) (h1 : v.oneCell' = true) :
    (storeVar ty ⟨g, i, none⟩ v).run P w = .ok () (w.setCell ⟨g, i, none⟩ v) := by
  obtain ⟨inf, hq, hsz⟩ := Option.map_eq_some_iff.1 hs
  have hc : w.cell? ⟨g, i, none⟩ = some cs[i] := by rw [hg.cell, Array.getElem?_eq_getElem hi]
  simp [storeVar, sizeOf, typeInfo, hq, hsz, hv, storeCells, run_store P w _ v _ h1, hc, hg.frozen i, show (⟨g, i, none⟩ : Addr).add 0 = ⟨g, i, none⟩ from rfl]

/-- A store into one cell of a block. -/
theorem wpList_store_cell (hgd : Region.wanted o (yielded ops a.tmps) = true) (ty : TypeId) (x y : Operand) (ho : o.op = .store ty x y) (hs : (P.info? ty).map (·.size) = some 1)
    (g i : Nat) (hx : a.eval x = .pointer (some ⟨g, i, none⟩)) (v : Value) (hy : a.eval y = v) (hv : v.cells = #[v]) (h1 : v.oneCell' = true) (t : TypeId) (cs : Array Value) (hg : Blk w g t cs) (hi : i < cs.size)
    (h : Stop (∀ w', Hid (Only w w' g) → Hid (Blk w' g t (cs.setIfInBounds i v)) → wpList P ops Q rest (a.put o.dst undef) w')) : wpList P ops Q (o :: rest) a w := by
  refine wpList_wanted hgd fun K hK => ?_
  unfold Oper.wp execOp
  simp only [ho, hx, hy, Instr.storeAt, Instr.sureAddr, Sem.run_bind, Sem.run_pure, Result.andThen_ok, run_storeVar_cell P w ty hs g i t cs hg hi v hv h1]
  exact hK _ _ (h _ ((Only.refl w g).setCell i v) (hg.set_ i v))

/-- A byte of an array by value. -/
theorem run_index_byte (P : Program) (w : World) (t e : TypeId) (n : Nat) (hu : P.underlying t = some (.array n e)) (he : P.underlying e = some (.int .u8)) (hs : (P.info? e).map (·.size) = some 1) (k : IntKind) (M : List UInt8) (q : Nat) (hq : q < n) (x : UInt8) (hx : M[q]? = some x) :
    (Instr.index t (.agg (bcells M)) (.int k q)).run P w = .ok (.int .u8 (x.toNat : Int)) w := by
  obtain ⟨inf, hi, hsz⟩ := Option.map_eq_some_iff.1 hs
  have hc : (bcells M)[q]? = some (.int .u8 (x.toNat : Int)) := by rw [bcells_get, hx]; rfl
  simp [Instr.index, asIntOf, run_underlying hu, hq, part, isAgg, run_underlying he, sizeOf, typeInfo, hi, hsz, hc]
theorem wpList_index_byte (hgd : Region.wanted o (yielded ops a.tmps) = true) (t : TypeId) (x y : Operand) (ho : o.op = .index t x y) (n e : Nat) (hu : P.underlying t = some (.array n e)) (he : P.underlying e = some (.int .u8)) (hs : (P.info? e).map (·.size) = some 1)
    (M : List UInt8) (hx : a.eval x = .agg (bcells M)) (k : IntKind) (I : Int) (hy : a.eval y = .int k I) (q : Nat) (hI : I = q) (hq : q < n) (b : UInt8) (hb : M[q]? = some b)
    (h : wpList P ops Q rest (a.put o.dst (.int .u8 (b.toNat : Int))) w) : wpList P ops Q (o :: rest) a w := by
  refine wpList_wanted hgd fun K hK => ?_
  subst hI
  unfold Oper.wp execOp
  simp only [ho, hx, hy, Sem.run_bind, Sem.run_pure, Result.andThen_ok, run_index_byte P w t e n hu he hs k M q hq b hb]
  exact hK _ _ h
/-- The result is a struct in a block. -/
theorem bodyPost_struct {R : Ending → World → Prop} {fn : Func} {p : Tmp} {t : TypeId} (hf : fn.results = #[ResultVar.cell p t]) (g : Nat) (hp : a.tmps.getD p undef = .pointer (some ⟨g, 0, none⟩)) (t' : TypeId) (cs : Array Value) (hg : Blk w g t' cs)
    (d : TypeDesc) (hu : P.underlying t = some d) (hd1 : (match d with | .struct _ | .array _ _ => true | _ => false) = true) (hi : (P.info? t).map (·.size) = some cs.size) (hd : a.defers = []) (hR : Stop (R (.returned (.agg cs)) w)) : bodyPost P fn R .ret a w :=
  bodyPost_ret (results_cell_row hf a.tmps w g t' cs (0, 0) d hp hg hu hd1 hi) hd hR

/-- make of n noughts. -/
theorem run_make_zero (P : Program) (w : World) (t e : TypeId) (ht : P.underlying t = some (.slice e)) (z : Value) (by_ : Nat) (hi : (P.info? e).map (fun i => (i.zero, i.size, i.bytes)) = some (some z, 1, by_)) (hz : z.cells = #[z]) (kl kc : IntKind) (n : Nat) (hn : by_ * n ≤ 281474976710656) (hn2 : n ≤ 9223372036854775807) :
    (Instr.makeSlice t (.int kl n) (.int kc n)).run P w = .ok (.slice (some ⟨w.heap.size, 0, none⟩) n n) (w.alloc (.cells (List.replicate n z).toArray e)) := by
  obtain ⟨i, h1, h2, h3, h4⟩ := info_parts hi
  have hr := run_make (P := P) w t e i z ht h1 h2 kl kc n n (by omega) (by omega) (by rw [h4]; omega) (by omega)
  have e1 : madeCells z.cells ((n : Int).toNat * i.size) = (List.replicate n z).toArray := by
    rw [h3, hz]
    apply Array.ext_getElem?
    intro j
    simp [madeCells, Array.getElem?_map]
    by_cases hj : j < n <;> simp [hj]
    all_goals simp [Nat.mod_one]
  rw [e1] at hr
  simpa using hr
theorem wpList_make_zero (hgd : Region.wanted o (yielded ops a.tmps) = true) (lo co : Operand) (t e : TypeId) (ho : o.op = .makeSlice t lo co) (ht : P.underlying t = some (.slice e)) (z : Value) (by_ : Nat) (hi : (P.info? e).map (fun i => (i.zero, i.size, i.bytes)) = some (some z, 1, by_)) (hz : z.cells = #[z])
    (kl kc : IntKind) (L C : Int) (n : Nat) (hl : a.eval lo = .int kl L) (hc : a.eval co = .int kc C) (hL : L = n) (hC : C = n) (hn : by_ * n ≤ 281474976710656) (hn2 : n ≤ 9223372036854775807) (cs : Array Value) (hcs : (List.replicate n z).toArray = cs)
    (h : Stop (∀ w', Hid (Grew w w') → Hid (Blk w' w.heap.size e cs) → wpList P ops Q rest (a.put o.dst (.slice (some ⟨w.heap.size, 0, none⟩) n n)) w')) : wpList P ops Q (o :: rest) a w := by
  refine wpList_wanted hgd fun K hK => ?_
  subst hL; subst hC; subst hcs
  have hr := run_make_zero P w t e ht z by_ hi hz kl kc n hn hn2
  unfold Oper.wp execOp
  simp only [ho, Sem.run_bind, Sem.run_pure, Result.andThen_ok, hl, hc, hr]
  exact hK _ _ (h _ (Grew.alloc w _) (Blk.new w e _))
end

/-! Lists of bools, lists of numbers. -/
def bvals (l : List Bool) : List Value := l.map Value.bool
def ivals (l : List Int) : List Value := l.map (Value.int .i64)
theorem bvals_len (l : List Bool) : (bvals l).length = l.length := by simp [bvals]
theorem ivals_len (l : List Int) : (ivals l).length = l.length := by simp [ivals]
theorem bvals_snoc (l : List Bool) (b : Bool) : bvals l ++ [.bool b] = bvals (l ++ [b]) := by simp [bvals]
theorem ivals_snoc (l : List Int) (i : Int) : ivals l ++ [.int .i64 i] = ivals (l ++ [i]) := by simp [ivals]
theorem RC.bool {w : World} {A : Option Addr} {l : List Bool} (h : RC w A (bvals l)) (k : Nat) (hk : k < l.length) : ∃ ad, A = some ad ∧ w.cell? (ad.add k) = some (.bool l[k]) := by
  obtain ⟨ad, e, hc⟩ := h k (by rw [bvals_len]; exact hk)
  exact ⟨ad, e, by rw [hc]; simp [bvals]⟩
theorem RC.int {w : World} {A : Option Addr} {l : List Int} (h : RC w A (ivals l)) (k : Nat) (hk : k < l.length) : ∃ ad, A = some ad ∧ w.cell? (ad.add k) = some (.int .i64 l[k]) := by
  obtain ⟨ad, e, hc⟩ := h k (by rw [ivals_len]; exact hk)
  exact ⟨ad, e, by rw [hc]; simp [ivals]⟩
theorem OwnC.bools {w : World} {B : Nat} {e : TypeId} {v : Value} {l : List Bool} (h : OwnC w B e v (bvals l)) : ∃ A c, v = .slice A l.length c ∧ l.length ≤ c ∧ c ≤ maxLen ∧ RC w A (bvals l) := by
  have := h.read
  rwa [bvals_len] at this
theorem OwnC.ints {w : World} {B : Nat} {e : TypeId} {v : Value} {l : List Int} (h : OwnC w B e v (ivals l)) : ∃ A c, v = .slice A l.length c ∧ l.length ≤ c ∧ c ≤ maxLen ∧ RC w A (ivals l) := by
  have := h.read
  rwa [ivals_len] at this
/-- The block in which a slice of the call's own lies. -/
theorem OwnC.blk {w : World} {B : Nat} {e : TypeId} {v : Value} {l : List Value} (h : OwnC w B e v l) (hl : 0 < l.length) :
    ∃ g cap cur, v = .slice (some ⟨g, 0, none⟩) l.length cap ∧ B ≤ g ∧ Blk w g e cur ∧ l.length ≤ cap ∧ cap ≤ maxLen ∧ cur.size = cap ∧ cur.toList.take l.length = l := by
  obtain ⟨_, h | ⟨g, cap, cur, hv, hb, hg, hn, hc, hs, ht⟩⟩ := h
  · omega
  · exact ⟨g, cap, cur, hv, hb, hg, hn, hc, by omega, by rw [Nat.mul_one] at ht; exact ht⟩
theorem RC.of_blk {w : World} {g : Nat} {t : TypeId} {cs : Array Value} (h : Blk w g t cs) (l : List Value) (hl : cs.toList.take l.length = l) : RC w (some ⟨g, 0, none⟩) l := fun k hk => by
  refine ⟨_, rfl, ?_⟩
  have e : (cs.toList.take l.length)[k]? = l[k]? := by rw [hl]
  rw [List.getElem?_take_of_lt hk, List.getElem?_eq_getElem hk] at e
  rw [addr_add0, h.cell]
  simpa using e
theorem OwnC.only {w w' : World} {B : Nat} {e : TypeId} {v : Value} {l : List Value} (h : OwnC w B e v l) {g : Nat} (ho : Only w w' g) (hg : g < B) : OwnC w' B e v l := by
  obtain ⟨hl, h | ⟨k, cap, cur, hv, hbk, hk, h⟩⟩ := h
  · exact ⟨hl, Or.inl h⟩
  · exact ⟨hl, Or.inr ⟨k, cap, cur, hv, hbk, Blk.only hk ho (by omega), h⟩⟩
theorem take_set_same {α : Type} (l : List α) (i n : Nat) (v : α) : (l.set i v).take n = (l.take n).set i v := by
  rw [List.take_set]

end Go.Proofs.YtkakihbfhmiabaaGreat

/-
  A region that draws its order, gone through in one order: what hangs on S alone is taken first; a call comes up alone. Plain; no program is named here.
-/
namespace Go.Proofs.YtkakihbfhmiabaaGreat
open Go.RowKit

/-- A frame behind a value that was put, and a row of Bools, written out. -/
theorem setL : (∀ (t : Array Value) (d : List Deferred) (k : Tmp) (v : Value), Act.put ⟨t, d⟩ (some k) v = ⟨t.setIfInBounds k v, d⟩) ∧ (∀ (t : Array Value) (d : List Deferred) (v : Value), Act.put ⟨t, d⟩ none v = ⟨t, d⟩) ∧ (∀ (l : List Value) (k : Nat) (v : Value), l.toArray.setIfInBounds k v = (l.set k v).toArray) ∧ (∀ (x : Value) (l : List Value) (v : Value), (x :: l).set 0 v = v :: l) ∧ (∀ (x : Value) (l : List Value) (k : Nat) (v : Value), (x :: l).set (k + 1) v = x :: l.set k v) ∧ (∀ (x : Bool) (l : List Bool) (v : Bool), (x :: l).set 0 v = v :: l) ∧ (∀ (x : Bool) (l : List Bool) (k : Nat) (v : Bool), (x :: l).set (k + 1) v = x :: l.set k v) :=
  ⟨fun _ _ _ _ => rfl, fun _ _ _ => rfl, fun _ _ _ => List.setIfInBounds_toArray .., fun _ _ _ => rfl, fun _ _ _ _ => rfl, fun _ _ _ => rfl, fun _ _ _ _ => rfl⟩
section
variable {P : Program} {l : List Oper} {Q : Exit → Act → World → Prop} {S : World → Prop} {listed : List Bool} {n : Nat} {a : Act} {w : World}

/-- What is left of the region: 'listed' tells which operations have come up. -/
def WH (P : Program) (l : List Oper) (Q : Exit → Act → World → Prop) (S : World → Prop) (listed : List Bool) (n : Nat) (a : Act) (w : World) : Prop :=
  wpAnyH P .any l.toArray Q S n listed.toArray a w

theorem WH.start {id : Nat} (listed : List Bool) (n : Nat) (hl : listed = List.replicate l.length false) (hn : l.length = n) (hm : P.follows .mixedOrders = true) (hS : S w.drew) (h : S w.drew → WH P l Q S listed n a w.drew) : (Code.region id l.toArray true).wp P Q a w :=
  wp_region_held_drew (S := S) hm hS fun hs => by
    have h' := h hs
    subst hl; subst hn
    have e : (List.replicate l.length false).toArray = Array.replicate l.toArray.size false := by simp
    unfold WH at h'
    rw [e] at h'
    simpa using h'

/-- The side conditions of a take, one Bool. -/
def takes (l : List Oper) (listed : List Bool) (i : Nat) : Bool := Region.noSelect l.toArray && Region.free .any l.toArray listed.toArray i && (Region.ready .any l.toArray listed.toArray).contains i

theorem WH.take (i : Nat) (o : Oper) (v : Value) (hi : l[i]? = some o) (ht : takes l listed i = true) (hQ : ∀ c a w, Q (.panic c) (a.put o.dst v) w → Q (.panic c) a w)
    (hw : Region.wanted o (yielded l.toArray a.tmps) = true) (hS : S w) (hy : ∀ w, S w → (execOp a.eval o).run P w = .ok (.value v) w)
    (h : WH P l Q S (listed.set i true) n (a.put o.dst v) w) : WH P l Q S listed (n + 1) a w := by
  simp only [takes, Bool.and_eq_true] at ht
  refine wpAnyH_take (i := i) (oi := o) (v := v) (by simpa using hi) ht.1.1 ht.1.2 ht.2 hQ (Or.inl ⟨hw, hy⟩) hS ?_
  unfold WH at h
  simpa using h
/-- .. with what is the same at every place laid in. -/
theorem WH.tk {v : Value} (i : Nat) {o : Oper} (h : WH P l Q S (listed.set i true) n (a.put o.dst v) w) (hi : l[i]? = some o := by exact rfl) (ht : takes l listed i = true := by kernel_rfl) (hQ : ∀ c a w, Q (.panic c) (a.put o.dst v) w → Q (.panic c) a w := by exact fun _ _ _ h => h)
    (hw : Region.wanted o (yielded l.toArray a.tmps) = true := by exact rfl) (hS : S w := by assumption) (hy : ∀ w, S w → (execOp a.eval o).run P w = .ok (.value v) w := by intro w hSw; (try dsimp only at hSw); first | (go_simp; done) | (go_simp; with_reducible rfl)) : WH P l Q S listed (n + 1) a w :=
  WH.take i o v hi ht hQ hw hS hy h
theorem WH.tv {v : Value} (i : Nat) {o : Oper} (hi : l[i]? = some o) (hy : ∀ w, S w → (execOp a.eval o).run P w = .ok (.value v) w) (h : WH P l Q S (listed.set i true) n (a.put o.dst v) w) (ht : takes l listed i = true := by kernel_rfl) (hQ : ∀ c a w, Q (.panic c) (a.put o.dst v) w → Q (.panic c) a w := by exact fun _ _ _ h => h)
    (hw : Region.wanted o (yielded l.toArray a.tmps) = true := by exact rfl) (hS : S w := by assumption) : WH P l Q S listed (n + 1) a w :=
  WH.take i o v hi ht hQ hw hS hy h
theorem WH.skip (i : Nat) (o : Oper) (hi : l[i]? = some o) (ht : takes l listed i = true) (hQ : ∀ c a w, Q (.panic c) (a.put o.dst undef) w → Q (.panic c) a w)
    (hw : Region.wanted o (yielded l.toArray a.tmps) = false) (hS : S w)
    (h : WH P l Q S (listed.set i true) n (a.put o.dst undef) w) : WH P l Q S listed (n + 1) a w := by
  simp only [takes, Bool.and_eq_true] at ht
  refine wpAnyH_take (i := i) (oi := o) (v := undef) (by simpa using hi) ht.1.1 ht.1.2 ht.2 hQ (Or.inr ⟨hw, rfl⟩) hS ?_
  unfold WH at h
  simpa using h

/-- The only one that may come up. -/
theorem WH.only (i : Nat) (o : Oper) (hi : l[i]? = some o) (hr : Region.ready .any l.toArray listed.toArray = [i]) (hw : Region.wanted o (yielded l.toArray a.tmps) = true)
    (h : ∀ K : Act → World → Prop, (∀ a' w', S w' → WH P l Q S (listed.set i true) n a' w' → K a' w') → o.wp P a w K Q) : WH P l Q S listed (n + 1) a w := by
  refine wpAnyH_all (rs := [i]) hr (by simp) fun j hj => ?_
  obtain rfl : j = i := by simpa using hj
  have hi' : l.toArray[j]? = some o := by simpa using hi
  unfold Go.wpOp
  simp only [hi', hw, if_true]
  refine Or.inl (h _ fun a' w' h1 h2 => ⟨h1, ?_⟩)
  unfold WH at h2
  simpa using h2
/-- The only one that may come up, behind a guard that keeps it back. -/
theorem WH.onlySkip (i : Nat) (o : Oper) (hi : l[i]? = some o) (hr : Region.ready .any l.toArray listed.toArray = [i]) (hw : Region.wanted o (yielded l.toArray a.tmps) = false) (hS : S w)
    (h : WH P l Q S (listed.set i true) n (a.put o.dst undef) w) : WH P l Q S listed (n + 1) a w := by
  refine wpAnyH_all (rs := [i]) hr (by simp) fun j hj => ?_
  obtain rfl : j = i := by simpa using hj
  have hi' : l.toArray[j]? = some o := by simpa using hi
  unfold Go.wpOp
  simp only [hi', hw]
  refine ⟨hS, ?_⟩
  unfold WH at h
  simpa using h
/-- The run of a load of a whole array. -/
theorem run_load_arr {o : Oper} (t : TypeId) (x : Operand) (ho : o.op = .load t x) (g : Nat) (hx : a.eval x = .pointer (some ⟨g, 0, none⟩)) (t' : TypeId) (cs : Array Value) (hg : Blk w g t' cs)
    (k : Nat) (e : TypeId) (hu : P.underlying t = some (.array k e)) (hi : (P.info? t).map (·.size) = some cs.size) : (execOp a.eval o).run P w = .ok (.value (.agg cs)) w := by
  unfold execOp
  simp only [ho, hx, Instr.loadAt, Instr.sureAddr, Sem.run_bind, Sem.run_pure, Result.andThen_ok, run_loadVar_row w g t' t cs (0, 0) _ hg hu rfl hi]

theorem WH.done (hr : Region.ready .any l.toArray listed.toArray = []) (h : Q .normal a w) : WH P l Q S listed n a w := wpAnyH_done hr h n
end

end Go.Proofs.YtkakihbfhmiabaaGreat

/-
  Rows of blocks of 256 bytes in memory: one that is loaded, stored, made, appended. Plain; no program is named here.
-/
namespace Go.Proofs.YtkakihbfhmiabaaGreat
open Go.RowKit

/-- Blocks: each has 256 bytes. -/
def Bks (L : List (List UInt8)) : Prop := ∀ x ∈ L, x.length = 256
theorem Bks.cons {x : List UInt8} {L : List (List UInt8)} (h : Bks (x :: L)) : x.length = 256 ∧ Bks L := ⟨h x (by simp), fun y hy => h y (List.mem_cons_of_mem _ hy)⟩
theorem Bks.get {L : List (List UInt8)} (h : Bks L) {k : Nat} (hk : k < L.length) : L[k].length = 256 := h _ (List.getElem_mem hk)
theorem Bks.set {L : List (List UInt8)} (h : Bks L) (k : Nat) {d : List UInt8} (hd : d.length = 256) : Bks (L.set k d) := fun x hx => by
  rcases List.mem_or_eq_of_mem_set hx with hx | rfl
  · exact h x hx
  · exact hd
theorem Bks.snoc {L : List (List UInt8)} (h : Bks L) {d : List UInt8} (hd : d.length = 256) : Bks (L ++ [d]) := fun x hx => by
  rw [List.mem_append, List.mem_singleton] at hx
  rcases hx with hx | rfl
  · exact h x hx
  · exact hd
theorem Bks.nil_ : Bks [] := fun x hx => by simp at hx
theorem Bks.same (n : Nat) {d : List UInt8} (hd : d.length = 256) : Bks (List.replicate n d) := fun x hx => by rw [(List.mem_replicate.1 hx).2]; exact hd
theorem flat_len {L : List (List UInt8)} (h : Bks L) : L.flatten.length = L.length * 256 := by
  induction L with
  | nil => rfl
  | cons x L ih =>
    obtain ⟨h1, h2⟩ := h.cons
    rw [List.flatten_cons, List.length_append, ih h2, h1, List.length_cons]
    omega
theorem flat_cut {L : List (List UInt8)} (h : Bks L) {k : Nat} (hk : k < L.length) : (L.flatten.drop (k * 256)).take 256 = L[k] := by
  induction L generalizing k with
  | nil => simp at hk
  | cons x L ih =>
    obtain ⟨h1, h2⟩ := h.cons
    rw [List.flatten_cons]
    cases k with
    | zero =>
      rw [Nat.zero_mul, List.drop_zero, List.take_append_of_le_length (by omega), List.take_of_length_le (by omega)]
      rfl
    | succ k =>
      have hk' : k < L.length := by simpa using hk
      rw [show (k + 1) * 256 = x.length + k * 256 by omega, List.drop_append]
      rw [show x.length + k * 256 - x.length = k * 256 by omega, List.drop_of_length_le (by omega), List.nil_append, ih h2 hk']
      rfl
theorem flat_get {L : List (List UInt8)} (h : Bks L) {k i : Nat} (hk : k < L.length) (hi : i < 256) : L.flatten[k * 256 + i]? = L[k][i]? := by
  rw [← flat_cut h hk, List.getElem?_take_of_lt hi, List.getElem?_drop]
theorem flat_set {L : List (List UInt8)} (h : Bks L) {k : Nat} (hk : k < L.length) {d : List UInt8} (hd : d.length = 256) : splice L.flatten (k * 256) d = (L.set k d).flatten := by
  induction L generalizing k with
  | nil => simp at hk
  | cons x L ih =>
    obtain ⟨h1, h2⟩ := h.cons
    cases k with
    | zero =>
      unfold splice
      rw [Nat.zero_mul, List.take_zero, Nat.zero_add, hd, List.flatten_cons, List.set_cons_zero, List.flatten_cons, List.nil_append, List.drop_append, List.drop_of_length_le (by omega), h1]
      rfl
    | succ k =>
      have hk' : k < L.length := by simpa using hk
      rw [List.set_cons_succ, List.flatten_cons, List.flatten_cons, ← ih h2 hk']
      unfold splice
      rw [show (k + 1) * 256 = x.length + k * 256 by omega, List.take_append, List.drop_append]
      rw [show x.length + k * 256 - x.length = k * 256 by omega, show x.length + k * 256 + d.length - x.length = k * 256 + d.length by omega, List.take_of_length_le (show x.length ≤ x.length + k * 256 by omega), List.drop_of_length_le (show x.length ≤ x.length + k * 256 + d.length by omega)]
      simp [List.append_assoc]
theorem flat_snoc (L : List (List UInt8)) (d : List UInt8) : (L ++ [d]).flatten = L.flatten ++ d := by simp

/-- A slice of blocks with this address reads as these. -/
def RK (w : World) (A : Option Addr) (L : List (List UInt8)) : Prop := ∀ k (h : k < L.length) i (hi : i < 256), ∃ ad x, A = some ad ∧ L[k][i]? = some x ∧ w.cell? (ad.add (k * 256 + i)) = some (.int .u8 (x.toNat : Int))
theorem RK.below {w w' : World} {A : Option Addr} {L : List (List UInt8)} (h : RK w A L) (hb : Below w.heap.size w w') : RK w' A L := fun k hk i hi => by
  obtain ⟨ad, x, e, hx, hc⟩ := h k hk i hi
  exact ⟨ad, x, e, hx, by rw [hb.cell (block_lt_of_cell hc), hc]⟩
theorem RK.of_blk {w : World} {g : Nat} {t : TypeId} {L : List (List UInt8)} (hL : Bks L) (h : Blk w g t (bcells L.flatten)) : RK w (some ⟨g, 0, none⟩) L := fun k hk i hi => by
  have hil : i < L[k].length := by rw [hL.get hk]; exact hi
  refine ⟨_, L[k][i], rfl, List.getElem?_eq_getElem hil, ?_⟩
  rw [addr_add0, h.cell, bcells_get, flat_get hL hk hi, List.getElem?_eq_getElem hil]
  rfl
/-- .. as bytes, one behind the other. -/
theorem RK.bytes {w : World} {A : Option Addr} {L : List (List UInt8)} (hL : Bks L) (h : RK w A L) : RB w A L.flatten := fun j hj => by
  rw [flat_len hL] at hj
  have hk : j / 256 < L.length := by omega
  obtain ⟨ad, x, e, hx, hc⟩ := h (j / 256) hk (j % 256) (by omega)
  refine ⟨ad, e, ?_⟩
  have hjj : j / 256 * 256 + j % 256 = j := by omega
  rw [hjj] at hc
  rw [hc]
  have h2 := flat_get hL hk (show j % 256 < 256 by omega)
  rw [hjj, hx, List.getElem?_eq_getElem (by rw [flat_len hL]; exact hj)] at h2
  injection h2 with h2
  rw [h2]

section
variable {P : Program} {ops : Array Oper} {rest : List Oper} {o : Oper} {a : Act} {w : World} {K : Act → World → Prop} {Q : Exit → Act → World → Prop}

theorem run_loadVar_bk (P : Program) (w : World) (ty : TypeId) (d : TypeDesc) (hu : P.underlying ty = some d) (hd : (match d with | .struct _ | .array _ _ => true | _ => false) = true) (hs : (P.info? ty).map (·.size) = some 256) (ad : Addr) (k : Nat) (L : List (List UInt8)) (hL : Bks L) (hk : k < L.length) (hr : RK w (some ad) L) :
    (loadVar ty (ad.add (k * 256))).run P w = .ok (.agg (bcells L[k])) w := by
  have hlen : (L[k].map fun x : UInt8 => Value.int .u8 (x.toNat : Int)).length = 256 := by rw [List.length_map, hL.get hk]
  have hl := run_loadCells_list (P := P) w (ad.add (k * 256)) (L[k].map fun x => Value.int .u8 (x.toNat : Int)) (fun j v hj => by
    rw [List.getElem?_map] at hj
    obtain ⟨x, hx, rfl⟩ := Option.map_eq_some_iff.1 hj
    have hj' : j < 256 := by rw [← hL.get hk]; exact (List.getElem?_eq_some_iff.1 hx).1
    obtain ⟨ad', x', e, hx', hc⟩ := hr k hk j hj'
    injection e with e
    subst e
    rw [hx] at hx'
    injection hx' with hx'
    rw [add_of_add, hc, hx'])
  rw [hlen] at hl
  obtain ⟨i, hq, hsz⟩ := Option.map_eq_some_iff.1 hs
  have hagg : (isAgg ty).run P w = .ok true w := by
    unfold isAgg
    rw [Sem.run_bind, run_underlying hu w]
    cases d <;> simp_all
  simp [loadVar, Sem.run_bind, hagg, sizeOf, typeInfo, hq, hsz, hl, bcells]
/-- A block of a row is loaded. -/
theorem exec_load_bk {o : Oper} (t : TypeId) (x : Operand) (ho : o.op = .load t x) (ad : Addr) (k : Nat) (hx : a.eval x = .pointer (some (ad.add (k * 256)))) (L : List (List UInt8)) (hL : Bks L) (hk : k < L.length) (hr : RK w (some ad) L)
    (d : TypeDesc) (hu : P.underlying t = some d) (hd : (match d with | .struct _ | .array _ _ => true | _ => false) = true) (hs : (P.info? t).map (·.size) = some 256) : (execOp a.eval o).run P w = .ok (.value (.agg (bcells L[k]))) w := by
  unfold execOp
  simp only [ho, hx, Instr.loadAt, Instr.sureAddr, Sem.run_bind, Sem.run_pure, Result.andThen_ok, run_loadVar_bk P w t d hu hd hs ad k L hL hk hr]
theorem wpList_load_bk (hgd : Region.wanted o (yielded ops a.tmps) = true) (t : TypeId) (x : Operand) (ho : o.op = .load t x) (ad : Addr) (k : Nat) (hx : a.eval x = .pointer (some (ad.add (k * 256)))) (L : List (List UInt8)) (hL : Bks L) (hk : k < L.length) (hr : RK w (some ad) L)
    (d : TypeDesc) (hu : P.underlying t = some d) (hd : (match d with | .struct _ | .array _ _ => true | _ => false) = true) (hs : (P.info? t).map (·.size) = some 256) (h : wpList P ops Q rest (a.put o.dst (.agg (bcells L[k]))) w) : wpList P ops Q (o :: rest) a w := by
  refine wpList_wanted hgd fun K hK => ?_
  unfold Oper.wp
  rw [exec_load_bk t x ho ad k hx L hL hk hr d hu hd hs]
  exact hK _ _ h

theorem run_storeVar_bk (P : Program) (w : World) (ty : TypeId) (hs : (P.info? ty).map (·.size) = some 256) (g k : Nat) (t : TypeId) (L : List (List UInt8)) (hL : Bks L) (hk : k < L.length) (hg : Blk w g t (bcells L.flatten)) (d : List UInt8) (hd : d.length = 256) :
    (storeVar ty ⟨g, k * 256, none⟩ (.agg (bcells d))).run P w = .ok () (w.setRow g (bcells (L.set k d).flatten)) := by
  have hfl := flat_len hL
  have hst := run_storeCells_at P g (k * 256) t (d.map fun x : UInt8 => Value.int .u8 (x.toNat : Int)) 0 (bcells L.flatten) w hg (by rw [bcells_size, List.length_map, hd, hfl]; omega) (by
    intro v hv
    obtain ⟨x, _, rfl⟩ := List.mem_map.1 hv
    rfl)
  have e : (List.take (k * 256 + 0) (bcells L.flatten).toList ++ (d.map fun x : UInt8 => Value.int .u8 (x.toNat : Int)) ++ List.drop (k * 256 + 0 + (d.map fun x : UInt8 => Value.int .u8 (x.toNat : Int)).length) (bcells L.flatten).toList).toArray = bcells (L.set k d).flatten := by
    rw [← flat_set hL hk hd]
    simp only [bcells, splice, Nat.add_zero, List.length_map, List.map_append, List.map_take, List.map_drop]
  rw [e] at hst
  obtain ⟨i, hq, hsz⟩ := Option.map_eq_some_iff.1 hs
  have hcs : (Value.agg (bcells d)).cells = bcells d := rfl
  have hz : (bcells d).size = 256 := by rw [bcells_size, hd]
  have htl : (bcells d).toList = d.map fun x : UInt8 => Value.int .u8 (x.toNat : Int) := rfl
  simp [storeVar, sizeOf, typeInfo, hq, hsz, hcs, hz, htl, hst]
/-- A block of a row is stored. -/
theorem ow_store_bk (ty : TypeId) (x y : Operand) (ho : o.op = .store ty x y) (hs : (P.info? ty).map (·.size) = some 256)
    (g k : Nat) (hx : a.eval x = .pointer (some ⟨g, k * 256, none⟩)) (d : List UInt8) (hy : a.eval y = .agg (bcells d)) (hd : d.length = 256) (t : TypeId) (L : List (List UInt8)) (hL : Bks L) (hk : k < L.length) (hg : Blk w g t (bcells L.flatten))
    (h : Stop (∀ w', Hid (Only w w' g) → Hid (Blk w' g t (bcells (L.set k d).flatten)) → K (a.put o.dst undef) w')) : o.wp P a w K Q := by
  unfold Oper.wp execOp
  simp only [ho, hx, hy, Instr.storeAt, Instr.sureAddr, Sem.run_bind, Sem.run_pure, Result.andThen_ok, run_storeVar_bk P w ty hs g k t L hL hk hg d hd]
  exact h _ (Only.setRow hg _) (hg.setRow _)
theorem wpList_store_bk (hgd : Region.wanted o (yielded ops a.tmps) = true) (ty : TypeId) (x y : Operand) (ho : o.op = .store ty x y) (hs : (P.info? ty).map (·.size) = some 256)
    (g k : Nat) (hx : a.eval x = .pointer (some ⟨g, k * 256, none⟩)) (d : List UInt8) (hy : a.eval y = .agg (bcells d)) (hd : d.length = 256) (t : TypeId) (L : List (List UInt8)) (hL : Bks L) (hk : k < L.length) (hg : Blk w g t (bcells L.flatten))
    (h : Stop (∀ w', Hid (Only w w' g) → Hid (Blk w' g t (bcells (L.set k d).flatten)) → wpList P ops Q rest (a.put o.dst undef) w')) : wpList P ops Q (o :: rest) a w :=
  wpList_wanted hgd fun _ hK => ow_store_bk ty x y ho hs g k hx d hy hd t L hL hk hg (fun w' h1 h2 => hK _ _ (h w' h1 h2))

/-- make of n blocks of noughts. -/
theorem run_make_bk (P : Program) (w : World) (t e : TypeId) (ht : P.underlying t = some (.slice e)) (hi : (P.info? e).map (fun i => (i.zero, i.size, i.bytes)) = some (some (.agg (bcells (zeros 256))), 256, 256)) (kl kc : IntKind) (n : Nat) (hn : n ≤ 1099511627776) :
    (Instr.makeSlice t (.int kl n) (.int kc n)).run P w = .ok (.slice (some ⟨w.heap.size, 0, none⟩) n n) (w.alloc (.cells (bcells (List.replicate n (zeros 256)).flatten) e)) := by
  obtain ⟨i, h1, h2, h3, h4⟩ := info_parts hi
  have hr := run_make (P := P) w t e i _ ht h1 h2 kl kc n n (by omega) (by omega) (by rw [h4]; omega) (by omega)
  have hb : Bks (List.replicate n (zeros 256)) := Bks.same n (zeros_len 256)
  have hfl := flat_len hb
  rw [List.length_replicate] at hfl
  have e1 : madeCells (Value.agg (bcells (zeros 256))).cells ((n : Int).toNat * i.size) = bcells (List.replicate n (zeros 256)).flatten := by
    rw [h3, Int.toNat_natCast]
    apply Array.ext_getElem?
    intro j
    have hcs : (Value.agg (bcells (zeros 256))).cells = bcells (zeros 256) := rfl
    have hz : (bcells (zeros 256)).size = 256 := by rw [bcells_size, zeros_len]
    rw [bcells_get]
    by_cases hj : j < n * 256
    · have hk : j / 256 < (List.replicate n (zeros 256)).length := by rw [List.length_replicate]; omega
      have h5 := flat_get hb hk (show j % 256 < 256 by omega)
      rw [show j / 256 * 256 + j % 256 = j by omega] at h5
      rw [h5]
      have h6 : (bcells (zeros 256))[j % 256]! = Value.int .u8 0 := by
        have h7 : (bcells (zeros 256))[j % 256]? = some (.int .u8 0) := by rw [bcells_get, zeros, List.getElem?_replicate, if_pos (by omega)]; rfl
        rw [getElem!_def, h7]
      have h8 : (List.replicate n (zeros 256))[j / 256]'hk = zeros 256 := List.getElem_replicate hk
      have h9 : (zeros 256)[j % 256]? = some 0 := by rw [zeros, List.getElem?_replicate, if_pos (by omega)]
      rw [h8, h9, hcs]
      generalize bcells (zeros 256) = cs at h6 hz ⊢
      unfold madeCells
      rw [Array.getElem?_map, Array.getElem?_range, if_pos hj, hz]
      exact congrArg some h6
    · rw [List.getElem?_eq_none (by rw [hfl]; omega)]
      simp [madeCells, hj]
  rw [e1] at hr
  simpa using hr
theorem wpList_make_bk (hgd : Region.wanted o (yielded ops a.tmps) = true) (lo co : Operand) (t e : TypeId) (ho : o.op = .makeSlice t lo co) (ht : P.underlying t = some (.slice e)) (hi : (P.info? e).map (fun i => (i.zero, i.size, i.bytes)) = some (some (.agg (bcells (zeros 256))), 256, 256))
    (kl kc : IntKind) (X C : Int) (n : Nat) (hl : a.eval lo = .int kl X) (hc : a.eval co = .int kc C) (hX : X = n) (hC : C = n) (hn : n ≤ 1099511627776)
    (h : Stop (∀ w', Hid (Grew w w') → Hid (Blk w' w.heap.size e (bcells (List.replicate n (zeros 256)).flatten)) → wpList P ops Q rest (a.put o.dst (.slice (some ⟨w.heap.size, 0, none⟩) n n)) w')) : wpList P ops Q (o :: rest) a w := by
  refine wpList_wanted hgd fun K hK => ?_
  subst hX; subst hC
  have hr := run_make_bk P w t e ht hi kl kc n hn
  unfold Oper.wp execOp
  simp only [ho, Sem.run_bind, Sem.run_pure, Result.andThen_ok, hl, hc, hr]
  exact hK _ _ (h _ (Grew.alloc w _) (Blk.new w e _))
end

/-- A slice of blocks of the call's own. -/
def OwnK (w : World) (B : Nat) (e : TypeId) (v : Value) (L : List (List UInt8)) : Prop := Bks L ∧ w.ownsRow B e 256 v L.length (L.flatten.map fun x => Value.int .u8 (x.toNat : Int))
theorem OwnK.nil_ (w : World) (B : Nat) (e : TypeId) : OwnK w B e (.slice none 0 0) [] := ⟨Bks.nil_, World.ownsRow_nil w B e 256⟩
theorem OwnK.lt {w : World} {B : Nat} {e : TypeId} {v : Value} {L : List (List UInt8)} (h : OwnK w B e v L) : ∀ k, v.ownBlock = some k → B ≤ k ∧ k < w.heap.size := World.ownsRow.lt h.2
theorem OwnK.ext {w w' : World} {B : Nat} {e : TypeId} {v : Value} {L : List (List UInt8)} (h : OwnK w B e v L) (hb : Below w.heap.size w w') : OwnK w' B e v L := by
  obtain ⟨hL, hl, h | ⟨g, cap, cur, hv, hbg, hg, h⟩⟩ := h
  · exact ⟨hL, hl, Or.inl h⟩
  · exact ⟨hL, hl, Or.inr ⟨g, cap, cur, hv, hbg, Blk.ext hg hb, h⟩⟩
theorem OwnK.read {w : World} {B : Nat} {e : TypeId} {v : Value} {L : List (List UInt8)} (h : OwnK w B e v L) : ∃ A c, v = .slice A L.length c ∧ L.length ≤ c ∧ c ≤ maxLen ∧ RK w A L := by
  obtain ⟨hL, hl, h | ⟨g, cap, cur, hv, hb, hg, hn, hc, hs, ht⟩⟩ := h
  · refine ⟨none, 0, by rw [h.1, h.2], by omega, by unfold maxLen; omega, fun k hk => ?_⟩
    have := h.2
    omega
  · refine ⟨_, cap, hv, hn, hc, fun k hk i hi => ?_⟩
    have hil : i < L[k].length := by rw [hL.get hk]; exact hi
    refine ⟨_, L[k][i], rfl, List.getElem?_eq_getElem hil, ?_⟩
    have h2 : (cur.toList.take (L.length * 256))[k * 256 + i]? = (L.flatten.map fun x => Value.int .u8 (x.toNat : Int))[k * 256 + i]? := by rw [ht]
    rw [List.getElem?_take_of_lt (by omega), List.getElem?_map, flat_get hL hk hi, List.getElem?_eq_getElem hil] at h2
    rw [addr_add0, cell_of_row w g _ cur e (0, 0) hg]
    simpa using h2

section
variable {P : Program} {ops : Array Oper} {rest : List Oper} {o : Oper} {a : Act} {w : World} {K : Act → World → Prop} {Q : Exit → Act → World → Prop}
/-- append of blocks to a slice of the call's own. -/
theorem run_append_bk (P : Program) (w : World) (t ty e : TypeId) (ht : P.underlying t = some (.slice e)) (z : Value) (hi : (P.info? e).map (fun i => (i.zero, i.size, i.bytes)) = some (some z, 256, 256)) (hz : z.cells.size = 256)
    (B : Nat) (v : Value) (L : List (List UInt8)) (hown : OwnK w B e v L) (ad : Addr) (n c : Nat) (M : List (List UInt8)) (hM : Bks M) (hn : M.length = n) (hr : RK w (some ad) M) (hB : B ≤ w.heap.size) (hlen : L.length + n ≤ 549755813888) :
    ∃ v' w', (Builtin.append_ #[t, t] ty #[v, .slice (some ad) n c]).run P w = .ok v' w' ∧ OwnK w' B e v' (L ++ M) ∧ Below B w w' := by
  obtain ⟨i, h1, h2, h3, h4⟩ := info_parts hi
  have hrb := RK.bytes hM hr
  have hfl := flat_len hM
  obtain ⟨v', w', hrun, ho, hg, _⟩ := run_append_own (P := P) w B t ty e i z 256 256 ht h1 h2 h3 h4 hz (by omega) v L.length _ hown.2 ad n c (M.flatten.map fun x => Value.int .u8 (x.toNat : Int)) (by rw [List.length_map, hfl, hn]) (fun j u hj => by
    rw [List.getElem?_map] at hj
    obtain ⟨x, hx, rfl⟩ := Option.map_eq_some_iff.1 hj
    obtain ⟨hjl, rfl⟩ := List.getElem?_eq_some_iff.1 hx
    obtain ⟨ad', e1, hc⟩ := hrb j hjl
    injection e1 with e1
    subst e1
    exact hc) (fun u hu => by
    obtain ⟨x, _, rfl⟩ := List.mem_map.1 hu
    rfl) (by unfold maxLen; omega) (by omega) hB
  refine ⟨v', w', hrun, ⟨fun x hx => ?_, ?_⟩, (Below.refl B w).grown hg hB (fun k hk => (hown.lt k hk).1)⟩
  · rw [List.mem_append] at hx
    rcases hx with hx | hx
    · exact hown.1 x hx
    · exact hM x hx
  · rw [List.length_append, hn, List.flatten_append, List.map_append]
    exact ho
theorem wpList_append_bk (hgd : Region.wanted o (yielded ops a.tmps) = true) (s x : Operand) (t e : TypeId) (ho : o.op = .call { callee := .builtin .append, args := #[s, x], argTypes := #[t, t] })
    (ht : P.underlying t = some (.slice e)) (z : Value) (hi : (P.info? e).map (fun i => (i.zero, i.size, i.bytes)) = some (some z, 256, 256)) (hz : z.cells.size = 256)
    (B : Nat) (v : Value) (L : List (List UInt8)) (hown : OwnK w B e v L) (ad : Addr) (n c : Nat) (M : List (List UInt8)) (hM : Bks M) (hn : M.length = n) (hr : RK w (some ad) M) (hs : a.eval s = v) (hx : a.eval x = .slice (some ad) n c) (hB : B ≤ w.heap.size) (hlen : L.length + n ≤ 549755813888)
    (h : Stop (∀ v' w', Hid (OwnK w' B e v' (L ++ M)) → Hid (Below B w w') → wpList P ops Q rest (a.put o.dst v') w')) : wpList P ops Q (o :: rest) a w := by
  refine wpList_wanted hgd fun K hK => ?_
  obtain ⟨v', w', hrun, h1, h2⟩ := run_append_bk P w t o.type e ht z hi hz B v L hown ad n c M hM hn hr hB hlen
  unfold Oper.wp execOp
  simp only [ho, resolve, invoke, builtin, Sem.run_bind, Sem.run_pure, Result.andThen_ok, List.map_toArray, List.map_cons, List.map_nil, hs, hx, hrun]
  exact hK _ _ (h v' w' h1 h2)
end

end Go.Proofs.YtkakihbfhmiabaaGreat
