/-
  Texts of this claim joined: List, AppX, Cell, Held, DiskA, Row, Open, StepA, BksO, CloK.
-/
import Derived.Test.YtpdeohmgjblkeaaGrA
import Derived.SliceStrings
import Derived.Deep.RegionHeld
import Derived.Test.YtpdeohmgjblkeaaRows
import Derived.ProofKit
import Derived.Carry
import Derived.OpenShut
import Derived.ChangeSame
import Derived.SizedLaws
import Derived.Lib.SmallJoins
import Derived.Deep.Slices
import Derived.Deep.Strs
import Derived.Great.BuildSlice
import Derived.Great.FillDense
import Derived.Lib.SliceRun

/-
  Words for lists of one-cell values in memory: a slice that reads as a list, a slice of the call's own. Plain; no program is named here.
-/
namespace Go.Proofs.Ytpdeohmgjblkeaa
open Go.RowKit

/-- A slice value with this address reads as these cells. -/
def RC (w : World) (A : Option Addr) (l : List Value) : Prop :=
  ∀ k (h : k < l.length), ∃ ad, A = some ad ∧ w.cell? (ad.add k) = some l[k]
theorem RC.below {w w' : World} {A : Option Addr} {l : List Value} (h : RC w A l) (hb : Below w.heap.size w w') : RC w' A l := fun k hk => by
  obtain ⟨ad, e, hc⟩ := h k hk
  refine ⟨ad, e, ?_⟩
  rw [hb.cell (block_lt_of_cell hc), hc]
theorem RC.nil_ (w : World) (A : Option Addr) : RC w A [] := fun k h => absurd h (by simp)
/-- A slice value of the call's own (no block below B) that reads as these cells. -/
def OwnC (w : World) (B : Nat) (e : TypeId) (v : Value) (l : List Value) : Prop := w.ownsRow B e 1 v l.length l
theorem OwnC.nil_ (w : World) (B : Nat) (e : TypeId) : OwnC w B e (.slice none 0 0) [] := World.ownsRow_nil w B e 1
theorem OwnC.read {w : World} {B : Nat} {e : TypeId} {v : Value} {l : List Value} (h : OwnC w B e v l) : ∃ A c, v = .slice A l.length c ∧ l.length ≤ c ∧ c ≤ maxLen ∧ RC w A l := by
  obtain ⟨hl, h | ⟨g, cap, cur, hv, hb, hg, hn, hc, hs, ht⟩⟩ := h
  · refine ⟨none, 0, by rw [h.1, h.2], by omega, by unfold maxLen; omega, ?_⟩
    have : l = [] := List.eq_nil_of_length_eq_zero h.2
    subst this
    exact RC.nil_ _ _
  · refine ⟨_, cap, hv, hn, hc, fun k hk => ⟨_, rfl, ?_⟩⟩
    have h2 : (cur.toList.take (l.length * 1))[k]? = l[k]? := by rw [ht]
    rw [List.getElem?_take_of_lt (by omega), List.getElem?_eq_getElem hk] at h2
    rw [addr_add0, cell_of_row w g k cur e (0, 0) hg]
    simpa using h2
theorem OwnC.lt {w : World} {B : Nat} {e : TypeId} {v : Value} {l : List Value} (h : OwnC w B e v l) : ∀ k, v.ownBlock = some k → B ≤ k ∧ k < w.heap.size := World.ownsRow.lt h
theorem OwnC.ext {w w' : World} {B : Nat} {e : TypeId} {v : Value} {l : List Value} (h : OwnC w B e v l) (hb : Below w.heap.size w w') : OwnC w' B e v l := by
  obtain ⟨hl, h | ⟨g, cap, cur, hv, hbg, hg, h⟩⟩ := h
  · exact ⟨hl, Or.inl h⟩
  · exact ⟨hl, Or.inr ⟨g, cap, cur, hv, hbg, Blk.ext hg hb, h⟩⟩
theorem OwnC.low {w : World} {B B' : Nat} {e : TypeId} {v : Value} {l : List Value} (h : OwnC w B e v l) (hb : B' ≤ B) : OwnC w B' e v l := by
  obtain ⟨hl, h | ⟨g, cap, cur, hv, hbg, h⟩⟩ := h
  · exact ⟨hl, Or.inl h⟩
  · exact ⟨hl, Or.inr ⟨g, cap, cur, hv, Nat.le_trans hb hbg, h⟩⟩
/-- No block is both's. -/
def Apart (u v : Value) : Prop := ∀ k, u.ownBlock = some k → v.ownBlock ≠ some k
theorem Apart.nil_ (v : Value) : Apart (.slice none 0 0) v := fun k h => by simp [Value.ownBlock] at h
theorem Apart.symm {u v : Value} (h : Apart u v) : Apart v u := fun k h1 h2 => h k h2 h1
/-- What an append to v leaves: v' in its place, and all others' as they were. -/
structure Added (w w' : World) (B : Nat) (v v' : Value) : Prop where
  below : Below B w w'
  keep : ∀ B' e u l, OwnC w B' e u l → Apart u v → OwnC w' B' e u l ∧ Apart u v'

section
variable {P : Program} {ops : Array Oper} {rest : List Oper} {o : Oper} {a : Act} {w : World} {Q : Exit → Act → World → Prop}

theorem run_append_one (P : Program) (w : World) (t ty e : TypeId) (ht : P.underlying t = some (.slice e)) (z : Value) (by_ : Nat) (hi : (P.info? e).map (fun i => (i.zero, i.size, i.bytes)) = some (some z, 1, by_)) (hz : z.cells.size = 1)
    (B : Nat) (v : Value) (l : List Value) (hown : OwnC w B e v l) (X : Value) (hX : X.oneCell' = true) (ad : Addr) (c : Nat) (hc : w.cell? ad = some X) (hB : B ≤ w.heap.size) (hlen : l.length + 1 ≤ maxLen) (hby : (l.length + 1) * by_ ≤ 140737488355328) :
    ∃ v' w', (Builtin.append_ #[t, t] ty #[v, .slice (some ad) 1 c]).run P w = .ok v' w' ∧ OwnC w' B e v' (l ++ [X]) ∧ w.grownBy w' v.ownBlock ∧ (v'.ownBlock = v.ownBlock ∨ v'.ownBlock = some w.heap.size) := by
  obtain ⟨i, h1, h2, h3, h4⟩ := info_parts hi
  have hnews : ∀ j u, [X][j]? = some u → w.cell? (ad.add j) = some u := fun j u hj => by
    match j, hj with
    | 0, hj =>
      simp at hj
      subst hj
      exact hc
  have h5 : ∀ u ∈ [X], u.oneCell' = true := fun u hu => by
    simp at hu
    subst hu
    exact hX
  have hlm : l.length + 1 ≤ 9223372036854775807 := by unfold maxLen at hlen; omega
  obtain ⟨v', w', hr, ho, hg, _⟩ := run_append_own (P := P) w B t ty e i z 1 by_ ht h1 h2 h3 h4 hz (by omega) v l.length l hown ad 1 c [X] rfl hnews h5 hlen hby hB
  have e1 : (l ++ [X]).length = l.length + 1 := by simp
  refine ⟨v', w', hr, by unfold OwnC; rw [e1]; exact ho, hg, ?_⟩
  obtain ⟨hl, ⟨rfl, hn⟩ | ⟨g, cap, cur, rfl, hbg, hgr, hnc, hcm, hcs, htk⟩⟩ := id hown
  · have hb1 : 1 * by_ ≤ 140737488355328 := Nat.le_trans (Nat.mul_le_mul_right by_ (by omega)) hby
    have hr' := run_append_nil (P := P) w t ty e i z ht h1 h2 ad 1 c [X] (by rw [h3]; rfl) hnews (by omega) (by omega) (by rw [h4]; omega)
    rw [hr] at hr'
    injection hr' with e2 _
    right
    rw [e2]
    rfl
  · by_cases hroom : l.length + 1 ≤ cap
    · have hr' := run_append_room (P := P) w t ty e i ht h1 g l.length cap cur hgr ad 1 c [X] (by rw [h3]; rfl) hnews h5 hroom (by rw [h3, hcs]; simp; omega)
      rw [hr] at hr'
      injection hr' with e2 _
      left
      rw [e2]
      rfl
    · have holds : ∀ j u, l[j]? = some u → w.cell? ((⟨g, 0, none⟩ : Addr).add j) = some u := hown.cells (g := g) rfl
      have hr' := run_append_grow (P := P) w t ty e i z ht h1 h2 ⟨g, 0, none⟩ l.length cap l (by rw [h3]; simp) holds ad 1 c [X] (by rw [h3]; rfl) hnews (by omega) (by omega) (by rw [h4]; exact growslice_fits (by omega) hby)
      rw [hr] at hr'
      injection hr' with e2 _
      right
      rw [e2]
      rfl

/-- append of one value, boxed just ahead. -/
theorem wpList_append_one (hgd : Region.wanted o (yielded ops a.tmps) = true) (s x : Operand) (t e : TypeId) (ho : o.op = .call { callee := .builtin .append, args := #[s, x], argTypes := #[t, t] })
    (ht : P.underlying t = some (.slice e)) (z : Value) (by_ : Nat) (hi : (P.info? e).map (fun i => (i.zero, i.size, i.bytes)) = some (some z, 1, by_)) (hz : z.cells.size = 1)
    (B : Nat) (v : Value) (l : List Value) (hs : a.eval s = v) (hown : OwnC w B e v l) (X : Value) (hX : X.oneCell' = true) (hx : a.eval x = .slice (some ⟨w.heap.size, 0, none⟩) 1 1)
    (hB : B ≤ w.heap.size) (hlen : l.length + 1 ≤ maxLen) (hby : (l.length + 1) * by_ ≤ 140737488355328)
    (h : Stop (∀ v' w', Hid (OwnC w' B e v' (l ++ [X])) → Hid (Added w w' B v v') → wpList P ops Q rest (a.put o.dst v') w')) : wpList P ops Q (o :: rest) a (w.alloc (.cells #[X] e)) := by
  refine wpList_wanted hgd fun K hK => ?_
  obtain ⟨v', w', hr, h1, h2, h3⟩ := run_append_one P (w.alloc (.cells #[X] e)) t o.type e ht z by_ hi hz B v l (World.ownsRow.alloc hown _) X hX ⟨w.heap.size, 0, none⟩ 1 (by have h := cell_one_new w X e 0 X rfl; rwa [addr_add0] at h) (by simp; omega) hlen hby
  unfold Oper.wp execOp
  simp only [ho, resolve, invoke, builtin, Sem.run_bind, Sem.run_pure, Result.andThen_ok, List.map_toArray, List.map_cons, List.map_nil, hs, hx, hr]
  refine hK _ _ (h v' w' h1 ⟨?_, fun B' e' u m hu hap => ⟨?_, fun k hk => ?_⟩⟩)
  · refine (((Below.refl B w).alloc (by omega) _)).grown h2 (by simp; omega) ?_
    intro k hk
    exact (hown.lt k hk).1
  · refine World.ownsRow.kept (World.ownsRow.alloc hu _) h2 ?_
    cases hb : u.ownBlock with
    | none => exact Or.inl rfl
    | some k => exact Or.inr fun e => hap k hb e.symm
  · have hlt := (hu.lt k hk).2
    rcases h3 with h3 | h3 <;> rw [h3]
    · exact hap k hk
    · simp
      omega
end

/-! Lists of texts. -/
def svals (l : List ByteArray) : List Value := l.map Value.string
theorem svals_len (l : List ByteArray) : (svals l).length = l.length := by simp [svals]
theorem svals_snoc (l : List ByteArray) (s : ByteArray) : svals l ++ [.string s] = svals (l ++ [s]) := by simp [svals]
theorem RC.str {w : World} {A : Option Addr} {l : List ByteArray} (h : RC w A (svals l)) (k : Nat) (hk : k < l.length) : ∃ ad, A = some ad ∧ w.cell? (ad.add k) = some (.string l[k]) := by
  obtain ⟨ad, e, hc⟩ := h k (by rw [svals_len]; exact hk)
  exact ⟨ad, e, by rw [hc]; simp [svals]⟩
theorem OwnC.strs {w : World} {B : Nat} {e : TypeId} {v : Value} {l : List ByteArray} (h : OwnC w B e v (svals l)) : ∃ A c, v = .slice A l.length c ∧ l.length ≤ c ∧ c ≤ maxLen ∧ RC w A (svals l) := by
  have := h.read
  rwa [svals_len] at this
theorem bytes_eq (s t : ByteArray) : (s.toList == t.toList) = decide (s = t) := by
  rw [Bool.eq_iff_iff, ByteArray.toList_eq, ByteArray.toList_eq]
  simp only [beq_iff_eq, decide_eq_true_eq]
  exact ⟨fun h => Go.WideShapes.bytes_inj h, fun h => by rw [h]⟩

end Go.Proofs.Ytpdeohmgjblkeaa

/-
  append of one value to a list of the call's own: a block that is not the list's stays as it is, and is not the new list's. Plain; no program is named here.
-/
namespace Go.Proofs.Ytpdeohmgjblkeaa
open Go.RowKit

section
variable {P : Program} {ops : Array Oper} {rest : List Oper} {o : Oper} {a : Act} {w : World} {Q : Exit → Act → World → Prop}
/-- What stands in blocks that are not the list's stands there still. -/
def Beside (w w' : World) (v v' : Value) : Prop := ∀ g t cs, Blk w g t cs → v.ownBlock ≠ some g → Blk w' g t cs ∧ v'.ownBlock ≠ some g
theorem wpList_append_oneX (hgd : Region.wanted o (yielded ops a.tmps) = true) (s x : Operand) (t e : TypeId) (ho : o.op = .call { callee := .builtin .append, args := #[s, x], argTypes := #[t, t] })
    (ht : P.underlying t = some (.slice e)) (z : Value) (by_ : Nat) (hi : (P.info? e).map (fun i => (i.zero, i.size, i.bytes)) = some (some z, 1, by_)) (hz : z.cells.size = 1)
    (B : Nat) (v : Value) (l : List Value) (hs : a.eval s = v) (hown : OwnC w B e v l) (X : Value) (hX : X.oneCell' = true) (hx : a.eval x = .slice (some ⟨w.heap.size, 0, none⟩) 1 1)
    (hB : B ≤ w.heap.size) (hlen : l.length + 1 ≤ maxLen) (hby : (l.length + 1) * by_ ≤ 140737488355328)
    (h : Stop (∀ v' w', Hid (OwnC w' B e v' (l ++ [X])) → Hid (Below B w w') → Hid (Beside w w' v v') → wpList P ops Q rest (a.put o.dst v') w')) : wpList P ops Q (o :: rest) a (w.alloc (.cells #[X] e)) := by
  refine wpList_wanted hgd fun K hK => ?_
  obtain ⟨v', w', hr, h1, h2, h3⟩ := run_append_one P (w.alloc (.cells #[X] e)) t o.type e ht z by_ hi hz B v l (World.ownsRow.alloc hown _) X hX ⟨w.heap.size, 0, none⟩ 1 (by have h := cell_one_new w X e 0 X rfl; rwa [addr_add0] at h) (by simp; omega) hlen hby
  unfold Oper.wp execOp
  simp only [ho, resolve, invoke, builtin, Sem.run_bind, Sem.run_pure, Result.andThen_ok, List.map_toArray, List.map_cons, List.map_nil, hs, hx, hr]
  refine hK _ _ (h v' w' h1 ?_ fun g t' cs hg hne => ?_)
  · refine (((Below.refl B w).alloc (by omega) _)).grown h2 (by simp; omega) ?_
    intro k hk
    exact (hown.lt k hk).1
  · have hlt := hg.lt
    refine ⟨(h2.block g (hg.alloc _).lt fun e' => hne e'.symm).trans (hg.alloc _), ?_⟩
    rcases h3 with h3 | h3 <;> rw [h3]
    · exact hne
    · simp
      omega
end

end Go.Proofs.Ytpdeohmgjblkeaa

/-
  Laws on one cell of a known block, and on make of noughts of any one-cell type. Plain; no program is named here.
-/
namespace Go.Proofs.Ytpdeohmgjblkeaa
open Go.RowKit

section
variable {P : Program} {ops : Array Oper} {rest : List Oper} {o : Oper} {a : Act} {w : World} {Q : Exit → Act → World → Prop}

theorem run_storeVar_cell (P : Program) (w : World) (ty : TypeId) (hs : (P.info? ty).map (·.size) = some 1) (g i : Nat) (t : TypeId) (cs : Array Value) (hg : Blk w g t cs) (hi : i < cs.size) (v : Value) (hv : v.cells = #[v]) (h1 : v.oneCell' = true) :
    (storeVar ty ⟨g, i, none⟩ v).run P w = .ok () (w.setCell ⟨g, i, none⟩ v) := by
  obtain ⟨inf, hq, hsz⟩ := Option.map_eq_some_iff.1 hs
  have hc : w.cell? ⟨g, i, none⟩ = some cs[i] := by rw [hg.cell, Array.getElem?_eq_getElem hi]
  simp [storeVar, sizeOf, typeInfo, hq, hsz, hv, storeCells, run_store P w _ v _ h1, hc, hg.frozen i, show (⟨g, i, none⟩ : Addr).add 0 = ⟨g, i, none⟩ from rfl]

/-- A store into one cell of a block. -/
theorem wpList_store_cell (hgd : Region.wanted o (yielded ops a.tmps) = true) (ty : TypeId) (x y : Operand) (ho : o.op = .store ty x y) (hs : (P.info? ty).map (·.size) = some 1)
    (g i : Nat) (hx : a.eval x = .pointer (some ⟨g, i, none⟩)) (v : Value) (hy : a.eval y = v) (hv : v.cells = #[v]) (h1 : v.oneCell' = true) (t : TypeId) (cs : Array Value) (hg : Blk w g t cs) (hi : i < cs.size)
    (h : Stop (∀ w', Hid (Only w w' g) → Hid (Blk w' g t (cs.setIfInBounds i v)) → wpList P ops Q rest (a.put o.dst undef) w')) : wpList P ops Q (o :: rest) a w := by
  refine wpList_wanted hgd fun K hK => ?_
  unfold Oper.wp execOp
  simp only [ho, hx, hy, Instr.storeAt, Instr.sureAddr, Sem.run_bind, Sem.run_pure, Result.andThen_ok, run_storeVar_cell P w ty hs g i t cs hg hi v hv h1]
  exact hK _ _ (h _ ((Only.refl w g).setCell i v) (hg.set_ i v))

/-- A byte of an array by value. -/
theorem run_index_byte (P : Program) (w : World) (t e : TypeId) (n : Nat) (hu : P.underlying t = some (.array n e)) (he : P.underlying e = some (.int .u8)) (hs : (P.info? e).map (·.size) = some 1) (k : IntKind) (M : List UInt8) (q : Nat) (hq : q < n) (x : UInt8) (hx : M[q]? = some x) :
    (Instr.index t (.agg (bcells M)) (.int k q)).run P w = .ok (.int .u8 (x.toNat : Int)) w := by
  obtain ⟨inf, hi, hsz⟩ := Option.map_eq_some_iff.1 hs
  have hc : (bcells M)[q]? = some (.int .u8 (x.toNat : Int)) := by rw [bcells_get, hx]; rfl
  simp [Instr.index, asIntOf, run_underlying hu, hq, part, isAgg, run_underlying he, sizeOf, typeInfo, hi, hsz, hc]
theorem wpList_index_byte (hgd : Region.wanted o (yielded ops a.tmps) = true) (t : TypeId) (x y : Operand) (ho : o.op = .index t x y) (n e : Nat) (hu : P.underlying t = some (.array n e)) (he : P.underlying e = some (.int .u8)) (hs : (P.info? e).map (·.size) = some 1)
    (M : List UInt8) (hx : a.eval x = .agg (bcells M)) (k : IntKind) (I : Int) (hy : a.eval y = .int k I) (q : Nat) (hI : I = q) (hq : q < n) (b : UInt8) (hb : M[q]? = some b)
    (h : wpList P ops Q rest (a.put o.dst (.int .u8 (b.toNat : Int))) w) : wpList P ops Q (o :: rest) a w := by
  refine wpList_wanted hgd fun K hK => ?_
  subst hI
  unfold Oper.wp execOp
  simp only [ho, hx, hy, Sem.run_bind, Sem.run_pure, Result.andThen_ok, run_index_byte P w t e n hu he hs k M q hq b hb]
  exact hK _ _ h
/-- The result is a struct in a block. -/
theorem bodyPost_struct {R : Ending → World → Prop} {fn : Func} {p : Tmp} {t : TypeId} (hf : fn.results = #[ResultVar.cell p t]) (g : Nat) (hp : a.tmps.getD p undef = .pointer (some ⟨g, 0, none⟩)) (t' : TypeId) (cs : Array Value) (hg : Blk w g t' cs)
    (d : TypeDesc) (hu : P.underlying t = some d) (hd1 : (match d with | .struct _ | .array _ _ => true | _ => false) = true) (hi : (P.info? t).map (·.size) = some cs.size) (hd : a.defers = []) (hR : Stop (R (.returned (.agg cs)) w)) : bodyPost P fn R .ret a w :=
  bodyPost_ret (results_cell_row hf a.tmps w g t' cs (0, 0) d hp hg hu hd1 hi) hd hR

/-- make of n noughts. -/
theorem run_make_zero (P : Program) (w : World) (t e : TypeId) (ht : P.underlying t = some (.slice e)) (z : Value) (by_ : Nat) (hi : (P.info? e).map (fun i => (i.zero, i.size, i.bytes)) = some (some z, 1, by_)) (hz : z.cells = #[z]) (kl kc : IntKind) (n : Nat) (hn : by_ * n ≤ 281474976710656) (hn2 : n ≤ 9223372036854775807) :
    (Instr.makeSlice t (.int kl n) (.int kc n)).run P w = .ok (.slice (some ⟨w.heap.size, 0, none⟩) n n) (w.alloc (.cells (List.replicate n z).toArray e)) := by
  obtain ⟨i, h1, h2, h3, h4⟩ := info_parts hi
  have hr := run_make (P := P) w t e i z ht h1 h2 kl kc n n (by omega) (by omega) (by rw [h4]; omega) (by omega)
  have e1 : madeCells z.cells ((n : Int).toNat * i.size) = (List.replicate n z).toArray := by
    rw [h3, hz]
    apply Array.ext_getElem?
    intro j
    simp [madeCells, Array.getElem?_map]
    by_cases hj : j < n <;> simp [hj]
    all_goals simp [Nat.mod_one]
  rw [e1] at hr
  simpa using hr
theorem wpList_make_zero (hgd : Region.wanted o (yielded ops a.tmps) = true) (lo co : Operand) (t e : TypeId) (ho : o.op = .makeSlice t lo co) (ht : P.underlying t = some (.slice e)) (z : Value) (by_ : Nat) (hi : (P.info? e).map (fun i => (i.zero, i.size, i.bytes)) = some (some z, 1, by_)) (hz : z.cells = #[z])
    (kl kc : IntKind) (L C : Int) (n : Nat) (hl : a.eval lo = .int kl L) (hc : a.eval co = .int kc C) (hL : L = n) (hC : C = n) (hn : by_ * n ≤ 281474976710656) (hn2 : n ≤ 9223372036854775807) (cs : Array Value) (hcs : (List.replicate n z).toArray = cs)
    (h : Stop (∀ w', Hid (Grew w w') → Hid (Blk w' w.heap.size e cs) → wpList P ops Q rest (a.put o.dst (.slice (some ⟨w.heap.size, 0, none⟩) n n)) w')) : wpList P ops Q (o :: rest) a w := by
  refine wpList_wanted hgd fun K hK => ?_
  subst hL; subst hC; subst hcs
  have hr := run_make_zero P w t e ht z by_ hi hz kl kc n hn hn2
  unfold Oper.wp execOp
  simp only [ho, Sem.run_bind, Sem.run_pure, Result.andThen_ok, hl, hc, hr]
  exact hK _ _ (h _ (Grew.alloc w _) (Blk.new w e _))
end

/-! Lists of bools, lists of numbers. -/
def bvals (l : List Bool) : List Value := l.map Value.bool
def ivals (l : List Int) : List Value := l.map (Value.int .i64)
theorem bvals_len (l : List Bool) : (bvals l).length = l.length := by simp [bvals]
theorem ivals_len (l : List Int) : (ivals l).length = l.length := by simp [ivals]
theorem bvals_snoc (l : List Bool) (b : Bool) : bvals l ++ [.bool b] = bvals (l ++ [b]) := by simp [bvals]
theorem ivals_snoc (l : List Int) (i : Int) : ivals l ++ [.int .i64 i] = ivals (l ++ [i]) := by simp [ivals]
theorem RC.bool {w : World} {A : Option Addr} {l : List Bool} (h : RC w A (bvals l)) (k : Nat) (hk : k < l.length) : ∃ ad, A = some ad ∧ w.cell? (ad.add k) = some (.bool l[k]) := by
  obtain ⟨ad, e, hc⟩ := h k (by rw [bvals_len]; exact hk)
  exact ⟨ad, e, by rw [hc]; simp [bvals]⟩
theorem RC.int {w : World} {A : Option Addr} {l : List Int} (h : RC w A (ivals l)) (k : Nat) (hk : k < l.length) : ∃ ad, A = some ad ∧ w.cell? (ad.add k) = some (.int .i64 l[k]) := by
  obtain ⟨ad, e, hc⟩ := h k (by rw [ivals_len]; exact hk)
  exact ⟨ad, e, by rw [hc]; simp [ivals]⟩
theorem OwnC.bools {w : World} {B : Nat} {e : TypeId} {v : Value} {l : List Bool} (h : OwnC w B e v (bvals l)) : ∃ A c, v = .slice A l.length c ∧ l.length ≤ c ∧ c ≤ maxLen ∧ RC w A (bvals l) := by
  have := h.read
  rwa [bvals_len] at this
theorem OwnC.ints {w : World} {B : Nat} {e : TypeId} {v : Value} {l : List Int} (h : OwnC w B e v (ivals l)) : ∃ A c, v = .slice A l.length c ∧ l.length ≤ c ∧ c ≤ maxLen ∧ RC w A (ivals l) := by
  have := h.read
  rwa [ivals_len] at this
/-- The block in which a slice of the call's own lies. -/
theorem OwnC.blk {w : World} {B : Nat} {e : TypeId} {v : Value} {l : List Value} (h : OwnC w B e v l) (hl : 0 < l.length) :
    ∃ g cap cur, v = .slice (some ⟨g, 0, none⟩) l.length cap ∧ B ≤ g ∧ Blk w g e cur ∧ l.length ≤ cap ∧ cap ≤ maxLen ∧ cur.size = cap ∧ cur.toList.take l.length = l := by
  obtain ⟨_, h | ⟨g, cap, cur, hv, hb, hg, hn, hc, hs, ht⟩⟩ := h
  · omega
  · exact ⟨g, cap, cur, hv, hb, hg, hn, hc, by omega, by rw [Nat.mul_one] at ht; exact ht⟩
theorem RC.of_blk {w : World} {g : Nat} {t : TypeId} {cs : Array Value} (h : Blk w g t cs) (l : List Value) (hl : cs.toList.take l.length = l) : RC w (some ⟨g, 0, none⟩) l := fun k hk => by
  refine ⟨_, rfl, ?_⟩
  have e : (cs.toList.take l.length)[k]? = l[k]? := by rw [hl]
  rw [List.getElem?_take_of_lt hk, List.getElem?_eq_getElem hk] at e
  rw [addr_add0, h.cell]
  simpa using e
theorem OwnC.only {w w' : World} {B : Nat} {e : TypeId} {v : Value} {l : List Value} (h : OwnC w B e v l) {g : Nat} (ho : Only w w' g) (hg : g < B) : OwnC w' B e v l := by
  obtain ⟨hl, h | ⟨k, cap, cur, hv, hbk, hk, h⟩⟩ := h
  · exact ⟨hl, Or.inl h⟩
  · exact ⟨hl, Or.inr ⟨k, cap, cur, hv, hbk, Blk.only hk ho (by omega), h⟩⟩
theorem take_set_same {α : Type} (l : List α) (i n : Nat) (v : α) : (l.set i v).take n = (l.take n).set i v := by
  rw [List.take_set]

end Go.Proofs.Ytpdeohmgjblkeaa

/-
  A region that draws its order, gone through in one order: what hangs on S alone is taken first; a call comes up alone. Plain; no program is named here.
-/
namespace Go.Proofs.Ytpdeohmgjblkeaa
open Go.RowKit

/-- A frame behind a value that was put, and a row of Bools, written out. -/
theorem setL : (∀ (t : Array Value) (d : List Deferred) (k : Tmp) (v : Value), Act.put ⟨t, d⟩ (some k) v = ⟨t.setIfInBounds k v, d⟩) ∧ (∀ (t : Array Value) (d : List Deferred) (v : Value), Act.put ⟨t, d⟩ none v = ⟨t, d⟩) ∧ (∀ (l : List Value) (k : Nat) (v : Value), l.toArray.setIfInBounds k v = (l.set k v).toArray) ∧ (∀ (x : Value) (l : List Value) (v : Value), (x :: l).set 0 v = v :: l) ∧ (∀ (x : Value) (l : List Value) (k : Nat) (v : Value), (x :: l).set (k + 1) v = x :: l.set k v) ∧ (∀ (x : Bool) (l : List Bool) (v : Bool), (x :: l).set 0 v = v :: l) ∧ (∀ (x : Bool) (l : List Bool) (k : Nat) (v : Bool), (x :: l).set (k + 1) v = x :: l.set k v) :=
  ⟨fun _ _ _ _ => rfl, fun _ _ _ => rfl, fun _ _ _ => List.setIfInBounds_toArray .., fun _ _ _ => rfl, fun _ _ _ _ => rfl, fun _ _ _ => rfl, fun _ _ _ _ => rfl⟩
section
variable {P : Program} {l : List Oper} {Q : Exit → Act → World → Prop} {S : World → Prop} {listed : List Bool} {n : Nat} {a : Act} {w : World}

/-- What is left of the region: 'listed' tells which operations have come up. -/
def WH (P : Program) (l : List Oper) (Q : Exit → Act → World → Prop) (S : World → Prop) (listed : List Bool) (n : Nat) (a : Act) (w : World) : Prop :=
  wpAnyH P .any l.toArray Q S n listed.toArray a w

theorem WH.start {id : Nat} (listed : List Bool) (n : Nat) (hl : listed = List.replicate l.length false) (hn : l.length = n) (hm : P.follows .mixedOrders = true) (hS : S w.drew) (h : S w.drew → WH P l Q S listed n a w.drew) : (Code.region id l.toArray true).wp P Q a w :=
  wp_region_held_drew (S := S) hm hS fun hs => by
    have h' := h hs
    subst hl; subst hn
    have e : (List.replicate l.length false).toArray = Array.replicate l.toArray.size false := by simp
    unfold WH at h'
    rw [e] at h'
    simpa using h'

/-- The side conditions of a take, one Bool. -/
def takes (l : List Oper) (listed : List Bool) (i : Nat) : Bool := Region.noSelect l.toArray && Region.free .any l.toArray listed.toArray i && (Region.ready .any l.toArray listed.toArray).contains i

theorem WH.take (i : Nat) (o : Oper) (v : Value) (hi : l[i]? = some o) (ht : takes l listed i = true) (hQ : ∀ c a w, Q (.panic c) (a.put o.dst v) w → Q (.panic c) a w)
    (hw : Region.wanted o (yielded l.toArray a.tmps) = true) (hS : S w) (hy : ∀ w, S w → (execOp a.eval o).run P w = .ok (.value v) w)
    (h : WH P l Q S (listed.set i true) n (a.put o.dst v) w) : WH P l Q S listed (n + 1) a w := by
  simp only [takes, Bool.and_eq_true] at ht
  refine wpAnyH_take (i := i) (oi := o) (v := v) (by simpa using hi) ht.1.1 ht.1.2 ht.2 hQ (Or.inl ⟨hw, hy⟩) hS ?_
  unfold WH at h
  simpa using h
/-- .. with what is the same at every place laid in. -/
theorem WH.tk {v : Value} (i : Nat) {o : Oper} (h : WH P l Q S (listed.set i true) n (a.put o.dst v) w) (hi : l[i]? = some o := by exact rfl) (ht : takes l listed i = true := by kernel_rfl) (hQ : ∀ c a w, Q (.panic c) (a.put o.dst v) w → Q (.panic c) a w := by exact fun _ _ _ h => h)
    (hw : Region.wanted o (yielded l.toArray a.tmps) = true := by exact rfl) (hS : S w := by assumption) (hy : ∀ w, S w → (execOp a.eval o).run P w = .ok (.value v) w := by intro w hSw; (try dsimp only at hSw); first | (go_simp; done) | (go_simp; with_reducible rfl)) : WH P l Q S listed (n + 1) a w :=
  WH.take i o v hi ht hQ hw hS hy h
theorem WH.tv {v : Value} (i : Nat) {o : Oper} (hi : l[i]? = some o) (hy : ∀ w, S w → (execOp a.eval o).run P w = .ok (.value v) w) (h : WH P l Q S (listed.set i true) n (a.put o.dst v) w) (ht : takes l listed i = true := by kernel_rfl) (hQ : ∀ c a w, Q (.panic c) (a.put o.dst v) w → Q (.panic c) a w := by exact fun _ _ _ h => h)
    (hw : Region.wanted o (yielded l.toArray a.tmps) = true := by exact rfl) (hS : S w := by assumption) : WH P l Q S listed (n + 1) a w :=
  WH.take i o v hi ht hQ hw hS hy h
theorem WH.skip (i : Nat) (o : Oper) (hi : l[i]? = some o) (ht : takes l listed i = true) (hQ : ∀ c a w, Q (.panic c) (a.put o.dst undef) w → Q (.panic c) a w)
    (hw : Region.wanted o (yielded l.toArray a.tmps) = false) (hS : S w)
    (h : WH P l Q S (listed.set i true) n (a.put o.dst undef) w) : WH P l Q S listed (n + 1) a w := by
  simp only [takes, Bool.and_eq_true] at ht
  refine wpAnyH_take (i := i) (oi := o) (v := undef) (by simpa using hi) ht.1.1 ht.1.2 ht.2 hQ (Or.inr ⟨hw, rfl⟩) hS ?_
  unfold WH at h
  simpa using h

/-- The only one that may come up. -/
theorem WH.only (i : Nat) (o : Oper) (hi : l[i]? = some o) (hr : Region.ready .any l.toArray listed.toArray = [i]) (hw : Region.wanted o (yielded l.toArray a.tmps) = true)
    (h : ∀ K : Act → World → Prop, (∀ a' w', S w' → WH P l Q S (listed.set i true) n a' w' → K a' w') → o.wp P a w K Q) : WH P l Q S listed (n + 1) a w := by
  refine wpAnyH_all (rs := [i]) hr (by simp) fun j hj => ?_
  obtain rfl : j = i := by simpa using hj
  have hi' : l.toArray[j]? = some o := by simpa using hi
  unfold Go.wpOp
  simp only [hi', hw, if_true]
  refine Or.inl (h _ fun a' w' h1 h2 => ⟨h1, ?_⟩)
  unfold WH at h2
  simpa using h2
/-- The only one that may come up, behind a guard that keeps it back. -/
theorem WH.onlySkip (i : Nat) (o : Oper) (hi : l[i]? = some o) (hr : Region.ready .any l.toArray listed.toArray = [i]) (hw : Region.wanted o (yielded l.toArray a.tmps) = false) (hS : S w)
    (h : WH P l Q S (listed.set i true) n (a.put o.dst undef) w) : WH P l Q S listed (n + 1) a w := by
  refine wpAnyH_all (rs := [i]) hr (by simp) fun j hj => ?_
  obtain rfl : j = i := by simpa using hj
  have hi' : l.toArray[j]? = some o := by simpa using hi
  unfold Go.wpOp
  simp only [hi', hw]
  refine ⟨hS, ?_⟩
  unfold WH at h
  simpa using h
/-- The run of a load of a whole array. -/
theorem run_load_arr {o : Oper} (t : TypeId) (x : Operand) (ho : o.op = .load t x) (g : Nat) (hx : a.eval x = .pointer (some ⟨g, 0, none⟩)) (t' : TypeId) (cs : Array Value) (hg : Blk w g t' cs)
    (k : Nat) (e : TypeId) (hu : P.underlying t = some (.array k e)) (hi : (P.info? t).map (·.size) = some cs.size) : (execOp a.eval o).run P w = .ok (.value (.agg cs)) w := by
  unfold execOp
  simp only [ho, hx, Instr.loadAt, Instr.sureAddr, Sem.run_bind, Sem.run_pure, Result.andThen_ok, run_loadVar_row w g t' t cs (0, 0) _ hg hu rfl hi]

theorem WH.done (hr : Region.ready .any l.toArray listed.toArray = []) (h : Q .normal a w) : WH P l Q S listed n a w := wpAnyH_done hr h n
end

end Go.Proofs.Ytpdeohmgjblkeaa

/-
  Rows of blocks of 256 bytes in memory: one that is loaded, stored, made, appended. Plain; no program is named here.
-/
namespace Go.Proofs.Ytpdeohmgjblkeaa
open Go.RowKit

/-- Blocks: each has 256 bytes. -/
def Bks (L : List (List UInt8)) : Prop := ∀ x ∈ L, x.length = 256
theorem Bks.cons {x : List UInt8} {L : List (List UInt8)} (h : Bks (x :: L)) : x.length = 256 ∧ Bks L := ⟨h x (by simp), fun y hy => h y (List.mem_cons_of_mem _ hy)⟩
theorem Bks.get {L : List (List UInt8)} (h : Bks L) {k : Nat} (hk : k < L.length) : L[k].length = 256 := h _ (List.getElem_mem hk)
theorem Bks.set {L : List (List UInt8)} (h : Bks L) (k : Nat) {d : List UInt8} (hd : d.length = 256) : Bks (L.set k d) := fun x hx => by
  rcases List.mem_or_eq_of_mem_set hx with hx | rfl
  · exact h x hx
  · exact hd
theorem Bks.snoc {L : List (List UInt8)} (h : Bks L) {d : List UInt8} (hd : d.length = 256) : Bks (L ++ [d]) := fun x hx => by
  rw [List.mem_append, List.mem_singleton] at hx
  rcases hx with hx | rfl
  · exact h x hx
  · exact hd
theorem Bks.nil_ : Bks [] := fun x hx => by simp at hx
theorem Bks.same (n : Nat) {d : List UInt8} (hd : d.length = 256) : Bks (List.replicate n d) := fun x hx => by rw [(List.mem_replicate.1 hx).2]; exact hd
theorem flat_len {L : List (List UInt8)} (h : Bks L) : L.flatten.length = L.length * 256 := by
  induction L with
  | nil => rfl
  | cons x L ih =>
    obtain ⟨h1, h2⟩ := h.cons
    rw [List.flatten_cons, List.length_append, ih h2, h1, List.length_cons]
    omega
theorem flat_cut {L : List (List UInt8)} (h : Bks L) {k : Nat} (hk : k < L.length) : (L.flatten.drop (k * 256)).take 256 = L[k] := by
  induction L generalizing k with
  | nil => simp at hk
  | cons x L ih =>
    obtain ⟨h1, h2⟩ := h.cons
    rw [List.flatten_cons]
    cases k with
    | zero =>
      rw [Nat.zero_mul, List.drop_zero, List.take_append_of_le_length (by omega), List.take_of_length_le (by omega)]
      rfl
    | succ k =>
      have hk' : k < L.length := by simpa using hk
      rw [show (k + 1) * 256 = x.length + k * 256 by omega, List.drop_append]
      rw [show x.length + k * 256 - x.length = k * 256 by omega, List.drop_of_length_le (by omega), List.nil_append, ih h2 hk']
      rfl
theorem flat_get {L : List (List UInt8)} (h : Bks L) {k i : Nat} (hk : k < L.length) (hi : i < 256) : L.flatten[k * 256 + i]? = L[k][i]? := by
  rw [← flat_cut h hk, List.getElem?_take_of_lt hi, List.getElem?_drop]
theorem flat_set {L : List (List UInt8)} (h : Bks L) {k : Nat} (hk : k < L.length) {d : List UInt8} (hd : d.length = 256) : splice L.flatten (k * 256) d = (L.set k d).flatten := by
  induction L generalizing k with
  | nil => simp at hk
  | cons x L ih =>
    obtain ⟨h1, h2⟩ := h.cons
    cases k with
    | zero =>
      unfold splice
      rw [Nat.zero_mul, List.take_zero, Nat.zero_add, hd, List.flatten_cons, List.set_cons_zero, List.flatten_cons, List.nil_append, List.drop_append, List.drop_of_length_le (by omega), h1]
      rfl
    | succ k =>
      have hk' : k < L.length := by simpa using hk
      rw [List.set_cons_succ, List.flatten_cons, List.flatten_cons, ← ih h2 hk']
      unfold splice
      rw [show (k + 1) * 256 = x.length + k * 256 by omega, List.take_append, List.drop_append]
      rw [show x.length + k * 256 - x.length = k * 256 by omega, show x.length + k * 256 + d.length - x.length = k * 256 + d.length by omega, List.take_of_length_le (show x.length ≤ x.length + k * 256 by omega), List.drop_of_length_le (show x.length ≤ x.length + k * 256 + d.length by omega)]
      simp [List.append_assoc]
theorem flat_snoc (L : List (List UInt8)) (d : List UInt8) : (L ++ [d]).flatten = L.flatten ++ d := by simp

/-- A slice of blocks with this address reads as these. -/
def RK (w : World) (A : Option Addr) (L : List (List UInt8)) : Prop := ∀ k (h : k < L.length) i (hi : i < 256), ∃ ad x, A = some ad ∧ L[k][i]? = some x ∧ w.cell? (ad.add (k * 256 + i)) = some (.int .u8 (x.toNat : Int))
theorem RK.below {w w' : World} {A : Option Addr} {L : List (List UInt8)} (h : RK w A L) (hb : Below w.heap.size w w') : RK w' A L := fun k hk i hi => by
  obtain ⟨ad, x, e, hx, hc⟩ := h k hk i hi
  exact ⟨ad, x, e, hx, by rw [hb.cell (block_lt_of_cell hc), hc]⟩
theorem RK.of_blk {w : World} {g : Nat} {t : TypeId} {L : List (List UInt8)} (hL : Bks L) (h : Blk w g t (bcells L.flatten)) : RK w (some ⟨g, 0, none⟩) L := fun k hk i hi => by
  have hil : i < L[k].length := by rw [hL.get hk]; exact hi
  refine ⟨_, L[k][i], rfl, List.getElem?_eq_getElem hil, ?_⟩
  rw [addr_add0, h.cell, bcells_get, flat_get hL hk hi, List.getElem?_eq_getElem hil]
  rfl
/-- .. as bytes, one behind the other. -/
theorem RK.bytes {w : World} {A : Option Addr} {L : List (List UInt8)} (hL : Bks L) (h : RK w A L) : RB w A L.flatten := fun j hj => by
  rw [flat_len hL] at hj
  have hk : j / 256 < L.length := by omega
  obtain ⟨ad, x, e, hx, hc⟩ := h (j / 256) hk (j % 256) (by omega)
  refine ⟨ad, e, ?_⟩
  have hjj : j / 256 * 256 + j % 256 = j := by omega
  rw [hjj] at hc
  rw [hc]
  have h2 := flat_get hL hk (show j % 256 < 256 by omega)
  rw [hjj, hx, List.getElem?_eq_getElem (by rw [flat_len hL]; exact hj)] at h2
  injection h2 with h2
  rw [h2]

section
variable {P : Program} {ops : Array Oper} {rest : List Oper} {o : Oper} {a : Act} {w : World} {K : Act → World → Prop} {Q : Exit → Act → World → Prop}

theorem run_loadVar_bk (P : Program) (w : World) (ty : TypeId) (d : TypeDesc) (hu : P.underlying ty = some d) (hd : (match d with | .struct _ | .array _ _ => true | _ => false) = true) (hs : (P.info? ty).map (·.size) = some 256) (ad : Addr) (k : Nat) (L : List (List UInt8)) (hL : Bks L) (hk : k < L.length) (hr : RK w (some ad) L) :
    (loadVar ty (ad.add (k * 256))).run P w = .ok (.agg (bcells L[k])) w := by
  have hlen : (L[k].map fun x : UInt8 => Value.int .u8 (x.toNat : Int)).length = 256 := by rw [List.length_map, hL.get hk]
  have hl := run_loadCells_list (P := P) w (ad.add (k * 256)) (L[k].map fun x => Value.int .u8 (x.toNat : Int)) (fun j v hj => by
    rw [List.getElem?_map] at hj
    obtain ⟨x, hx, rfl⟩ := Option.map_eq_some_iff.1 hj
    have hj' : j < 256 := by rw [← hL.get hk]; exact (List.getElem?_eq_some_iff.1 hx).1
    obtain ⟨ad', x', e, hx', hc⟩ := hr k hk j hj'
    injection e with e
    subst e
    rw [hx] at hx'
    injection hx' with hx'
    rw [add_of_add, hc, hx'])
  rw [hlen] at hl
  obtain ⟨i, hq, hsz⟩ := Option.map_eq_some_iff.1 hs
  have hagg : (isAgg ty).run P w = .ok true w := by
    unfold isAgg
    rw [Sem.run_bind, run_underlying hu w]
    cases d <;> simp_all
  simp [loadVar, Sem.run_bind, hagg, sizeOf, typeInfo, hq, hsz, hl, bcells]
/-- A block of a row is loaded. -/
theorem exec_load_bk {o : Oper} (t : TypeId) (x : Operand) (ho : o.op = .load t x) (ad : Addr) (k : Nat) (hx : a.eval x = .pointer (some (ad.add (k * 256)))) (L : List (List UInt8)) (hL : Bks L) (hk : k < L.length) (hr : RK w (some ad) L)
    (d : TypeDesc) (hu : P.underlying t = some d) (hd : (match d with | .struct _ | .array _ _ => true | _ => false) = true) (hs : (P.info? t).map (·.size) = some 256) : (execOp a.eval o).run P w = .ok (.value (.agg (bcells L[k]))) w := by
  unfold execOp
  simp only [ho, hx, Instr.loadAt, Instr.sureAddr, Sem.run_bind, Sem.run_pure, Result.andThen_ok, run_loadVar_bk P w t d hu hd hs ad k L hL hk hr]
theorem wpList_load_bk (hgd : Region.wanted o (yielded ops a.tmps) = true) (t : TypeId) (x : Operand) (ho : o.op = .load t x) (ad : Addr) (k : Nat) (hx : a.eval x = .pointer (some (ad.add (k * 256)))) (L : List (List UInt8)) (hL : Bks L) (hk : k < L.length) (hr : RK w (some ad) L)
    (d : TypeDesc) (hu : P.underlying t = some d) (hd : (match d with | .struct _ | .array _ _ => true | _ => false) = true) (hs : (P.info? t).map (·.size) = some 256) (h : wpList P ops Q rest (a.put o.dst (.agg (bcells L[k]))) w) : wpList P ops Q (o :: rest) a w := by
  refine wpList_wanted hgd fun K hK => ?_
  unfold Oper.wp
  rw [exec_load_bk t x ho ad k hx L hL hk hr d hu hd hs]
  exact hK _ _ h

theorem run_storeVar_bk (P : Program) (w : World) (ty : TypeId) (hs : (P.info? ty).map (·.size) = some 256) (g k : Nat) (t : TypeId) (L : List (List UInt8)) (hL : Bks L) (hk : k < L.length) (hg : Blk w g t (bcells L.flatten)) (d : List UInt8) (hd : d.length = 256) :
    (storeVar ty ⟨g, k * 256, none⟩ (.agg (bcells d))).run P w = .ok () (w.setRow g (bcells (L.set k d).flatten)) := by
  have hfl := flat_len hL
  have hst := run_storeCells_at P g (k * 256) t (d.map fun x : UInt8 => Value.int .u8 (x.toNat : Int)) 0 (bcells L.flatten) w hg (by rw [bcells_size, List.length_map, hd, hfl]; omega) (by
    intro v hv
    obtain ⟨x, _, rfl⟩ := List.mem_map.1 hv
    rfl)
  have e : (List.take (k * 256 + 0) (bcells L.flatten).toList ++ (d.map fun x : UInt8 => Value.int .u8 (x.toNat : Int)) ++ List.drop (k * 256 + 0 + (d.map fun x : UInt8 => Value.int .u8 (x.toNat : Int)).length) (bcells L.flatten).toList).toArray = bcells (L.set k d).flatten := by
    rw [← flat_set hL hk hd]
    simp only [bcells, splice, Nat.add_zero, List.length_map, List.map_append, List.map_take, List.map_drop]
  rw [e] at hst
  obtain ⟨i, hq, hsz⟩ := Option.map_eq_some_iff.1 hs
  have hcs : (Value.agg (bcells d)).cells = bcells d := rfl
  have hz : (bcells d).size = 256 := by rw [bcells_size, hd]
  have htl : (bcells d).toList = d.map fun x : UInt8 => Value.int .u8 (x.toNat : Int) := rfl
  simp [storeVar, sizeOf, typeInfo, hq, hsz, hcs, hz, htl, hst]
/-- A block of a row is stored. -/
theorem ow_store_bk (ty : TypeId) (x y : Operand) (ho : o.op = .store ty x y) (hs : (P.info? ty).map (·.size) = some 256)
    (g k : Nat) (hx : a.eval x = .pointer (some ⟨g, k * 256, none⟩)) (d : List UInt8) (hy : a.eval y = .agg (bcells d)) (hd : d.length = 256) (t : TypeId) (L : List (List UInt8)) (hL : Bks L) (hk : k < L.length) (hg : Blk w g t (bcells L.flatten))
    (h : Stop (∀ w', Hid (Only w w' g) → Hid (Blk w' g t (bcells (L.set k d).flatten)) → K (a.put o.dst undef) w')) : o.wp P a w K Q := by
  unfold Oper.wp execOp
  simp only [ho, hx, hy, Instr.storeAt, Instr.sureAddr, Sem.run_bind, Sem.run_pure, Result.andThen_ok, run_storeVar_bk P w ty hs g k t L hL hk hg d hd]
  exact h _ (Only.setRow hg _) (hg.setRow _)
theorem wpList_store_bk (hgd : Region.wanted o (yielded ops a.tmps) = true) (ty : TypeId) (x y : Operand) (ho : o.op = .store ty x y) (hs : (P.info? ty).map (·.size) = some 256)
    (g k : Nat) (hx : a.eval x = .pointer (some ⟨g, k * 256, none⟩)) (d : List UInt8) (hy : a.eval y = .agg (bcells d)) (hd : d.length = 256) (t : TypeId) (L : List (List UInt8)) (hL : Bks L) (hk : k < L.length) (hg : Blk w g t (bcells L.flatten))
    (h : Stop (∀ w', Hid (Only w w' g) → Hid (Blk w' g t (bcells (L.set k d).flatten)) → wpList P ops Q rest (a.put o.dst undef) w')) : wpList P ops Q (o :: rest) a w :=
  wpList_wanted hgd fun _ hK => ow_store_bk ty x y ho hs g k hx d hy hd t L hL hk hg (fun w' h1 h2 => hK _ _ (h w' h1 h2))

/-- make of n blocks of noughts. -/
theorem run_make_bk (P : Program) (w : World) (t e : TypeId) (ht : P.underlying t = some (.slice e)) (hi : (P.info? e).map (fun i => (i.zero, i.size, i.bytes)) = some (some (.agg (bcells (zeros 256))), 256, 256)) (kl kc : IntKind) (n : Nat) (hn : n ≤ 1099511627776) :
    (Instr.makeSlice t (.int kl n) (.int kc n)).run P w = .ok (.slice (some ⟨w.heap.size, 0, none⟩) n n) (w.alloc (.cells (bcells (List.replicate n (zeros 256)).flatten) e)) := by
  obtain ⟨i, h1, h2, h3, h4⟩ := info_parts hi
  have hr := run_make (P := P) w t e i _ ht h1 h2 kl kc n n (by omega) (by omega) (by rw [h4]; omega) (by omega)
  have hb : Bks (List.replicate n (zeros 256)) := Bks.same n (zeros_len 256)
  have hfl := flat_len hb
  rw [List.length_replicate] at hfl
  have e1 : madeCells (Value.agg (bcells (zeros 256))).cells ((n : Int).toNat * i.size) = bcells (List.replicate n (zeros 256)).flatten := by
    rw [h3, Int.toNat_natCast]
    apply Array.ext_getElem?
    intro j
    have hcs : (Value.agg (bcells (zeros 256))).cells = bcells (zeros 256) := rfl
    have hz : (bcells (zeros 256)).size = 256 := by rw [bcells_size, zeros_len]
    rw [bcells_get]
    by_cases hj : j < n * 256
    · have hk : j / 256 < (List.replicate n (zeros 256)).length := by rw [List.length_replicate]; omega
      have h5 := flat_get hb hk (show j % 256 < 256 by omega)
      rw [show j / 256 * 256 + j % 256 = j by omega] at h5
      rw [h5]
      have h6 : (bcells (zeros 256))[j % 256]! = Value.int .u8 0 := by
        have h7 : (bcells (zeros 256))[j % 256]? = some (.int .u8 0) := by rw [bcells_get, zeros, List.getElem?_replicate, if_pos (by omega)]; rfl
        rw [getElem!_def, h7]
      have h8 : (List.replicate n (zeros 256))[j / 256]'hk = zeros 256 := List.getElem_replicate hk
      have h9 : (zeros 256)[j % 256]? = some 0 := by rw [zeros, List.getElem?_replicate, if_pos (by omega)]
      rw [h8, h9, hcs]
      generalize bcells (zeros 256) = cs at h6 hz ⊢
      unfold madeCells
      rw [Array.getElem?_map, Array.getElem?_range, if_pos hj, hz]
      exact congrArg some h6
    · rw [List.getElem?_eq_none (by rw [hfl]; omega)]
      simp [madeCells, hj]
  rw [e1] at hr
  simpa using hr
theorem wpList_make_bk (hgd : Region.wanted o (yielded ops a.tmps) = true) (lo co : Operand) (t e : TypeId) (ho : o.op = .makeSlice t lo co) (ht : P.underlying t = some (.slice e)) (hi : (P.info? e).map (fun i => (i.zero, i.size, i.bytes)) = some (some (.agg (bcells (zeros 256))), 256, 256))
    (kl kc : IntKind) (X C : Int) (n : Nat) (hl : a.eval lo = .int kl X) (hc : a.eval co = .int kc C) (hX : X = n) (hC : C = n) (hn : n ≤ 1099511627776)
    (h : Stop (∀ w', Hid (Grew w w') → Hid (Blk w' w.heap.size e (bcells (List.replicate n (zeros 256)).flatten)) → wpList P ops Q rest (a.put o.dst (.slice (some ⟨w.heap.size, 0, none⟩) n n)) w')) : wpList P ops Q (o :: rest) a w := by
  refine wpList_wanted hgd fun K hK => ?_
  subst hX; subst hC
  have hr := run_make_bk P w t e ht hi kl kc n hn
  unfold Oper.wp execOp
  simp only [ho, Sem.run_bind, Sem.run_pure, Result.andThen_ok, hl, hc, hr]
  exact hK _ _ (h _ (Grew.alloc w _) (Blk.new w e _))
end

/-- A slice of blocks of the call's own. -/
def OwnK (w : World) (B : Nat) (e : TypeId) (v : Value) (L : List (List UInt8)) : Prop := Bks L ∧ w.ownsRow B e 256 v L.length (L.flatten.map fun x => Value.int .u8 (x.toNat : Int))
theorem OwnK.nil_ (w : World) (B : Nat) (e : TypeId) : OwnK w B e (.slice none 0 0) [] := ⟨Bks.nil_, World.ownsRow_nil w B e 256⟩
theorem OwnK.lt {w : World} {B : Nat} {e : TypeId} {v : Value} {L : List (List UInt8)} (h : OwnK w B e v L) : ∀ k, v.ownBlock = some k → B ≤ k ∧ k < w.heap.size := World.ownsRow.lt h.2
theorem OwnK.ext {w w' : World} {B : Nat} {e : TypeId} {v : Value} {L : List (List UInt8)} (h : OwnK w B e v L) (hb : Below w.heap.size w w') : OwnK w' B e v L := by
  obtain ⟨hL, hl, h | ⟨g, cap, cur, hv, hbg, hg, h⟩⟩ := h
  · exact ⟨hL, hl, Or.inl h⟩
  · exact ⟨hL, hl, Or.inr ⟨g, cap, cur, hv, hbg, Blk.ext hg hb, h⟩⟩
theorem OwnK.read {w : World} {B : Nat} {e : TypeId} {v : Value} {L : List (List UInt8)} (h : OwnK w B e v L) : ∃ A c, v = .slice A L.length c ∧ L.length ≤ c ∧ c ≤ maxLen ∧ RK w A L := by
  obtain ⟨hL, hl, h | ⟨g, cap, cur, hv, hb, hg, hn, hc, hs, ht⟩⟩ := h
  · refine ⟨none, 0, by rw [h.1, h.2], by omega, by unfold maxLen; omega, fun k hk => ?_⟩
    have := h.2
    omega
  · refine ⟨_, cap, hv, hn, hc, fun k hk i hi => ?_⟩
    have hil : i < L[k].length := by rw [hL.get hk]; exact hi
    refine ⟨_, L[k][i], rfl, List.getElem?_eq_getElem hil, ?_⟩
    have h2 : (cur.toList.take (L.length * 256))[k * 256 + i]? = (L.flatten.map fun x => Value.int .u8 (x.toNat : Int))[k * 256 + i]? := by rw [ht]
    rw [List.getElem?_take_of_lt (by omega), List.getElem?_map, flat_get hL hk hi, List.getElem?_eq_getElem hil] at h2
    rw [addr_add0, cell_of_row w g _ cur e (0, 0) hg]
    simpa using h2

section
variable {P : Program} {ops : Array Oper} {rest : List Oper} {o : Oper} {a : Act} {w : World} {K : Act → World → Prop} {Q : Exit → Act → World → Prop}
/-- append of blocks to a slice of the call's own. -/
theorem run_append_bk (P : Program) (w : World) (t ty e : TypeId) (ht : P.underlying t = some (.slice e)) (z : Value) (hi : (P.info? e).map (fun i => (i.zero, i.size, i.bytes)) = some (some z, 256, 256)) (hz : z.cells.size = 256)
    (B : Nat) (v : Value) (L : List (List UInt8)) (hown : OwnK w B e v L) (ad : Addr) (n c : Nat) (M : List (List UInt8)) (hM : Bks M) (hn : M.length = n) (hr : RK w (some ad) M) (hB : B ≤ w.heap.size) (hlen : L.length + n ≤ 549755813888) :
    ∃ v' w', (Builtin.append_ #[t, t] ty #[v, .slice (some ad) n c]).run P w = .ok v' w' ∧ OwnK w' B e v' (L ++ M) ∧ Below B w w' := by
  obtain ⟨i, h1, h2, h3, h4⟩ := info_parts hi
  have hrb := RK.bytes hM hr
  have hfl := flat_len hM
  obtain ⟨v', w', hrun, ho, hg, _⟩ := run_append_own (P := P) w B t ty e i z 256 256 ht h1 h2 h3 h4 hz (by omega) v L.length _ hown.2 ad n c (M.flatten.map fun x => Value.int .u8 (x.toNat : Int)) (by rw [List.length_map, hfl, hn]) (fun j u hj => by
    rw [List.getElem?_map] at hj
    obtain ⟨x, hx, rfl⟩ := Option.map_eq_some_iff.1 hj
    obtain ⟨hjl, rfl⟩ := List.getElem?_eq_some_iff.1 hx
    obtain ⟨ad', e1, hc⟩ := hrb j hjl
    injection e1 with e1
    subst e1
    exact hc) (fun u hu => by
    obtain ⟨x, _, rfl⟩ := List.mem_map.1 hu
    rfl) (by unfold maxLen; omega) (by omega) hB
  refine ⟨v', w', hrun, ⟨fun x hx => ?_, ?_⟩, (Below.refl B w).grown hg hB (fun k hk => (hown.lt k hk).1)⟩
  · rw [List.mem_append] at hx
    rcases hx with hx | hx
    · exact hown.1 x hx
    · exact hM x hx
  · rw [List.length_append, hn, List.flatten_append, List.map_append]
    exact ho
theorem wpList_append_bk (hgd : Region.wanted o (yielded ops a.tmps) = true) (s x : Operand) (t e : TypeId) (ho : o.op = .call { callee := .builtin .append, args := #[s, x], argTypes := #[t, t] })
    (ht : P.underlying t = some (.slice e)) (z : Value) (hi : (P.info? e).map (fun i => (i.zero, i.size, i.bytes)) = some (some z, 256, 256)) (hz : z.cells.size = 256)
    (B : Nat) (v : Value) (L : List (List UInt8)) (hown : OwnK w B e v L) (ad : Addr) (n c : Nat) (M : List (List UInt8)) (hM : Bks M) (hn : M.length = n) (hr : RK w (some ad) M) (hs : a.eval s = v) (hx : a.eval x = .slice (some ad) n c) (hB : B ≤ w.heap.size) (hlen : L.length + n ≤ 549755813888)
    (h : Stop (∀ v' w', Hid (OwnK w' B e v' (L ++ M)) → Hid (Below B w w') → wpList P ops Q rest (a.put o.dst v') w')) : wpList P ops Q (o :: rest) a w := by
  refine wpList_wanted hgd fun K hK => ?_
  obtain ⟨v', w', hrun, h1, h2⟩ := run_append_bk P w t o.type e ht z hi hz B v L hown ad n c M hM hn hr hB hlen
  unfold Oper.wp execOp
  simp only [ho, resolve, invoke, builtin, Sem.run_bind, Sem.run_pure, Result.andThen_ok, List.map_toArray, List.map_cons, List.map_nil, hs, hx, hrun]
  exact hK _ _ (h v' w' h1 h2)
end

end Go.Proofs.Ytpdeohmgjblkeaa

/-
  The step from a walk to a row, for laws: whatever the arguments are that can be read, the call answers true and leaves what was there.
-/
namespace Go.Proofs.Ytpdeohmgjblkeaa
open Go.ChangeShapes Go.WideShapes Go.ChangeAt Go.RowKit

theorem Try.own : ownKnob Try.prog.godebug = none := by kernel_rfl
theorem Try.laidOut : laidOutB Try.prog = true := by kernel_rfl

section
variable {H : Type} {enc : TypeId × Value → H} {P : Program}

theorem trodAll_below (hl : laidOutB P = true) {W W' : World} (hb : Below W.heap.size W W') {sp : Nat → Bool} : ∀ {ts : List TypeId} {vs : List Value} {ds : List (DataW H)} {ps : List MemPlace},
    (∀ t ∈ ts, P.readableRec t = true ∧ t < P.types.size) → DataW.TrodAll enc P W 0 (fun _ => true) true ts vs ds ps → (∀ p ∈ ps, p.block < W.heap.size) → (∀ p ∈ ps, sp p.block = true) → DataW.TrodAll enc P W' 0 sp true ts vs ds ps := by
  intro ts
  induction ts with
  | nil =>
    intro vs ds ps _ h _ _
    obtain ⟨rfl, rfl, rfl⟩ := trodAll_nil h
    exact trodAll_mk0
  | cons t ts ih =>
    intro vs ds ps hts h hlt hsp
    obtain ⟨v, vs', d, ds', p, q, rfl, rfl, rfl, hd, hrest⟩ := trodAll_cons h
    refine trodAll_cons_mk (WideElems.Trod_stays hl (hts t (by simp)).1 (hts t (by simp)).2 hd (fun x hx => hb.same (hlt x (by simp [hx]))) (fun x hx => hsp x (by simp [hx]))) ?_
    exact ih (fun u hu => hts u (by simp [hu])) hrest (fun x hx => hlt x (by simp [hx])) (fun x hx => hsp x (by simp [hx]))

theorem law_post {f : Func} {s : ChangeSpec} {apart fresh handsOn again : Bool} {W W' : World} {args : Array Value} {ds gs : List (DataW H)} {before : List MemPlace} {tb : TypeId}
    (hl : laidOutB P = true) (hts : ∀ t ∈ f.params.toList, P.readableRec t = true ∧ t < P.types.size) (hvars : s.vars = []) (hr : f.resultTypes = #[tb]) (hbt : P.underlying tb = some .bool)
    (hfn : s.fn H (ds ++ gs) = { results := [.lit (.bool true)], args := ds })
    (hW : DataW.Whole enc P f.params.toList s.vars apart W args.toList ds gs before) (hb : Below W.heap.size W W') : s.post enc P f apart fresh handsOn again W args (.bool true) W' := by
  have hW' := hW
  obtain ⟨pa, pv, hA, hV, rfl, hz, hn⟩ := hW
  have hV' := hV
  rw [hvars] at hV'
  obtain ⟨rfl, rfl⟩ := trodVars_none hV'
  have hlt : ∀ p ∈ pa ++ [], p.block < W.heap.size := fun p hp => hW'.lt p hp
  have hold : ∀ p ∈ pa ++ [], (fun b => decide (b < W.heap.size)) p.block = true := fun p hp => by simpa using hlt p hp
  have hargs : ∀ sp : Nat → Bool, (∀ p ∈ pa ++ [], sp p.block = true) → DataW.TrodAll enc P W' 0 sp true f.params.toList args.toList (s.fn H (ds ++ [])).args pa := fun sp hsp => by
    rw [hfn]
    exact trodAll_below hl hb hts hA (fun p hp => hlt p (by simpa using hp)) (fun p hp => hsp p (by simpa using hp))
  have hres : ∀ (b : Nat) (sp : Nat → Bool) (hd : Bool), DataW.TrodAll enc P W' b sp hd f.resultTypes.toList ((Value.bool true).resultList f.resultTypes.size) (s.fn H (ds ++ [])).results [] := fun b sp hd => by
    rw [hfn, hr]
    exact trodAll_mk1 (shut_bool hbt true)
  have hvs : ∀ sp : Nat → Bool, (∀ p ∈ pa ++ [], sp p.block = true) → DataW.TrodVars enc P W' sp s.vars (s.fn H (ds ++ [])).vars [] := fun sp _ => by
    rw [hfn, hvars]
    rfl
  refine ⟨ds, [], pa ++ [], [], pa, [], hW', hres _ _ _, hargs _ hold, hvs _ hold, World.keptBut_mono (fun p hp => ⟨hp, ?_⟩) (hb.frame (· ∈ pa ++ [])), fun _ => ?_⟩
  · exact Or.inr (by simpa using hp)
  · refine ⟨ok_one hr rfl (okWide_bool_mk hbt true), _, _, ([] ++ pa) ++ [], ⟨[] ++ pa, [], trodAll_append (hargs _ (fun _ _ => rfl)) (hres _ _ _), hvs _ (fun _ _ => rfl), rfl, ?_, ?_⟩, ?_⟩
    · intro b off hp
      have hin : MemPlace.cell b off ∈ pa ++ [] := by simpa using hp
      rw [hb.frozen (hlt _ hin)]
      exact hz b off hin
    · intro ha
      simpa using hn ha
    · intro p hp _
      simpa using hp

/-- A slice of bytes that came in, and what its datum is. -/
theorem open_bytes_at {w : World} {base fuel : Nat} {t e : TypeId} {cs : List Value} {x : DataW H × List MemPlace} {spare : Nat → Bool} {held : Bool} (ht : P.underlying t = some (.slice e)) (he : P.underlying e = some (.int .u8)) (hc : P.cellsOf e = 1)
    (hf : DataW.trod enc P w base spare held fuel t cs = some x) :
    ∃ (A : Option Addr) (n c : Nat) (l : List UInt8), cs = [.slice A n c] ∧ l.length = n ∧ n ≤ c ∧ c ≤ maxLen ∧ RB w A l ∧ ((x.1 = .nil ∧ n = 0) ∨ ∃ es sp, x.1 = .slice es sp ∧ es.length = n) := by
  rcases open_ints ht he hc hf with ⟨hcs, hx⟩ | ⟨a, n, c, zs, hcs, _, hl, hm, hz, hx, hcell, hw⟩
  · exact ⟨none, 0, 0, [], hcs, rfl, by omega, by unfold maxLen; omega, RB.nil_ _ _, Or.inl ⟨by rw [hx], rfl⟩⟩
  · have hnz : n ≤ zs.length := by rw [hz]; split <;> omega
    refine ⟨some a, n, c, (zs.take n).map fun z => UInt8.ofNat z.toNat, hcs, by simp; omega, hl, hm, fun k hk => ?_, Or.inr ⟨_, _, by rw [hx], by simp [lits]; omega⟩⟩
    have hk' : k < n := by simp at hk; omega
    refine ⟨a, rfl, ?_⟩
    have hkz : k < zs.length := by omega
    rw [hcell k hkz]
    have hwk := hw zs[k] (List.getElem_mem hkz)
    have hb := bounds_u8 hwk
    have e1 : zs.getD k 0 = zs[k] := by simp [List.getD, hkz]
    rw [e1]
    congr 2
    simp
    omega
theorem open_bytes {w : World} {base : Nat} {r : Reach} {b0 : Nat} {t e : TypeId} {v : Value} {d : DataW H} {ps : List MemPlace} {spare : Nat → Bool} {held : Bool} (ht : P.underlying t = some (.slice e)) (he : P.underlying e = some (.int .u8)) (hc : P.cellsOf e = 1)
    (hv : Value.okWide P w r b0 t v) (h : DataW.Trod enc P w base spare held t v d ps) :
    ∃ (A : Option Addr) (n c : Nat) (l : List UInt8), v = .slice A n c ∧ l.length = n ∧ n ≤ c ∧ c ≤ maxLen ∧ RB w A l := by
  obtain ⟨a0, n, c, rfl⟩ := okWide_slice ht hv
  obtain ⟨fuel, hf⟩ := h
  obtain ⟨A, n', c', l, hcs, h1, h2, h3, h4, _⟩ := open_bytes_at ht he hc hf
  simp [Value.cells] at hcs
  obtain ⟨rfl, rfl, rfl⟩ := hcs
  exact ⟨_, _, _, l, rfl, h1, h2, h3, h4⟩
/-- An array of two slices of bytes. -/
theorem open_bytes2 {w : World} {base : Nat} {r : Reach} {b0 : Nat} {t s e : TypeId} {v : Value} {d : DataW H} {ps : List MemPlace} {spare : Nat → Bool} {held : Bool} (ht : P.underlying t = some (.array 2 s)) (hs : P.underlying s = some (.slice e)) (he : P.underlying e = some (.int .u8)) (hc : P.cellsOf e = 1) (hcs : P.cellsOf s = 1) (hct : P.cellsOf t = 2)
    (hv : Value.okWide P w r b0 t v) (h : DataW.Trod enc P w base spare held t v d ps) :
    ∃ (A0 : Option Addr) (n0 c0 : Nat) (l0 : List UInt8) (A1 : Option Addr) (n1 c1 : Nat) (l1 : List UInt8) (x0 x1 : DataW H), v = .agg #[.slice A0 n0 c0, .slice A1 n1 c1] ∧ d = .agg [x0, x1] ∧
      (l0.length = n0 ∧ n0 ≤ c0 ∧ c0 ≤ maxLen ∧ RB w A0 l0 ∧ ((x0 = .nil ∧ n0 = 0) ∨ ∃ es sp, x0 = .slice es sp ∧ es.length = n0)) ∧
      (l1.length = n1 ∧ n1 ≤ c1 ∧ c1 ≤ maxLen ∧ RB w A1 l1 ∧ ((x1 = .nil ∧ n1 = 0) ∨ ∃ es sp, x1 = .slice es sp ∧ es.length = n1)) := by
  unfold Value.okWide at hv
  rw [ht] at hv
  obtain ⟨cs, rfl, hsz, _⟩ := hv
  rw [hct] at hsz
  obtain ⟨fuel, hf⟩ := h
  obtain ⟨xs, m, _, hx, hlen, hxl, hg⟩ := DataW.trod_array ht hf
  obtain ⟨l⟩ := cs
  match l, hsz with
  | [u0, u1], _ =>
  match xs, hxl with
  | [y0, y1], _ =>
    have g0 := hg 0 (by omega)
    have g1 := hg 1 (by omega)
    rw [hcs] at g0 g1
    simp [Value.cells] at g0 g1
    obtain ⟨A0, n0, c0, l0, e0, h0⟩ := open_bytes_at hs he hc g0
    obtain ⟨A1, n1, c1, l1, e1, h1⟩ := open_bytes_at hs he hc g1
    simp at e0 e1
    subst e0; subst e1
    simp only [Prod.mk.injEq] at hx
    exact ⟨A0, n0, c0, l0, A1, n1, c1, l1, y0.1, y1.1, rfl, hx.1, h0, h1⟩

/-- An array of integers, by value. -/
theorem open_int_array {w : World} {base : Nat} {r : Reach} {b0 : Nat} {t e : TypeId} {n : Nat} {k : IntKind} {v : Value} {d : DataW H} {ps : List MemPlace} {spare : Nat → Bool} {held : Bool} (ht : P.underlying t = some (.array n e)) (he : P.underlying e = some (.int k)) (hc : P.cellsOf e = 1) (hct : P.cellsOf t = n)
    (hv : Value.okWide P w r b0 t v) (h : DataW.Trod enc P w base spare held t v d ps) :
    ∃ zs : List Int, v = .agg (zs.map (Value.int k)).toArray ∧ zs.length = n ∧ ∀ z ∈ zs, (Lit.int k z).wf = true := by
  unfold Value.okWide at hv
  rw [ht] at hv
  obtain ⟨cs, rfl, hsz, _⟩ := hv
  obtain ⟨fuel, hf⟩ := h
  obtain ⟨xs, m, _, _, hlen, hxl, hg⟩ := DataW.trod_array ht hf
  have hcl : cs.toList.length = n := by simpa [Value.cells, hct] using hlen
  have key : ∀ i (hi : i < n), ∃ z, cs.toList[i]'(by omega) = .int k z ∧ (Lit.int k z).wf = true := by
    intro i hi
    have h1 := hg i hi
    rw [hc, Nat.mul_one] at h1
    have e1 : ((Value.agg cs).cells.toList.drop i).take 1 = [cs.toList[i]'(by omega)] := by
      show ((cs.toList).drop i).take 1 = _
      rw [List.drop_eq_getElem_cons (by omega)]
      rfl
    rw [e1, List.getElem?_eq_getElem (by omega)] at h1
    obtain ⟨z, hz, _, hw⟩ := DataW.trod_int he h1
    simp at hz
    exact ⟨z, by simpa using hz, hw⟩
  have hint : ∀ v ∈ cs.toList, ∃ z, v = .int k z ∧ (Lit.int k z).wf = true := by
    intro v hv
    obtain ⟨i, hi, rfl⟩ := List.getElem_of_mem hv
    exact key i (by omega)
  have hmap : ∀ (l : List Value), (∀ v ∈ l, ∃ z, v = .int k z ∧ (Lit.int k z).wf = true) → ∃ zs : List Int, l = zs.map (Value.int k) ∧ ∀ z ∈ zs, (Lit.int k z).wf = true := by
    intro l
    induction l with
    | nil => intro _; exact ⟨[], rfl, by simp⟩
    | cons v l ih =>
      intro hl
      obtain ⟨z, rfl, hw⟩ := hl v (by simp)
      obtain ⟨zs, rfl, hws⟩ := ih (fun u hu => hl u (by simp [hu]))
      exact ⟨z :: zs, rfl, by simpa using ⟨hw, hws⟩⟩
  obtain ⟨zs, hzs, hw⟩ := hmap _ hint
  refine ⟨zs, ?_, by rw [← hcl, hzs]; simp, hw⟩
  congr 1
  rw [← hzs]
end

theorem bcells_of_ints (zs : List Int) (hw : ∀ z ∈ zs, (Lit.int .u8 z).wf = true) : (zs.map (Value.int .u8)).toArray = bcells (zs.map fun z => UInt8.ofNat z.toNat) := by
  unfold bcells
  congr 1
  rw [List.map_map]
  apply List.map_congr_left
  intro z hz
  have hb := bounds_u8 (hw z hz)
  simp only [Function.comp_apply]
  congr 1
  simp
  omega
/-- An array of bytes, by value. -/
theorem open_byte_array {H : Type} {enc : TypeId × Value → H} {P : Program} {w : World} {base : Nat} {r : Reach} {b0 : Nat} {t e : TypeId} {n : Nat} {v : Value} {d : DataW H} {ps : List MemPlace} {spare : Nat → Bool} {held : Bool} (ht : P.underlying t = some (.array n e)) (he : P.underlying e = some (.int .u8)) (hc : P.cellsOf e = 1) (hct : P.cellsOf t = n)
    (hv : Value.okWide P w r b0 t v) (h : DataW.Trod enc P w base spare held t v d ps) : ∃ L : List UInt8, v = .agg (bcells L) ∧ L.length = n := by
  obtain ⟨zs, rfl, hz, hw⟩ := open_int_array ht he hc hct hv h
  exact ⟨_, by rw [bcells_of_ints zs hw], by simpa using hz⟩
theorem list_two {α : Type} {l : List α} (h : l.length = 2) : ∃ a b, l = [a, b] := by
  match l, h with
  | [a, b], _ => exact ⟨a, b, rfl⟩
theorem list_three {α : Type} {l : List α} (h : l.length = 3) : ∃ a b c, l = [a, b, c] := by
  match l, h with
  | [a, b, c], _ => exact ⟨a, b, c, rfl⟩

end Go.Proofs.Ytpdeohmgjblkeaa

/-
  What a row asks of the parameters' types, whatever their number; a list of texts that came in.
-/
namespace Go.Proofs.Ytpdeohmgjblkeaa
open Go.ChangeShapes Go.WideShapes Go.ChangeAt Go.RowKit

theorem readable_all {P : Program} {f : Func} (h : (f.params.toList.all fun t => P.readableRec t && decide (t < P.types.size)) = true) : ∀ t ∈ f.params.toList, P.readableRec t = true ∧ t < P.types.size := fun t ht => by
  have := List.all_eq_true.1 h t ht
  simpa using this

section
variable {H : Type} {enc : TypeId × Value → H} {P : Program}
/-- A slice of texts that came in. -/
theorem open_texts {w : World} {base : Nat} {r : Reach} {b0 : Nat} {t e : TypeId} {v : Value} {d : DataW H} {ps : List MemPlace} {spare : Nat → Bool} {held : Bool} (ht : P.underlying t = some (.slice e)) (he : P.underlying e = some .string) (hc : P.cellsOf e = 1)
    (hv : Value.okWide P w r b0 t v) (h : DataW.Trod enc P w base spare held t v d ps) :
    ∃ (A : Option Addr) (n c : Nat) (l : List ByteArray), v = .slice A n c ∧ l.length = n ∧ n ≤ c ∧ c ≤ maxLen ∧ RC w A (svals l) ∧ ∀ s ∈ l, s.size ≤ maxLen := by
  obtain ⟨a0, n, c, rfl⟩ := okWide_slice ht hv
  obtain ⟨fuel, hf⟩ := h
  rcases open_strings ht he hc hf with ⟨hcs, _⟩ | ⟨a, n', c', ss, hcs, _, hl, hm, hlen, _, hcell, hs⟩
  · simp [Value.cells] at hcs
    obtain ⟨rfl, rfl, rfl⟩ := hcs
    exact ⟨none, 0, 0, [], rfl, rfl, by omega, by unfold maxLen; omega, RC.nil_ _ _, by simp⟩
  · simp [Value.cells] at hcs
    obtain ⟨rfl, rfl, rfl⟩ := hcs
    have hnl : n ≤ ss.length := by rw [hlen]; split <;> omega
    refine ⟨some a, n, c, ss.take n, rfl, by simp; omega, hl, hm, fun k hk => ⟨a, rfl, ?_⟩, fun s h => hs s (List.mem_of_mem_take h)⟩
    have hk' : k < n := by simp [svals] at hk; omega
    rw [hcell k (by omega)]
    simp [svals, List.getD, show k < ss.length by omega]
end

end Go.Proofs.Ytpdeohmgjblkeaa

/-
  Structs of two numbers and a byte that came in, and slices of these; a struct of one-cell fields that is loaded. Plain; no program is named here.
-/
namespace Go.Proofs.Ytpdeohmgjblkeaa
open Go.ChangeShapes Go.WideShapes Go.ChangeAt Go.RowKit

/-- Two numbers and a byte. -/
structure St3 where
  do_ : Int
  no : Int
  b : UInt8
instance : Inhabited St3 := ⟨⟨0, 0, 0⟩⟩
/-- Three cells that read as such. -/
structure R3 (v0 v1 v2 : Value) (s : St3) : Prop where
  e0 : v0 = .int .i64 s.do_
  e1 : v1 = .int .i64 s.no
  e2 : v2 = .int .u8 (s.b.toNat : Int)
  lo0 : -9223372036854775808 ≤ s.do_
  hi0 : s.do_ < 9223372036854775808
  lo1 : -9223372036854775808 ≤ s.no
  hi1 : s.no < 9223372036854775808
/-- A slice with this address reads as these. -/
def R3L (w : World) (A : Option Addr) (l : List St3) : Prop :=
  ∀ k (h : k < l.length), ∃ ad v0 v1 v2, A = some ad ∧ w.cell? (ad.add (k * 3)) = some v0 ∧ w.cell? (ad.add (k * 3 + 1)) = some v1 ∧ w.cell? (ad.add (k * 3 + 2)) = some v2 ∧ R3 v0 v1 v2 l[k]
theorem R3L.below {w w' : World} {A : Option Addr} {l : List St3} (h : R3L w A l) (hb : Below w.heap.size w w') : R3L w' A l := fun k hk => by
  obtain ⟨ad, v0, v1, v2, e, h0, h1, h2, hp⟩ := h k hk
  exact ⟨ad, v0, v1, v2, e, by rw [hb.cell (block_lt_of_cell h0), h0], by rw [hb.cell (block_lt_of_cell h1), h1], by rw [hb.cell (block_lt_of_cell h2), h2], hp⟩

section
variable {H : Type} {enc : TypeId × Value → H} {P : Program}
theorem open_step_at {w : World} {base fuel : Nat} {s : TypeId} {f0 f1 f2 : Field} {spare : Nat → Bool} {held : Bool} {c0 c1 c2 : Value} {x : DataW H × List MemPlace}
    (hs : P.underlying s = some (.struct #[f0, f1, f2])) (h0 : P.underlying f0.type = some (.int .i64)) (k0 : P.cellsOf f0.type = 1) (h1 : P.underlying f1.type = some (.int .i64)) (k1 : P.cellsOf f1.type = 1) (h2 : P.underlying f2.type = some (.int .u8)) (k2 : P.cellsOf f2.type = 1)
    (o0 : f0.offset = 0) (o1 : f1.offset = 1) (o2 : f2.offset = 2)
    (h : DataW.trod enc P w base spare held fuel s [c0, c1, c2] = some x) : ∃ p, R3 c0 c1 c2 p := by
  obtain ⟨y0, y1, y2, n, hx, _, g0, g1, g2⟩ := Go.Deep.trod_struct3 hs h
  rw [o0, k0] at g0
  rw [o1, k1] at g1
  rw [o2, k2] at g2
  simp at g0 g1 g2
  obtain ⟨z0, e0, -, w0⟩ := DataW.trod_int h0 g0
  obtain ⟨z1, e1, -, w1⟩ := DataW.trod_int h1 g1
  obtain ⟨z2, e2, -, w2⟩ := DataW.trod_int h2 g2
  simp at e0 e1 e2
  subst e0; subst e1; subst e2
  have b0 := bounds_i64 w0
  have b1 := bounds_i64 w1
  have b2 := bounds_u8 w2
  refine ⟨⟨z0, z1, UInt8.ofNat z2.toNat⟩, rfl, rfl, ?_, b0.1, ?_, b1.1, ?_⟩
  · congr 1
    simp
    omega
  · show z0 < _; omega
  · show z1 < _; omega
/-- A slice of such structs. -/
theorem open_steps {w : World} {base : Nat} {r : Reach} {b0 : Nat} {t s : TypeId} {f0 f1 f2 : Field} {v : Value} {d : DataW H} {ps : List MemPlace} {held : Bool} (ht : P.underlying t = some (.slice s))
    (hs : P.underlying s = some (.struct #[f0, f1, f2])) (hC : P.cellsOf s = 3) (h0 : P.underlying f0.type = some (.int .i64)) (k0 : P.cellsOf f0.type = 1) (h1 : P.underlying f1.type = some (.int .i64)) (k1 : P.cellsOf f1.type = 1) (h2 : P.underlying f2.type = some (.int .u8)) (k2 : P.cellsOf f2.type = 1)
    (o0 : f0.offset = 0) (o1 : f1.offset = 1) (o2 : f2.offset = 2) (hv : Value.okWide P w r b0 t v) (h : DataW.Trod enc P w base (fun _ => true) held t v d ps) :
    ∃ (A : Option Addr) (n c : Nat) (l : List St3), v = .slice A n c ∧ l.length = n ∧ n ≤ c ∧ c ≤ maxLen ∧ R3L w A l := by
  obtain ⟨a0, n, c, rfl⟩ := okWide_slice ht hv
  obtain ⟨fuel, hf⟩ := h
  rcases Go.Deep.open_slice ht hf with ⟨hcs, _⟩ | ⟨a, n', c', m, k, D, Pl, hcs, _, hl, hm, hmm, _, hx⟩
  · simp [Value.cells] at hcs
    obtain ⟨rfl, rfl, rfl⟩ := hcs
    exact ⟨none, 0, 0, [], rfl, rfl, by omega, by unfold maxLen; omega, fun k hk => absurd hk (by simp)⟩
  · simp only [if_true] at hmm
    simp [Value.cells] at hcs
    obtain ⟨rfl, rfl, rfl⟩ := hcs
    rw [hC] at hx
    have hall : ∀ i, i < m → ∃ p : St3, ∃ v0 v1 v2, w.cell? (a.add (i * 3)) = some v0 ∧ w.cell? (a.add (i * 3 + 1)) = some v1 ∧ w.cell? (a.add (i * 3 + 2)) = some v2 ∧ R3 v0 v1 v2 p := fun i hi => by
      obtain ⟨cs', g1, g2⟩ := hx i hi
      obtain ⟨_, hlen, hg⟩ := World.cells?_some g1
      match cs', hlen with
      | [c0, c1, c2], _ =>
        obtain ⟨p, hp⟩ := open_step_at (c0 := c0) (c1 := c1) (c2 := c2) hs h0 k0 h1 k1 h2 k2 o0 o1 o2 g2
        have e0 := hg 0 (by omega)
        have e1 := hg 1 (by omega)
        have e2 := hg 2 (by omega)
        rw [add_of_add] at e0 e1 e2
        exact ⟨p, c0, c1, c2, by simpa using e0, by simpa using e1, by simpa using e2, hp⟩
    obtain ⟨B, hB⟩ := Go.Deep.choose_lt (α := St3) (p := fun i p => ∃ v0 v1 v2, w.cell? (a.add (i * 3)) = some v0 ∧ w.cell? (a.add (i * 3 + 1)) = some v1 ∧ w.cell? (a.add (i * 3 + 2)) = some v2 ∧ R3 v0 v1 v2 p) hall
    refine ⟨some a, n, c, (List.range n).map B, rfl, by simp, hl, hm, fun j hj => ?_⟩
    have hj' : j < n := by simpa using hj
    obtain ⟨v0, v1, v2, g0, g1, g2, hp⟩ := hB j (by omega)
    exact ⟨a, v0, v1, v2, rfl, g0, g1, g2, by simpa using hp⟩
end

section
variable {P : Program} {ops : Array Oper} {rest : List Oper} {o : Oper} {a : Act} {w : World} {K : Act → World → Prop} {Q : Exit → Act → World → Prop}
/-- A struct of one-cell fields, loaded from anywhere: its cells, in order. -/
theorem run_loadVar_cells (P : Program) (w : World) (t : TypeId) (fs : Array Field) (hu : P.underlying t = some (.struct fs)) (cs : List Value) (hi : (P.info? t).map (·.size) = some cs.length) (ad : Addr) (h : ∀ j v, cs[j]? = some v → w.cell? (ad.add j) = some v) : (loadVar t ad).run P w = .ok (.agg cs.toArray) w := by
  have hl := run_loadCells_list (P := P) w ad cs h
  obtain ⟨i, hq, hs⟩ := Option.map_eq_some_iff.1 hi
  have hagg : (isAgg t).run P w = .ok true w := by
    unfold isAgg
    rw [Sem.run_bind, run_underlying hu w]
    simp
  simp [loadVar, Sem.run_bind, hagg, sizeOf, typeInfo, hq, hs, hl]
theorem exec_load_cells {o : Oper} (t : TypeId) (x : Operand) (ho : o.op = .load t x) (ad : Addr) (hx : a.eval x = .pointer (some ad)) (fs : Array Field) (hu : P.underlying t = some (.struct fs)) (cs : List Value) (hi : (P.info? t).map (·.size) = some cs.length) (h : ∀ j v, cs[j]? = some v → w.cell? (ad.add j) = some v) :
    (execOp a.eval o).run P w = .ok (.value (.agg cs.toArray)) w := by
  unfold execOp
  simp only [ho, hx, Instr.loadAt, Instr.sureAddr, Sem.run_bind, Sem.run_pure, Result.andThen_ok, run_loadVar_cells P w t fs hu cs hi ad h]
theorem wpList_load_cells (hgd : Region.wanted o (yielded ops a.tmps) = true) (t : TypeId) (x : Operand) (ho : o.op = .load t x) (ad : Addr) (hx : a.eval x = .pointer (some ad)) (fs : Array Field) (hu : P.underlying t = some (.struct fs)) (cs : List Value) (hi : (P.info? t).map (·.size) = some cs.length) (hc : ∀ j v, cs[j]? = some v → w.cell? (ad.add j) = some v)
    (h : wpList P ops Q rest (a.put o.dst (.agg cs.toArray)) w) : wpList P ops Q (o :: rest) a w := by
  refine wpList_wanted hgd fun K hK => ?_
  unfold Oper.wp
  rw [exec_load_cells t x ho ad hx fs hu cs hi hc]
  exact hK _ _ h
end

end Go.Proofs.Ytpdeohmgjblkeaa

/-
  A slice of blocks of 256 bytes that came in as an argument; a block of a row as a slice of bytes. Plain; no program is named here.
-/
namespace Go.Proofs.Ytpdeohmgjblkeaa
open Go.ChangeShapes Go.WideShapes Go.ChangeAt Go.RowKit

section
variable {H : Type} {enc : TypeId × Value → H} {P : Program}
theorem open_block_at {w : World} {base fuel : Nat} {t e : TypeId} {n : Nat} {spare : Nat → Bool} {held : Bool} {cs : List Value} {x : DataW H × List MemPlace}
    (ht : P.underlying t = some (.array n e)) (he : P.underlying e = some (.int .u8)) (hc : P.cellsOf e = 1) (hct : P.cellsOf t = n)
    (h : DataW.trod enc P w base spare held fuel t cs = some x) : ∃ L : List UInt8, L.length = n ∧ ∀ i, i < n → cs[i]? = (L[i]?).map fun y => Value.int .u8 (y.toNat : Int) := by
  obtain ⟨xs, m, _, _, hlen, hxl, hg⟩ := DataW.trod_array ht h
  have hcl : cs.length = n := by simpa [hct] using hlen
  have key : ∀ i, i < n → ∃ y : UInt8, cs[i]? = some (.int .u8 (y.toNat : Int)) := fun i hi => by
    have h1 := hg i hi
    rw [hc, Nat.mul_one, List.drop_eq_getElem_cons (by omega)] at h1
    simp only [List.take_succ_cons, List.take_zero] at h1
    rw [List.getElem?_eq_getElem (by omega)] at h1
    obtain ⟨z, hz, _, hw⟩ := DataW.trod_int he h1
    have hb := bounds_u8 hw
    refine ⟨UInt8.ofNat z.toNat, ?_⟩
    rw [List.getElem?_eq_getElem (by omega)]
    simp at hz
    rw [hz]
    congr 2
    simp
    omega
  obtain ⟨B, hB⟩ := Go.Deep.choose_lt (α := UInt8) (p := fun i y => cs[i]? = some (.int .u8 (y.toNat : Int))) key
  refine ⟨(List.range n).map B, by simp, fun i hi => ?_⟩
  rw [hB i hi, List.getElem?_map, List.getElem?_range hi]
  rfl
/-- A slice of blocks. -/
theorem open_blocks {w : World} {base : Nat} {r : Reach} {b0 : Nat} {t s e : TypeId} {v : Value} {d : DataW H} {ps : List MemPlace} {held : Bool} (ht : P.underlying t = some (.slice s))
    (hs : P.underlying s = some (.array 256 e)) (he : P.underlying e = some (.int .u8)) (hc : P.cellsOf e = 1) (hct : P.cellsOf s = 256)
    (hv : Value.okWide P w r b0 t v) (h : DataW.Trod enc P w base (fun _ => true) held t v d ps) :
    ∃ (A : Option Addr) (n c : Nat) (L : List (List UInt8)), v = .slice A n c ∧ L.length = n ∧ n ≤ c ∧ c ≤ maxLen ∧ Bks L ∧ RK w A L := by
  obtain ⟨a0, n, c, rfl⟩ := okWide_slice ht hv
  obtain ⟨fuel, hf⟩ := h
  rcases Go.Deep.open_slice ht hf with ⟨hcs, _⟩ | ⟨a, n', c', m, k, D, Pl, hcs, _, hl, hm, hmm, _, hx⟩
  · simp [Value.cells] at hcs
    obtain ⟨rfl, rfl, rfl⟩ := hcs
    exact ⟨none, 0, 0, [], rfl, rfl, by omega, by unfold maxLen; omega, Bks.nil_, fun k hk => absurd hk (by simp)⟩
  · simp only [if_true] at hmm
    simp [Value.cells] at hcs
    obtain ⟨rfl, rfl, rfl⟩ := hcs
    rw [hct] at hx
    have hall : ∀ i, i < m → ∃ L : List UInt8, L.length = 256 ∧ ∀ j, j < 256 → w.cell? (a.add (i * 256 + j)) = (L[j]?).map fun y => Value.int .u8 (y.toNat : Int) := fun i hi => by
      obtain ⟨cs', g1, g2⟩ := hx i hi
      obtain ⟨_, hlen, hg⟩ := World.cells?_some g1
      obtain ⟨L, hL, hk⟩ := open_block_at hs he hc hct g2
      refine ⟨L, hL, fun j hj => ?_⟩
      have h0 := hg j (by omega)
      rw [add_of_add] at h0
      rw [h0, hk j hj]
    obtain ⟨B, hB⟩ := Go.Deep.choose_lt (α := List UInt8) (p := fun i L => L.length = 256 ∧ ∀ j, j < 256 → w.cell? (a.add (i * 256 + j)) = (L[j]?).map fun y => Value.int .u8 (y.toNat : Int)) hall
    refine ⟨some a, n, c, (List.range n).map B, rfl, by simp, hl, hm, fun x hx => ?_, fun j hj i hi => ?_⟩
    · obtain ⟨j, hj, rfl⟩ := List.mem_map.1 hx
      rw [List.mem_range] at hj
      exact (hB j (by omega)).1
    · have hj' : j < n := by simpa using hj
      obtain ⟨h1, h2⟩ := hB j (by omega)
      have e : ((List.range n).map B)[j] = B j := by simp
      rw [e]
      have hil : i < (B j).length := by omega
      refine ⟨a, (B j)[i], rfl, List.getElem?_eq_getElem hil, ?_⟩
      rw [h2 i hi, List.getElem?_eq_getElem hil]
      rfl
end

section
variable {P : Program} {ops : Array Oper} {rest : List Oper} {o : Oper} {a : Act} {w : World} {Q : Exit → Act → World → Prop}
theorem add_nought (ad : Addr) : ad.add 0 = ad := by unfold Addr.add; rw [if_pos rfl]
/-- All of an array, wherever it lies. -/
theorem exec_slice_ad {o : Oper} (t : TypeId) (x : Operand) (ho : o.op = .slice t x none none none) (N e : Nat) (hu : P.underlying t = some (.array N e)) (hs : (P.info? e).map (·.size) = some 1)
    (ad : Addr) (hx : a.eval x = .pointer (some ad)) : (execOp a.eval o).run P w = .ok (.value (.slice (some ad) N N)) w := by
  obtain ⟨i, hi, hiz⟩ := Option.map_eq_some_iff.1 hs
  have hr : (Instr.sliceAt t (.pointer (some ad)) none none none).run P w = .ok (.slice (some ad) N N) w := by
    simp [Instr.sliceAt, Instr.sureAddr, run_underlying hu, Instr.sliceBounds, sizeOf, typeInfo, hi, Addr.add]
  unfold execOp
  simp only [ho, Sem.run_bind, Sem.run_pure, Result.andThen_ok, Option.map_none, hx, hr]
theorem wpList_slice_ad (hgd : Region.wanted o (yielded ops a.tmps) = true) (t : TypeId) (x : Operand) (ho : o.op = .slice t x none none none) (N e : Nat) (hu : P.underlying t = some (.array N e)) (hs : (P.info? e).map (·.size) = some 1)
    (ad : Addr) (hx : a.eval x = .pointer (some ad)) (hk : wpList P ops Q rest (a.put o.dst (.slice (some ad) N N)) w) : wpList P ops Q (o :: rest) a w := by
  refine wpList_wanted hgd fun K hK => ?_
  unfold Oper.wp
  rw [exec_slice_ad t x ho N e hu hs ad hx]
  exact hK _ _ hk
/-- A slice of one block. -/
theorem wpList_build_bk (hgd : Region.wanted o (yielded ops a.tmps) = true) (t e : TypeId) (x : Operand) (ho : o.op = .buildSlice t 1 #[(0, x)]) (ht : P.underlying t = some (.slice e)) (hi : (P.info? e).map (fun i => (i.zero, i.size, i.bytes)) = some (some (.agg (bcells (zeros 256))), 256, 256))
    (d : List UInt8) (hd : d.length = 256) (hx : a.eval x = .agg (bcells d))
    (h : Stop (∀ w', Hid (Grew w w') → Hid (Blk w' w.heap.size e (bcells d)) → wpList P ops Q rest (a.put o.dst (.slice (some ⟨w.heap.size, 0, none⟩) 1 1)) w')) : wpList P ops Q (o :: rest) a w := by
  refine wpList_wanted hgd fun K hK => ?_
  obtain ⟨i, h1, h2, h3, h4⟩ := info_parts hi
  have hsz : ((Array.range 256).map ((Value.agg (bcells (zeros 256))).cells[· % (Value.agg (bcells (zeros 256))).cells.size]!)).size = 256 := by rw [Array.size_map, Array.size_range]
  have hf : Instr.fill (fun j => some (j * 256, 256)) ((Array.range 256).map ((Value.agg (bcells (zeros 256))).cells[· % (Value.agg (bcells (zeros 256))).cells.size]!)) [(0, .agg (bcells d))] = some (bcells d) := by
    generalize (Array.range 256).map ((Value.agg (bcells (zeros 256))).cells[· % (Value.agg (bcells (zeros 256))).cells.size]!) = cs at hsz
    have hw := Go.Great.fill_whole (s := 256) (by decide) [.agg (bcells d)] cs (fun v hv => by
      rw [List.mem_singleton] at hv
      subst hv
      exact (bcells_size d).trans hd) (by rw [hsz, List.length_singleton, Nat.one_mul])
    have e1 : (([.agg (bcells d)] : List Value).flatMap fun v => v.cells.toList).toArray = bcells d := by
      rw [List.flatMap_cons, List.flatMap_nil, List.append_nil]
      exact Array.toArray_toList
    rw [e1] at hw
    exact hw
  have hr := run_buildSlice (P := P) w t e 1 #[(0, .agg (bcells d))] (bcells d) i (.agg (bcells (zeros 256))) ht h1 h2 (by omega) (by omega) (by rw [h3]; exact hf)
  unfold Oper.wp execOp
  simp only [ho, hx, Sem.run_bind, List.map_toArray, List.map_cons, List.map_nil, hr, Result.andThen_ok]
  exact hK _ _ (h _ (Grew.alloc w _) (Blk.new w e _))
/-- make of n blocks of noughts, named. -/
theorem wpList_make_bkL (hgd : Region.wanted o (yielded ops a.tmps) = true) (lo co : Operand) (t e : TypeId) (ho : o.op = .makeSlice t lo co) (ht : P.underlying t = some (.slice e)) (hi : (P.info? e).map (fun i => (i.zero, i.size, i.bytes)) = some (some (.agg (bcells (zeros 256))), 256, 256))
    (kl kc : IntKind) (X C : Int) (n : Nat) (hl : a.eval lo = .int kl X) (hc : a.eval co = .int kc C) (hX : X = n) (hC : C = n) (hn : n ≤ 1099511627776) (L : List (List UInt8)) (hL : List.replicate n (zeros 256) = L)
    (h : Stop (∀ w', Hid (Grew w w') → Hid (Blk w' w.heap.size e (bcells L.flatten)) → wpList P ops Q rest (a.put o.dst (.slice (some ⟨w.heap.size, 0, none⟩) n n)) w')) : wpList P ops Q (o :: rest) a w := by
  subst hL
  exact wpList_make_bk hgd lo co t e ho ht hi kl kc X C n hl hc hX hC hn h
end
/-- A block of a row as bytes. -/
theorem RK.at_ {w : World} {ad : Addr} {L : List (List UInt8)} (h : RK w (some ad) L) (hL : Bks L) {k : Nat} (hk : k < L.length) : RB w (some (ad.add (k * 256))) L[k] := fun i hi => by
  have h256 : L[k].length = 256 := hL.get hk
  obtain ⟨ad', x, e, hx, hc⟩ := h k hk i (by omega)
  injection e with e
  subst e
  rw [List.getElem?_eq_getElem hi] at hx
  injection hx with hx
  refine ⟨_, rfl, ?_⟩
  rw [add_of_add, hc, ← hx]
theorem OwnK.low {w : World} {B B' : Nat} {e : TypeId} {v : Value} {L : List (List UInt8)} (h : OwnK w B e v L) (hb : B' ≤ B) : OwnK w B' e v L := by
  obtain ⟨hL, hl, h | ⟨g, cap, cur, hv, hbg, h⟩⟩ := h
  · exact ⟨hL, hl, Or.inl h⟩
  · exact ⟨hL, hl, Or.inr ⟨g, cap, cur, hv, by omega, h⟩⟩
theorem RK.addr {w : World} {A : Option Addr} {L : List (List UInt8)} (h : RK w A L) (hl : 0 < L.length) : ∃ ad, A = some ad := by
  obtain ⟨ad, _, e, _⟩ := h 0 hl 0 (by omega)
  exact ⟨ad, e⟩

end Go.Proofs.Ytpdeohmgjblkeaa

/-
  Contract of slices.Clone of blocks (of 1 to 512).
-/
namespace Go.Proofs.Ytpdeohmgjblkeaa
open Go.RowKit

theorem RK.same {w w' : World} {g : Nat} {L : List (List UInt8)} (h : RK w (some ⟨g, 0, none⟩) L) (hb : w'.heap[g]? = w.heap[g]?) : RK w' (some ⟨g, 0, none⟩) L := fun k hk i hi => by
  obtain ⟨ad, x, e, hx, hc⟩ := h k hk i hi
  refine ⟨ad, x, e, hx, ?_⟩
  injection e with e
  rw [← hc, ← e]
  unfold World.cell?
  rw [block_of_add, hb]

section
variable {P : Program} {ops : Array Oper} {rest : List Oper} {o : Oper} {a : Act} {w : World} {K : Act → World → Prop} {Q : Exit → Act → World → Prop}
theorem run_build0k (P : Program) (w : World) (t e : TypeId) (ht : P.underlying t = some (.slice e)) (hs : (P.info? e).map (·.size) = some 256) : (Instr.buildSlice t 0 #[]).run P w = .ok (.slice (some ⟨w.heap.size, 0, none⟩) 0 0) (w.alloc (.cells #[] e)) := by
  obtain ⟨i, hq, hsz⟩ := Option.map_eq_some_iff.1 hs
  have e0 : Array.map (fun _ : Nat => (default : Value)) (Array.range 0) = #[] := Array.eq_empty_of_size_eq_zero (by simp)
  simp [Instr.buildSlice, run_underlying ht, sizeOf, typeInfo, hq, Instr.fill]
  rw [e0]
  rfl
theorem wpList_build0k (hgd : Region.wanted o (yielded ops a.tmps) = true) (t e : TypeId) (ho : o.op = .buildSlice t 0 #[]) (ht : P.underlying t = some (.slice e)) (hs : (P.info? e).map (·.size) = some 256)
    (h : Stop (∀ w', Hid (Below w.heap.size w w') → Hid (OwnK w' w.heap.size e (.slice (some ⟨w.heap.size, 0, none⟩) 0 0) []) → wpList P ops Q rest (a.put o.dst (.slice (some ⟨w.heap.size, 0, none⟩) 0 0)) w')) : wpList P ops Q (o :: rest) a w := by
  refine wpList_wanted hgd fun K hK => ?_
  unfold Oper.wp execOp
  simp only [ho, Sem.run_bind, List.map_toArray, List.map_nil, run_build0k P w t e ht hs, Result.andThen_ok]
  exact hK _ _ (h _ ((Below.refl _ _).alloc (Nat.le_refl _) _) ⟨Bks.nil_, by simp, Or.inr ⟨w.heap.size, 0, #[], rfl, Nat.le_refl _, heap_alloc_new w _, Nat.le_refl _, by unfold maxLen; omega, by simp, by simp⟩⟩)
end

set_option maxHeartbeats 400000 in
theorem cloneK_any (ad : Addr) (n c : Nat) (L : List (List UInt8)) (hL : Bks L) (hn : L.length = n) (h0 : 0 < n) (hm : n ≤ 512) (w : World) (hr : RK w (some ad) L) :
    Calls Try.prog 24 #[.slice (some ad) n c] w fun e w' => ∃ g c', e = .returned (.slice (some ⟨g, 0, none⟩) n c') ∧ w.heap.size ≤ g ∧ g < w'.heap.size ∧ RK w' (some ⟨g, 0, none⟩) L ∧ n ≤ c' ∧ c' ≤ maxLen ∧ Below w.heap.size w w' := by
  have Hn := Lib.hid hn
  have Hr := Lib.hid hr
  clear hn hr
  have qn : ∀ w' : World, (binOp .eql 33 (.slice (some ad) n c) (.slice none 0 0)).run Try.prog w' = .ok (.bool false) w' := fun w' => Lib.run_eql_slice_nil w' _ _ (some ad) n c 0 0 Try.underlying33
  go_enter Try.func24, Try.ntmps24
  go_wp2_with (refine wpList_build0k rfl _ _ rfl Try.underlying33 Try.blockSize ?_)
  apply Stop.go; intro w1 Hb1 Ho1
  go_wp2_with (at_builtin; refine wpList_append_bk rfl _ _ _ _ rfl Try.underlying33 _ Try.blockInfo ((bcells_size _).trans (zeros_len 256)) w.heap.size _ [] Ho1.out ad n c L hL Hn.out (Hr.out.below Hb1.out) rfl rfl Hb1.out.size (by simp; omega) ?_)
  apply Stop.go; intro v2 w2 Ho2 Hb2
  go_wp2_with fail
  go_ret
  have hbb := Hb1.out.trans Hb2.out
  have ho : OwnK w2 w.heap.size 49 v2 L := by simpa using Ho2.out
  obtain ⟨A, c', hv, q1, q2, hrk⟩ := ho.read
  obtain ⟨_, hl, h | ⟨g, cap, cur, hv2, hb2, hg2, _⟩⟩ := ho
  · exact absurd h.2 (by rw [Hn.out]; omega)
  · rw [hv2] at hv
    injection hv with hA hn' hc'
    subst hA
    subst hc'
    rw [Hn.out] at q1
    rw [hv2, Hn.out]
    refine ⟨g, cap, rfl, hb2, Blk.lt hg2, hrk, q1, q2, hbb⟩

end Go.Proofs.Ytpdeohmgjblkeaa
