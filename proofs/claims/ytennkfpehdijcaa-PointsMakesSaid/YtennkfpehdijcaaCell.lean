/-
  Laws on one cell of a known block, and on make of noughts of any one-cell type. Plain; no program is named here.
-/
import Derived.Test.YtennkfpehdijcaaBase
import Derived.Test.YtennkfpehdijcaaList
namespace Go.Proofs.Ytennkfpehdijcaa
open Go.RowKit

section
variable {P : Program} {ops : Array Oper} {rest : List Oper} {o : Oper} {a : Act} {w : World} {Q : Exit → Act → World → Prop}

theorem run_storeVar_cell (P : Program) (w : World) (ty : TypeId) (hs : (P.info? ty).map (·.size) = some 1) (g i : Nat) (t : TypeId) (cs : Array Value) (hg : Blk w g t cs) (hi : i < cs.size) (v : Value) (hv : v.cells = #[v]) (h1 : v.oneCell' = true) :
    (storeVar ty ⟨g, i, none⟩ v).run P w = .ok () (w.setCell ⟨g, i, none⟩ v) := by
  obtain ⟨inf, hq, hsz⟩ := Option.map_eq_some_iff.1 hs
  have hc : w.cell? ⟨g, i, none⟩ = some cs[i] := by rw [hg.cell, Array.getElem?_eq_getElem hi]
  simp [storeVar, sizeOf, typeInfo, hq, hsz, hv, storeCells, run_store P w _ v _ h1, hc, hg.frozen i, show (⟨g, i, none⟩ : Addr).add 0 = ⟨g, i, none⟩ from rfl]

/-- A store into one cell of a block. -/
theorem wpList_store_cell (hgd : Region.wanted o (yielded ops a.tmps) = true) (ty : TypeId) (x y : Operand) (ho : o.op = .store ty x y) (hs : (P.info? ty).map (·.size) = some 1)
    (g i : Nat) (hx : a.eval x = .pointer (some ⟨g, i, none⟩)) (v : Value) (hy : a.eval y = v) (hv : v.cells = #[v]) (h1 : v.oneCell' = true) (t : TypeId) (cs : Array Value) (hg : Blk w g t cs) (hi : i < cs.size)
    (h : Stop (∀ w', Hid (Only w w' g) → Hid (Blk w' g t (cs.setIfInBounds i v)) → wpList P ops Q rest (a.put o.dst undef) w')) : wpList P ops Q (o :: rest) a w := by
  refine wpList_wanted hgd fun K hK => ?_
  unfold Oper.wp execOp
  simp only [ho, hx, hy, Instr.storeAt, Instr.sureAddr, Sem.run_bind, Sem.run_pure, Result.andThen_ok, run_storeVar_cell P w ty hs g i t cs hg hi v hv h1]
  exact hK _ _ (h _ ((Only.refl w g).setCell i v) (hg.set_ i v))

/-- A byte of an array by value. -/
theorem run_index_byte (P : Program) (w : World) (t e : TypeId) (n : Nat) (hu : P.underlying t = some (.array n e)) (he : P.underlying e = some (.int .u8)) (hs : (P.info? e).map (·.size) = some 1) (k : IntKind) (M : List UInt8) (q : Nat) (hq : q < n) (x : UInt8) (hx : M[q]? = some x) :
    (Instr.index t (.agg (bcells M)) (.int k q)).run P w = .ok (.int .u8 (x.toNat : Int)) w := by
  obtain ⟨inf, hi, hsz⟩ := Option.map_eq_some_iff.1 hs
  have hc : (bcells M)[q]? = some (.int .u8 (x.toNat : Int)) := by rw [bcells_get, hx]; rfl
  simp [Instr.index, asIntOf, run_underlying hu, hq, part, isAgg, run_underlying he, sizeOf, typeInfo, hi, hsz, hc]
theorem wpList_index_byte (hgd : Region.wanted o (yielded ops a.tmps) = true) (t : TypeId) (x y : Operand) (ho : o.op = .index t x y) (n e : Nat) (hu : P.underlying t = some (.array n e)) (he : P.underlying e = some (.int .u8)) (hs : (P.info? e).map (·.size) = some 1)
    (M : List UInt8) (hx : a.eval x = .agg (bcells M)) (k : IntKind) (I : Int) (hy : a.eval y = .int k I) (q : Nat) (hI : I = q) (hq : q < n) (b : UInt8) (hb : M[q]? = some b)
    (h : wpList P ops Q rest (a.put o.dst (.int .u8 (b.toNat : Int))) w) : wpList P ops Q (o :: rest) a w := by
  refine wpList_wanted hgd fun K hK => ?_
  subst hI
  unfold Oper.wp execOp
  simp only [ho, hx, hy, Sem.run_bind, Sem.run_pure, Result.andThen_ok, run_index_byte P w t e n hu he hs k M q hq b hb]
  exact hK _ _ h
/-- The result is a struct in a block. -/
theorem bodyPost_struct {R : Ending → World → Prop} {fn : Func} {p : Tmp} {t : TypeId} (hf : fn.results = #[ResultVar.cell p t]) (g : Nat) (hp : a.tmps.getD p undef = .pointer (some ⟨g, 0, none⟩)) (t' : TypeId) (cs : Array Value) (hg : Blk w g t' cs)
    (d : TypeDesc) (hu : P.underlying t = some d) (hd1 : (match d with | .struct _ | .array _ _ => true | _ => false) = true) (hi : (P.info? t).map (·.size) = some cs.size) (hd : a.defers = []) (hR : Stop (R (.returned (.agg cs)) w)) : bodyPost P fn R .ret a w :=
  bodyPost_ret (results_cell_row hf a.tmps w g t' cs (0, 0) d hp hg hu hd1 hi) hd hR

/-- make of n noughts. -/
theorem run_make_zero (P : Program) (w : World) (t e : TypeId) (ht : P.underlying t = some (.slice e)) (z : Value) (by_ : Nat) (hi : (P.info? e).map (fun i => (i.zero, i.size, i.bytes)) = some (some z, 1, by_)) (hz : z.cells = #[z]) (kl kc : IntKind) (n : Nat) (hn : by_ * n ≤ 281474976710656) (hn2 : n ≤ 9223372036854775807) :
    (Instr.makeSlice t (.int kl n) (.int kc n)).run P w = .ok (.slice (some ⟨w.heap.size, 0, none⟩) n n) (w.alloc (.cells (List.replicate n z).toArray e)) := by
  obtain ⟨i, h1, h2, h3, h4⟩ := info_parts hi
  have hr := run_make (P := P) w t e i z ht h1 h2 kl kc n n (by omega) (by omega) (by rw [h4]; omega) (by omega)
  have e1 : madeCells z.cells ((n : Int).toNat * i.size) = (List.replicate n z).toArray := by
    rw [h3, hz]
    apply Array.ext_getElem?
    intro j
    simp [madeCells, Array.getElem?_map]
    by_cases hj : j < n <;> simp [hj]
    all_goals simp [Nat.mod_one]
  rw [e1] at hr
  simpa using hr
theorem wpList_make_zero (hgd : Region.wanted o (yielded ops a.tmps) = true) (lo co : Operand) (t e : TypeId) (ho : o.op = .makeSlice t lo co) (ht : P.underlying t = some (.slice e)) (z : Value) (by_ : Nat) (hi : (P.info? e).map (fun i => (i.zero, i.size, i.bytes)) = some (some z, 1, by_)) (hz : z.cells = #[z])
    (kl kc : IntKind) (L C : Int) (n : Nat) (hl : a.eval lo = .int kl L) (hc : a.eval co = .int kc C) (hL : L = n) (hC : C = n) (hn : by_ * n ≤ 281474976710656) (hn2 : n ≤ 9223372036854775807) (cs : Array Value) (hcs : (List.replicate n z).toArray = cs)
    (h : Stop (∀ w', Hid (Grew w w') → Hid (Blk w' w.heap.size e cs) → wpList P ops Q rest (a.put o.dst (.slice (some ⟨w.heap.size, 0, none⟩) n n)) w')) : wpList P ops Q (o :: rest) a w := by
  refine wpList_wanted hgd fun K hK => ?_
  subst hL; subst hC; subst hcs
  have hr := run_make_zero P w t e ht z by_ hi hz kl kc n hn hn2
  unfold Oper.wp execOp
  simp only [ho, Sem.run_bind, Sem.run_pure, Result.andThen_ok, hl, hc, hr]
  exact hK _ _ (h _ (Grew.alloc w _) (Blk.new w e _))
end

/-! Lists of bools, lists of numbers. -/
def bvals (l : List Bool) : List Value := l.map Value.bool
def ivals (l : List Int) : List Value := l.map (Value.int .i64)
theorem bvals_len (l : List Bool) : (bvals l).length = l.length := by simp [bvals]
theorem ivals_len (l : List Int) : (ivals l).length = l.length := by simp [ivals]
theorem bvals_snoc (l : List Bool) (b : Bool) : bvals l ++ [.bool b] = bvals (l ++ [b]) := by simp [bvals]
theorem ivals_snoc (l : List Int) (i : Int) : ivals l ++ [.int .i64 i] = ivals (l ++ [i]) := by simp [ivals]
theorem RC.bool {w : World} {A : Option Addr} {l : List Bool} (h : RC w A (bvals l)) (k : Nat) (hk : k < l.length) : ∃ ad, A = some ad ∧ w.cell? (ad.add k) = some (.bool l[k]) := by
  obtain ⟨ad, e, hc⟩ := h k (by rw [bvals_len]; exact hk)
  exact ⟨ad, e, by rw [hc]; simp [bvals]⟩
theorem RC.int {w : World} {A : Option Addr} {l : List Int} (h : RC w A (ivals l)) (k : Nat) (hk : k < l.length) : ∃ ad, A = some ad ∧ w.cell? (ad.add k) = some (.int .i64 l[k]) := by
  obtain ⟨ad, e, hc⟩ := h k (by rw [ivals_len]; exact hk)
  exact ⟨ad, e, by rw [hc]; simp [ivals]⟩
theorem OwnC.bools {w : World} {B : Nat} {e : TypeId} {v : Value} {l : List Bool} (h : OwnC w B e v (bvals l)) : ∃ A c, v = .slice A l.length c ∧ l.length ≤ c ∧ c ≤ maxLen ∧ RC w A (bvals l) := by
  have := h.read
  rwa [bvals_len] at this
theorem OwnC.ints {w : World} {B : Nat} {e : TypeId} {v : Value} {l : List Int} (h : OwnC w B e v (ivals l)) : ∃ A c, v = .slice A l.length c ∧ l.length ≤ c ∧ c ≤ maxLen ∧ RC w A (ivals l) := by
  have := h.read
  rwa [ivals_len] at this
/-- The block in which a slice of the call's own lies. -/
theorem OwnC.blk {w : World} {B : Nat} {e : TypeId} {v : Value} {l : List Value} (h : OwnC w B e v l) (hl : 0 < l.length) :
    ∃ g cap cur, v = .slice (some ⟨g, 0, none⟩) l.length cap ∧ B ≤ g ∧ Blk w g e cur ∧ l.length ≤ cap ∧ cap ≤ maxLen ∧ cur.size = cap ∧ cur.toList.take l.length = l := by
  obtain ⟨_, h | ⟨g, cap, cur, hv, hb, hg, hn, hc, hs, ht⟩⟩ := h
  · omega
  · exact ⟨g, cap, cur, hv, hb, hg, hn, hc, by omega, by rw [Nat.mul_one] at ht; exact ht⟩
theorem RC.of_blk {w : World} {g : Nat} {t : TypeId} {cs : Array Value} (h : Blk w g t cs) (l : List Value) (hl : cs.toList.take l.length = l) : RC w (some ⟨g, 0, none⟩) l := fun k hk => by
  refine ⟨_, rfl, ?_⟩
  have e : (cs.toList.take l.length)[k]? = l[k]? := by rw [hl]
  rw [List.getElem?_take_of_lt hk, List.getElem?_eq_getElem hk] at e
  rw [addr_add0, h.cell]
  simpa using e
theorem OwnC.only {w w' : World} {B : Nat} {e : TypeId} {v : Value} {l : List Value} (h : OwnC w B e v l) {g : Nat} (ho : Only w w' g) (hg : g < B) : OwnC w' B e v l := by
  obtain ⟨hl, h | ⟨k, cap, cur, hv, hbk, hk, h⟩⟩ := h
  · exact ⟨hl, Or.inl h⟩
  · exact ⟨hl, Or.inr ⟨k, cap, cur, hv, hbk, Blk.only hk ho (by omega), h⟩⟩
theorem take_set_same {α : Type} (l : List α) (i n : Nat) (v : α) : (l.set i v).take n = (l.take n).set i v := by
  rw [List.take_set]

end Go.Proofs.Ytennkfpehdijcaa
