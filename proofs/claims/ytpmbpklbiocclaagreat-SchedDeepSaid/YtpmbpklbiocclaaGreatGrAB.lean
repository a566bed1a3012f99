/-
  Texts of this claim joined: List, Cell, Held.
-/
import Derived.Test.YtpmbpklbiocclaaGreatGrAA
import Derived.SliceStrings
import Derived.Deep.RegionHeld

/-
  Words for lists of one-cell values in memory: a slice that reads as a list, a slice of the call's own. Plain; no program is named here.
-/
namespace Go.Proofs.YtpmbpklbiocclaaGreat
open Go.RowKit

def RC (w : World) (A : Option Addr) (l : List Value) : Prop :=
  ∀ k (h : k < l.length), ∃ ad, A = some ad ∧ w.cell? (ad.add k) = some l[k]
theorem RC.below {w w' : World} {A : Option Addr} {l : List Value} (h : RC w A l) (hb : Below w.heap.size w w') : RC w' A l := fun k hk => by
  obtain ⟨ad, e, hc⟩ := h k hk
  refine ⟨ad, e, ?_⟩
  rw [hb.cell (block_lt_of_cell hc), hc]
theorem RC.nil_ (w : World) (A : Option Addr) : RC w A [] := fun k h => absurd h (by simp)
def OwnC (w : World) (B : Nat) (e : TypeId) (v : Value) (l : List Value) : Prop := w.ownsRow B e 1 v l.length l
theorem OwnC.nil_ (w : World) (B : Nat) (e : TypeId) : OwnC w B e (.slice none 0 0) [] := World.ownsRow_nil w B e 1
theorem OwnC.read {w : World} {B : Nat} {e : TypeId} {v : Value} {l : List Value} (h : OwnC w B e v l) : ∃ A c, v = .slice A l.length c ∧ l.length ≤ c ∧ c ≤ maxLen ∧ RC w A l := by
  obtain ⟨hl, h | ⟨g, cap, cur, hv, hb, hg, hn, hc, hs, ht⟩⟩ := h
  · refine ⟨none, 0, by rw [h.1, h.2], by omega, by unfold maxLen; omega, ?_⟩
    have : l = [] := List.eq_nil_of_length_eq_zero h.2
    subst this
    exact RC.nil_ _ _
  · refine ⟨_, cap, hv, hn, hc, fun k hk => ⟨_, rfl, ?_⟩⟩
    have h2 : (cur.toList.take (l.length * 1))[k]? = l[k]? := by rw [ht]
    rw [List.getElem?_take_of_lt (by omega), List.getElem?_eq_getElem hk] at h2
    rw [addr_add0, cell_of_row w g k cur e (0, 0) hg]
    simpa using h2
theorem OwnC.lt {w : World} {B : Nat} {e : TypeId} {v : Value} {l : List Value} (h : OwnC w B e v l) : ∀ k, v.ownBlock = some k → B ≤ k ∧ k < w.heap.size := World.ownsRow.lt h
theorem OwnC.ext {w w' : World} {B : Nat} {e : TypeId} {v : Value} {l : List Value} (h : OwnC w B e v l) (hb : Below w.heap.size w w') : OwnC w' B e v l := by
  obtain ⟨hl, h | ⟨g, cap, cur, hv, hbg, hg, h⟩⟩ := h
  · exact ⟨hl, Or.inl h⟩
  · exact ⟨hl, Or.inr ⟨g, cap, cur, hv, hbg, Blk.ext hg hb, h⟩⟩
theorem OwnC.low {w : World} {B B' : Nat} {e : TypeId} {v : Value} {l : List Value} (h : OwnC w B e v l) (hb : B' ≤ B) : OwnC w B' e v l := by
  obtain ⟨hl, h | ⟨g, cap, cur, hv, hbg, h⟩⟩ := h
  · exact ⟨hl, Or.inl h⟩
  · exact ⟨hl, Or.inr ⟨g, cap, cur, hv, Nat.le_trans hb hbg, h⟩⟩
def Apart (u v : Value) : Prop := ∀ k, u.ownBlock = some k → v.ownBlock ≠ some k
theorem Apart.nil_ (v : Value) : Apart (.slice none 0 0) v := fun k h => by simp [Value.ownBlock] at h
theorem Apart.symm {u v : Value} (h : Apart u v) : Apart v u := fun k h1 h2 => h k h2 h1
structure Added (w w' : World) (B : Nat) (v v' : Value) : Prop where
  below : Below B w w'
  keep : ∀ B' e u l, OwnC w B' e u l → Apart u v → OwnC w' B' e u l ∧ Apart u v'

section
variable {P : Program} {ops : Array Oper} {rest : List Oper} {o : Oper} {a : Act} {w : World} {Q : Exit → Act → World → Prop}

theorem run_append_one (P : Program) (w : World) (t ty e : TypeId) (ht : P.underlying t = some (.slice e)) (z : Value) (by_ : Nat) (hi : (P.info? e).map (fun i => (i.zero, i.size, i.bytes)) = some (some z, 1, by_)) (hz : z.cells.size = 1)
    (B : Nat) (v : Value) (l : List Value) (hown : OwnC w B e v l) (X : Value) (hX : X.oneCell' = true) (ad : Addr) (c : Nat) (hc : w.cell? ad = some X) (hB : B ≤ w.heap.size) (hlen : l.length + 1 ≤ maxLen) (hby : (l.length + 1) * by_ ≤ 140737488355328) :
    ∃ v' w', (Builtin.append_ #[t, t] ty #[v, .slice (some ad) 1 c]).run P w = .ok v' w' ∧ OwnC w' B e v' (l ++ [X]) ∧ w.grownBy w' v.ownBlock ∧ (v'.ownBlock = v.ownBlock ∨ v'.ownBlock = some w.heap.size) := by
  obtain ⟨i, h1, h2, h3, h4⟩ := info_parts hi
  have hnews : ∀ j u, [X][j]? = some u → w.cell? (ad.add j) = some u := fun j u hj => by
    match j, hj with
    | 0, hj =>
      simp at hj
      subst hj
      exact hc
  have h5 : ∀ u ∈ [X], u.oneCell' = true := fun u hu => by
    simp at hu
    subst hu
    exact hX
  have hlm : l.length + 1 ≤ 9223372036854775807 := by unfold maxLen at hlen; omega
  obtain ⟨v', w', hr, ho, hg, _⟩ := run_append_own (P := P) w B t ty e i z 1 by_ ht h1 h2 h3 h4 hz (by omega) v l.length l hown ad 1 c [X] rfl hnews h5 hlen hby hB
  have e1 : (l ++ [X]).length = l.length + 1 := by simp
  refine ⟨v', w', hr, by unfold OwnC; rw [e1]; exact ho, hg, ?_⟩
  obtain ⟨hl, ⟨rfl, hn⟩ | ⟨g, cap, cur, rfl, hbg, hgr, hnc, hcm, hcs, htk⟩⟩ := id hown
  · have hb1 : 1 * by_ ≤ 140737488355328 := Nat.le_trans (Nat.mul_le_mul_right by_ (by omega)) hby
    have hr' := run_append_nil (P := P) w t ty e i z ht h1 h2 ad 1 c [X] (by rw [h3]; rfl) hnews (by omega) (by omega) (by rw [h4]; omega)
    rw [hr] at hr'
    injection hr' with e2 _
    right
    rw [e2]
    rfl
  · by_cases hroom : l.length + 1 ≤ cap
    · have hr' := run_append_room (P := P) w t ty e i ht h1 g l.length cap cur hgr ad 1 c [X] (by rw [h3]; rfl) hnews h5 hroom (by rw [h3, hcs]; simp; omega)
      rw [hr] at hr'
      injection hr' with e2 _
      left
      rw [e2]
      rfl
    · have holds : ∀ j u, l[j]? = some u → w.cell? ((⟨g, 0, none⟩ : Addr).add j) = some u := hown.cells (g := g) rfl
      have hr' := run_append_grow (P := P) w t ty e i z ht h1 h2 ⟨g, 0, none⟩ l.length cap l (by rw [h3]; simp) holds ad 1 c [X] (by rw [h3]; rfl) hnews (by omega) (by omega) (by rw [h4]; exact growslice_fits (by omega) hby)
      rw [hr] at hr'
      injection hr' with e2 _
      right
      rw [e2]
      rfl

theorem wpList_append_one (hgd : Region.wanted o (yielded ops a.tmps) = true) (s x : Operand) (t e : TypeId) (ho : o.op = .call { callee := .builtin .append, args := #[s, x], argTypes := #[t, t] })
    (ht : P.underlying t = some (.slice e)) (z : Value) (by_ : Nat) (hi : (P.info? e).map (fun i => (i.zero, i.size, i.bytes)) = some (some z, 1, by_)) (hz : z.cells.size = 1)
    (B : Nat) (v : Value) (l : List Value) (hs : a.eval s = v) (hown : OwnC w B e v l) (X : Value) (hX : X.oneCell' = true) (hx : a.eval x = .slice (some ⟨w.heap.size, 0, none⟩) 1 1)
    (hB : B ≤ w.heap.size) (hlen : l.length + 1 ≤ maxLen) (hby : (l.length + 1) * by_ ≤ 140737488355328)
    (h : Stop (∀ v' w', Hid (OwnC w' B e v' (l ++ [X])) → Hid (Added w w' B v v') → wpList P ops Q rest (a.put o.dst v') w')) : wpList P ops Q (o :: rest) a (w.alloc (.cells #[X] e)) := by
  refine wpList_wanted hgd fun K hK => ?_
  obtain ⟨v', w', hr, h1, h2, h3⟩ := run_append_one P (w.alloc (.cells #[X] e)) t o.type e ht z by_ hi hz B v l (World.ownsRow.alloc hown _) X hX ⟨w.heap.size, 0, none⟩ 1 (by have h := cell_one_new w X e 0 X rfl; rwa [addr_add0] at h) (by simp; omega) hlen hby
  unfold Oper.wp execOp
  simp only [ho, resolve, invoke, builtin, Sem.run_bind, Sem.run_pure, Result.andThen_ok, List.map_toArray, List.map_cons, List.map_nil, hs, hx, hr]
  refine hK _ _ (h v' w' h1 ⟨?_, fun B' e' u m hu hap => ⟨?_, fun k hk => ?_⟩⟩)
  · refine (((Below.refl B w).alloc (by omega) _)).grown h2 (by simp; omega) ?_
    intro k hk
    exact (hown.lt k hk).1
  · refine World.ownsRow.kept (World.ownsRow.alloc hu _) h2 ?_
    cases hb : u.ownBlock with
    | none => exact Or.inl rfl
    | some k => exact Or.inr fun e => hap k hb e.symm
  · have hlt := (hu.lt k hk).2
    rcases h3 with h3 | h3 <;> rw [h3]
    · exact hap k hk
    · simp
      omega
end


end Go.Proofs.YtpmbpklbiocclaaGreat

/-
  Laws on one cell of a known block, and on make of noughts of any one-cell type. Plain; no program is named here.
-/
namespace Go.Proofs.YtpmbpklbiocclaaGreat
open Go.RowKit

section
variable {P : Program} {ops : Array Oper} {rest : List Oper} {o : Oper} {a : Act} {w : World} {Q : Exit → Act → World → Prop}

theorem run_storeVar_cell (P : Program) (w : World) (ty : TypeId) (hs : (P.info? ty).map (·.size) = some 1) (g i : Nat) (t : TypeId) (cs : Array Value) (hg : Blk w g t cs) (hi : i < cs.size) (v : Value) (hv : v.cells = #[v]) (h1 : v.oneCell' = true) :
    (storeVar ty ⟨g, i, none⟩ v).run P w = .ok () (w.setCell ⟨g, i, none⟩ v) := by
  obtain ⟨inf, hq, hsz⟩ := Option.map_eq_some_iff.1 hs
  have hc : w.cell? ⟨g, i, none⟩ = some cs[i] := by rw [hg.cell, Array.getElem?_eq_getElem hi]
  simp [storeVar, sizeOf, typeInfo, hq, hsz, hv, storeCells, run_store P w _ v _ h1, hc, hg.frozen i, show (⟨g, i, none⟩ : Addr).add 0 = ⟨g, i, none⟩ from rfl]

theorem wpList_store_cell (hgd : Region.wanted o (yielded ops a.tmps) = true) (ty : TypeId) (x y : Operand) (ho : o.op = .store ty x y) (hs : (P.info? ty).map (·.size) = some 1)
    (g i : Nat) (hx : a.eval x = .pointer (some ⟨g, i, none⟩)) (v : Value) (hy : a.eval y = v) (hv : v.cells = #[v]) (h1 : v.oneCell' = true) (t : TypeId) (cs : Array Value) (hg : Blk w g t cs) (hi : i < cs.size)
    (h : Stop (∀ w', Hid (Only w w' g) → Hid (Blk w' g t (cs.setIfInBounds i v)) → wpList P ops Q rest (a.put o.dst undef) w')) : wpList P ops Q (o :: rest) a w := by
  refine wpList_wanted hgd fun K hK => ?_
  unfold Oper.wp execOp
  simp only [ho, hx, hy, Instr.storeAt, Instr.sureAddr, Sem.run_bind, Sem.run_pure, Result.andThen_ok, run_storeVar_cell P w ty hs g i t cs hg hi v hv h1]
  exact hK _ _ (h _ ((Only.refl w g).setCell i v) (hg.set_ i v))

theorem bodyPost_struct {R : Ending → World → Prop} {fn : Func} {p : Tmp} {t : TypeId} (hf : fn.results = #[ResultVar.cell p t]) (g : Nat) (hp : a.tmps.getD p undef = .pointer (some ⟨g, 0, none⟩)) (t' : TypeId) (cs : Array Value) (hg : Blk w g t' cs)
    (d : TypeDesc) (hu : P.underlying t = some d) (hd1 : (match d with | .struct _ | .array _ _ => true | _ => false) = true) (hi : (P.info? t).map (·.size) = some cs.size) (hd : a.defers = []) (hR : Stop (R (.returned (.agg cs)) w)) : bodyPost P fn R .ret a w :=
  bodyPost_ret (results_cell_row hf a.tmps w g t' cs (0, 0) d hp hg hu hd1 hi) hd hR

theorem run_make_zero (P : Program) (w : World) (t e : TypeId) (ht : P.underlying t = some (.slice e)) (z : Value) (by_ : Nat) (hi : (P.info? e).map (fun i => (i.zero, i.size, i.bytes)) = some (some z, 1, by_)) (hz : z.cells = #[z]) (kl kc : IntKind) (n : Nat) (hn : by_ * n ≤ 281474976710656) (hn2 : n ≤ 9223372036854775807) :
    (Instr.makeSlice t (.int kl n) (.int kc n)).run P w = .ok (.slice (some ⟨w.heap.size, 0, none⟩) n n) (w.alloc (.cells (List.replicate n z).toArray e)) := by
  obtain ⟨i, h1, h2, h3, h4⟩ := info_parts hi
  have hr := run_make (P := P) w t e i z ht h1 h2 kl kc n n (by omega) (by omega) (by rw [h4]; omega) (by omega)
  have e1 : madeCells z.cells ((n : Int).toNat * i.size) = (List.replicate n z).toArray := by
    rw [h3, hz]
    apply Array.ext_getElem?
    intro j
    simp [madeCells, Array.getElem?_map]
    by_cases hj : j < n <;> simp [hj]
    all_goals simp [Nat.mod_one]
  rw [e1] at hr
  simpa using hr
theorem wpList_make_zero (hgd : Region.wanted o (yielded ops a.tmps) = true) (lo co : Operand) (t e : TypeId) (ho : o.op = .makeSlice t lo co) (ht : P.underlying t = some (.slice e)) (z : Value) (by_ : Nat) (hi : (P.info? e).map (fun i => (i.zero, i.size, i.bytes)) = some (some z, 1, by_)) (hz : z.cells = #[z])
    (kl kc : IntKind) (L C : Int) (n : Nat) (hl : a.eval lo = .int kl L) (hc : a.eval co = .int kc C) (hL : L = n) (hC : C = n) (hn : by_ * n ≤ 281474976710656) (hn2 : n ≤ 9223372036854775807) (cs : Array Value) (hcs : (List.replicate n z).toArray = cs)
    (h : Stop (∀ w', Hid (Grew w w') → Hid (Blk w' w.heap.size e cs) → wpList P ops Q rest (a.put o.dst (.slice (some ⟨w.heap.size, 0, none⟩) n n)) w')) : wpList P ops Q (o :: rest) a w := by
  refine wpList_wanted hgd fun K hK => ?_
  subst hL; subst hC; subst hcs
  have hr := run_make_zero P w t e ht z by_ hi hz kl kc n hn hn2
  unfold Oper.wp execOp
  simp only [ho, Sem.run_bind, Sem.run_pure, Result.andThen_ok, hl, hc, hr]
  exact hK _ _ (h _ (Grew.alloc w _) (Blk.new w e _))
end

def bvals (l : List Bool) : List Value := l.map Value.bool
def ivals (l : List Int) : List Value := l.map (Value.int .i64)
theorem bvals_len (l : List Bool) : (bvals l).length = l.length := by simp [bvals]
theorem ivals_len (l : List Int) : (ivals l).length = l.length := by simp [ivals]
theorem ivals_snoc (l : List Int) (i : Int) : ivals l ++ [.int .i64 i] = ivals (l ++ [i]) := by simp [ivals]
theorem RC.bool {w : World} {A : Option Addr} {l : List Bool} (h : RC w A (bvals l)) (k : Nat) (hk : k < l.length) : ∃ ad, A = some ad ∧ w.cell? (ad.add k) = some (.bool l[k]) := by
  obtain ⟨ad, e, hc⟩ := h k (by rw [bvals_len]; exact hk)
  exact ⟨ad, e, by rw [hc]; simp [bvals]⟩
theorem RC.int {w : World} {A : Option Addr} {l : List Int} (h : RC w A (ivals l)) (k : Nat) (hk : k < l.length) : ∃ ad, A = some ad ∧ w.cell? (ad.add k) = some (.int .i64 l[k]) := by
  obtain ⟨ad, e, hc⟩ := h k (by rw [ivals_len]; exact hk)
  exact ⟨ad, e, by rw [hc]; simp [ivals]⟩
theorem OwnC.ints {w : World} {B : Nat} {e : TypeId} {v : Value} {l : List Int} (h : OwnC w B e v (ivals l)) : ∃ A c, v = .slice A l.length c ∧ l.length ≤ c ∧ c ≤ maxLen ∧ RC w A (ivals l) := by
  have := h.read
  rwa [ivals_len] at this
theorem OwnC.blk {w : World} {B : Nat} {e : TypeId} {v : Value} {l : List Value} (h : OwnC w B e v l) (hl : 0 < l.length) :
    ∃ g cap cur, v = .slice (some ⟨g, 0, none⟩) l.length cap ∧ B ≤ g ∧ Blk w g e cur ∧ l.length ≤ cap ∧ cap ≤ maxLen ∧ cur.size = cap ∧ cur.toList.take l.length = l := by
  obtain ⟨_, h | ⟨g, cap, cur, hv, hb, hg, hn, hc, hs, ht⟩⟩ := h
  · omega
  · exact ⟨g, cap, cur, hv, hb, hg, hn, hc, by omega, by rw [Nat.mul_one] at ht; exact ht⟩
theorem RC.of_blk {w : World} {g : Nat} {t : TypeId} {cs : Array Value} (h : Blk w g t cs) (l : List Value) (hl : cs.toList.take l.length = l) : RC w (some ⟨g, 0, none⟩) l := fun k hk => by
  refine ⟨_, rfl, ?_⟩
  have e : (cs.toList.take l.length)[k]? = l[k]? := by rw [hl]
  rw [List.getElem?_take_of_lt hk, List.getElem?_eq_getElem hk] at e
  rw [addr_add0, h.cell]
  simpa using e

end Go.Proofs.YtpmbpklbiocclaaGreat

/-
  A region that draws its order, gone through in one order: what hangs on S alone is taken first; a call comes up alone. Plain; no program is named here.
-/
namespace Go.Proofs.YtpmbpklbiocclaaGreat
open Go.RowKit

theorem setL : (∀ (t : Array Value) (d : List Deferred) (k : Tmp) (v : Value), Act.put ⟨t, d⟩ (some k) v = ⟨t.setIfInBounds k v, d⟩) ∧ (∀ (t : Array Value) (d : List Deferred) (v : Value), Act.put ⟨t, d⟩ none v = ⟨t, d⟩) ∧ (∀ (l : List Value) (k : Nat) (v : Value), l.toArray.setIfInBounds k v = (l.set k v).toArray) ∧ (∀ (x : Value) (l : List Value) (v : Value), (x :: l).set 0 v = v :: l) ∧ (∀ (x : Value) (l : List Value) (k : Nat) (v : Value), (x :: l).set (k + 1) v = x :: l.set k v) ∧ (∀ (x : Bool) (l : List Bool) (v : Bool), (x :: l).set 0 v = v :: l) ∧ (∀ (x : Bool) (l : List Bool) (k : Nat) (v : Bool), (x :: l).set (k + 1) v = x :: l.set k v) :=
  ⟨fun _ _ _ _ => rfl, fun _ _ _ => rfl, fun _ _ _ => List.setIfInBounds_toArray .., fun _ _ _ => rfl, fun _ _ _ _ => rfl, fun _ _ _ => rfl, fun _ _ _ _ => rfl⟩
section
variable {P : Program} {l : List Oper} {Q : Exit → Act → World → Prop} {S : World → Prop} {listed : List Bool} {n : Nat} {a : Act} {w : World}

def WH (P : Program) (l : List Oper) (Q : Exit → Act → World → Prop) (S : World → Prop) (listed : List Bool) (n : Nat) (a : Act) (w : World) : Prop :=
  wpAnyH P .any l.toArray Q S n listed.toArray a w

theorem WH.start {id : Nat} (listed : List Bool) (n : Nat) (hl : listed = List.replicate l.length false) (hn : l.length = n) (hm : P.follows .mixedOrders = true) (hS : S w.drew) (h : S w.drew → WH P l Q S listed n a w.drew) : (Code.region id l.toArray true).wp P Q a w :=
  wp_region_held_drew (S := S) hm hS fun hs => by
    have h' := h hs
    subst hl; subst hn
    have e : (List.replicate l.length false).toArray = Array.replicate l.toArray.size false := by simp
    unfold WH at h'
    rw [e] at h'
    simpa using h'

def takes (l : List Oper) (listed : List Bool) (i : Nat) : Bool := Region.noSelect l.toArray && Region.free .any l.toArray listed.toArray i && (Region.ready .any l.toArray listed.toArray).contains i

theorem WH.take (i : Nat) (o : Oper) (v : Value) (hi : l[i]? = some o) (ht : takes l listed i = true) (hQ : ∀ c a w, Q (.panic c) (a.put o.dst v) w → Q (.panic c) a w)
    (hw : Region.wanted o (yielded l.toArray a.tmps) = true) (hS : S w) (hy : ∀ w, S w → (execOp a.eval o).run P w = .ok (.value v) w)
    (h : WH P l Q S (listed.set i true) n (a.put o.dst v) w) : WH P l Q S listed (n + 1) a w := by
  simp only [takes, Bool.and_eq_true] at ht
  refine wpAnyH_take (i := i) (oi := o) (v := v) (by simpa using hi) ht.1.1 ht.1.2 ht.2 hQ (Or.inl ⟨hw, hy⟩) hS ?_
  unfold WH at h
  simpa using h
theorem WH.tk {v : Value} (i : Nat) {o : Oper} (h : WH P l Q S (listed.set i true) n (a.put o.dst v) w) (hi : l[i]? = some o := by exact rfl) (ht : takes l listed i = true := by kernel_rfl) (hQ : ∀ c a w, Q (.panic c) (a.put o.dst v) w → Q (.panic c) a w := by exact fun _ _ _ h => h)
    (hw : Region.wanted o (yielded l.toArray a.tmps) = true := by exact rfl) (hS : S w := by assumption) (hy : ∀ w, S w → (execOp a.eval o).run P w = .ok (.value v) w := by intro w hSw; (try dsimp only at hSw); first | (go_simp; done) | (go_simp; with_reducible rfl)) : WH P l Q S listed (n + 1) a w :=
  WH.take i o v hi ht hQ hw hS hy h
theorem WH.tv {v : Value} (i : Nat) {o : Oper} (hi : l[i]? = some o) (hy : ∀ w, S w → (execOp a.eval o).run P w = .ok (.value v) w) (h : WH P l Q S (listed.set i true) n (a.put o.dst v) w) (ht : takes l listed i = true := by kernel_rfl) (hQ : ∀ c a w, Q (.panic c) (a.put o.dst v) w → Q (.panic c) a w := by exact fun _ _ _ h => h)
    (hw : Region.wanted o (yielded l.toArray a.tmps) = true := by exact rfl) (hS : S w := by assumption) : WH P l Q S listed (n + 1) a w :=
  WH.take i o v hi ht hQ hw hS hy h
theorem WH.skip (i : Nat) (o : Oper) (hi : l[i]? = some o) (ht : takes l listed i = true) (hQ : ∀ c a w, Q (.panic c) (a.put o.dst undef) w → Q (.panic c) a w)
    (hw : Region.wanted o (yielded l.toArray a.tmps) = false) (hS : S w)
    (h : WH P l Q S (listed.set i true) n (a.put o.dst undef) w) : WH P l Q S listed (n + 1) a w := by
  simp only [takes, Bool.and_eq_true] at ht
  refine wpAnyH_take (i := i) (oi := o) (v := undef) (by simpa using hi) ht.1.1 ht.1.2 ht.2 hQ (Or.inr ⟨hw, rfl⟩) hS ?_
  unfold WH at h
  simpa using h

theorem WH.only (i : Nat) (o : Oper) (hi : l[i]? = some o) (hr : Region.ready .any l.toArray listed.toArray = [i]) (hw : Region.wanted o (yielded l.toArray a.tmps) = true)
    (h : ∀ K : Act → World → Prop, (∀ a' w', S w' → WH P l Q S (listed.set i true) n a' w' → K a' w') → o.wp P a w K Q) : WH P l Q S listed (n + 1) a w := by
  refine wpAnyH_all (rs := [i]) hr (by simp) fun j hj => ?_
  obtain rfl : j = i := by simpa using hj
  have hi' : l.toArray[j]? = some o := by simpa using hi
  unfold Go.wpOp
  simp only [hi', hw, if_true]
  refine Or.inl (h _ fun a' w' h1 h2 => ⟨h1, ?_⟩)
  unfold WH at h2
  simpa using h2
theorem WH.onlySkip (i : Nat) (o : Oper) (hi : l[i]? = some o) (hr : Region.ready .any l.toArray listed.toArray = [i]) (hw : Region.wanted o (yielded l.toArray a.tmps) = false) (hS : S w)
    (h : WH P l Q S (listed.set i true) n (a.put o.dst undef) w) : WH P l Q S listed (n + 1) a w := by
  refine wpAnyH_all (rs := [i]) hr (by simp) fun j hj => ?_
  obtain rfl : j = i := by simpa using hj
  have hi' : l.toArray[j]? = some o := by simpa using hi
  unfold Go.wpOp
  simp only [hi', hw]
  refine ⟨hS, ?_⟩
  unfold WH at h
  simpa using h

theorem WH.done (hr : Region.ready .any l.toArray listed.toArray = []) (h : Q .normal a w) : WH P l Q S listed n a w := wpAnyH_done hr h n
end

end Go.Proofs.YtpmbpklbiocclaaGreat
