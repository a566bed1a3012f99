/-
  Words for lists of one-cell values in memory: a slice that reads as a list, a slice of the call's own. Plain; no program is named here.
-/
import Derived.Test.YtennkfpehdijcaaBase
import Derived.SliceStrings
namespace Go.Proofs.Ytennkfpehdijcaa
open Go.RowKit

/-- A slice value with this address reads as these cells. -/
def RC (w : World) (A : Option Addr) (l : List Value) : Prop :=
  ∀ k (h : k < l.length), ∃ ad, A = some ad ∧ w.cell? (ad.add k) = some l[k]
theorem RC.below {w w' : World} {A : Option Addr} {l : List Value} (h : RC w A l) (hb : Below w.heap.size w w') : RC w' A l := fun k hk => by
  obtain ⟨ad, e, hc⟩ := h k hk
  refine ⟨ad, e, ?_⟩
  rw [hb.cell (block_lt_of_cell hc), hc]
theorem RC.nil_ (w : World) (A : Option Addr) : RC w A [] := fun k h => absurd h (by simp)
/-- A slice value of the call's own (no block below B) that reads as these cells. -/
def OwnC (w : World) (B : Nat) (e : TypeId) (v : Value) (l : List Value) : Prop := w.ownsRow B e 1 v l.length l
theorem OwnC.nil_ (w : World) (B : Nat) (e : TypeId) : OwnC w B e (.slice none 0 0) [] := World.ownsRow_nil w B e 1
theorem OwnC.read {w : World} {B : Nat} {e : TypeId} {v : Value} {l : List Value} (h : OwnC w B e v l) : ∃ A c, v = .slice A l.length c ∧ l.length ≤ c ∧ c ≤ maxLen ∧ RC w A l := by
  obtain ⟨hl, h | ⟨g, cap, cur, hv, hb, hg, hn, hc, hs, ht⟩⟩ := h
  · refine ⟨none, 0, by rw [h.1, h.2], by omega, by unfold maxLen; omega, ?_⟩
    have : l = [] := List.eq_nil_of_length_eq_zero h.2
    subst this
    exact RC.nil_ _ _
  · refine ⟨_, cap, hv, hn, hc, fun k hk => ⟨_, rfl, ?_⟩⟩
    have h2 : (cur.toList.take (l.length * 1))[k]? = l[k]? := by rw [ht]
    rw [List.getElem?_take_of_lt (by omega), List.getElem?_eq_getElem hk] at h2
    rw [addr_add0, cell_of_row w g k cur e (0, 0) hg]
    simpa using h2
theorem OwnC.lt {w : World} {B : Nat} {e : TypeId} {v : Value} {l : List Value} (h : OwnC w B e v l) : ∀ k, v.ownBlock = some k → B ≤ k ∧ k < w.heap.size := World.ownsRow.lt h
theorem OwnC.ext {w w' : World} {B : Nat} {e : TypeId} {v : Value} {l : List Value} (h : OwnC w B e v l) (hb : Below w.heap.size w w') : OwnC w' B e v l := by
  obtain ⟨hl, h | ⟨g, cap, cur, hv, hbg, hg, h⟩⟩ := h
  · exact ⟨hl, Or.inl h⟩
  · exact ⟨hl, Or.inr ⟨g, cap, cur, hv, hbg, Blk.ext hg hb, h⟩⟩
theorem OwnC.low {w : World} {B B' : Nat} {e : TypeId} {v : Value} {l : List Value} (h : OwnC w B e v l) (hb : B' ≤ B) : OwnC w B' e v l := by
  obtain ⟨hl, h | ⟨g, cap, cur, hv, hbg, h⟩⟩ := h
  · exact ⟨hl, Or.inl h⟩
  · exact ⟨hl, Or.inr ⟨g, cap, cur, hv, Nat.le_trans hb hbg, h⟩⟩
/-- No block is both's. -/
def Apart (u v : Value) : Prop := ∀ k, u.ownBlock = some k → v.ownBlock ≠ some k
theorem Apart.nil_ (v : Value) : Apart (.slice none 0 0) v := fun k h => by simp [Value.ownBlock] at h
theorem Apart.symm {u v : Value} (h : Apart u v) : Apart v u := fun k h1 h2 => h k h2 h1
/-- What an append to v leaves: v' in its place, and all others' as they were. -/
structure Added (w w' : World) (B : Nat) (v v' : Value) : Prop where
  below : Below B w w'
  keep : ∀ B' e u l, OwnC w B' e u l → Apart u v → OwnC w' B' e u l ∧ Apart u v'

section
variable {P : Program} {ops : Array Oper} {rest : List Oper} {o : Oper} {a : Act} {w : World} {Q : Exit → Act → World → Prop}

theorem run_append_one (P : Program) (w : World) (t ty e : TypeId) (ht : P.underlying t = some (.slice e)) (z : Value) (by_ : Nat) (hi : (P.info? e).map (fun i => (i.zero, i.size, i.bytes)) = some (some z, 1, by_)) (hz : z.cells.size = 1)
    (B : Nat) (v : Value) (l : List Value) (hown : OwnC w B e v l) (X : Value) (hX : X.oneCell' = true) (ad : Addr) (c : Nat) (hc : w.cell? ad = some X) (hB : B ≤ w.heap.size) (hlen : l.length + 1 ≤ maxLen) (hby : (l.length + 1) * by_ ≤ 140737488355328) :
    ∃ v' w', (Builtin.append_ #[t, t] ty #[v, .slice (some ad) 1 c]).run P w = .ok v' w' ∧ OwnC w' B e v' (l ++ [X]) ∧ w.grownBy w' v.ownBlock ∧ (v'.ownBlock = v.ownBlock ∨ v'.ownBlock = some w.heap.size) := by
  obtain ⟨i, h1, h2, h3, h4⟩ := info_parts hi
  have hnews : ∀ j u, [X][j]? = some u → w.cell? (ad.add j) = some u := fun j u hj => by
    match j, hj with
    | 0, hj =>
      simp at hj
      subst hj
      exact hc
  have h5 : ∀ u ∈ [X], u.oneCell' = true := fun u hu => by
    simp at hu
    subst hu
    exact hX
  have hlm : l.length + 1 ≤ 9223372036854775807 := by unfold maxLen at hlen; omega
  obtain ⟨v', w', hr, ho, hg, _⟩ := run_append_own (P := P) w B t ty e i z 1 by_ ht h1 h2 h3 h4 hz (by omega) v l.length l hown ad 1 c [X] rfl hnews h5 hlen hby hB
  have e1 : (l ++ [X]).length = l.length + 1 := by simp
  refine ⟨v', w', hr, by unfold OwnC; rw [e1]; exact ho, hg, ?_⟩
  obtain ⟨hl, ⟨rfl, hn⟩ | ⟨g, cap, cur, rfl, hbg, hgr, hnc, hcm, hcs, htk⟩⟩ := id hown
  · have hb1 : 1 * by_ ≤ 140737488355328 := Nat.le_trans (Nat.mul_le_mul_right by_ (by omega)) hby
    have hr' := run_append_nil (P := P) w t ty e i z ht h1 h2 ad 1 c [X] (by rw [h3]; rfl) hnews (by omega) (by omega) (by rw [h4]; omega)
    rw [hr] at hr'
    injection hr' with e2 _
    right
    rw [e2]
    rfl
  · by_cases hroom : l.length + 1 ≤ cap
    · have hr' := run_append_room (P := P) w t ty e i ht h1 g l.length cap cur hgr ad 1 c [X] (by rw [h3]; rfl) hnews h5 hroom (by rw [h3, hcs]; simp; omega)
      rw [hr] at hr'
      injection hr' with e2 _
      left
      rw [e2]
      rfl
    · have holds : ∀ j u, l[j]? = some u → w.cell? ((⟨g, 0, none⟩ : Addr).add j) = some u := hown.cells (g := g) rfl
      have hr' := run_append_grow (P := P) w t ty e i z ht h1 h2 ⟨g, 0, none⟩ l.length cap l (by rw [h3]; simp) holds ad 1 c [X] (by rw [h3]; rfl) hnews (by omega) (by omega) (by rw [h4]; exact growslice_fits (by omega) hby)
      rw [hr] at hr'
      injection hr' with e2 _
      right
      rw [e2]
      rfl

/-- append of one value, boxed just ahead. -/
theorem wpList_append_one (hgd : Region.wanted o (yielded ops a.tmps) = true) (s x : Operand) (t e : TypeId) (ho : o.op = .call { callee := .builtin .append, args := #[s, x], argTypes := #[t, t] })
    (ht : P.underlying t = some (.slice e)) (z : Value) (by_ : Nat) (hi : (P.info? e).map (fun i => (i.zero, i.size, i.bytes)) = some (some z, 1, by_)) (hz : z.cells.size = 1)
    (B : Nat) (v : Value) (l : List Value) (hs : a.eval s = v) (hown : OwnC w B e v l) (X : Value) (hX : X.oneCell' = true) (hx : a.eval x = .slice (some ⟨w.heap.size, 0, none⟩) 1 1)
    (hB : B ≤ w.heap.size) (hlen : l.length + 1 ≤ maxLen) (hby : (l.length + 1) * by_ ≤ 140737488355328)
    (h : Stop (∀ v' w', Hid (OwnC w' B e v' (l ++ [X])) → Hid (Added w w' B v v') → wpList P ops Q rest (a.put o.dst v') w')) : wpList P ops Q (o :: rest) a (w.alloc (.cells #[X] e)) := by
  refine wpList_wanted hgd fun K hK => ?_
  obtain ⟨v', w', hr, h1, h2, h3⟩ := run_append_one P (w.alloc (.cells #[X] e)) t o.type e ht z by_ hi hz B v l (World.ownsRow.alloc hown _) X hX ⟨w.heap.size, 0, none⟩ 1 (by have h := cell_one_new w X e 0 X rfl; rwa [addr_add0] at h) (by simp; omega) hlen hby
  unfold Oper.wp execOp
  simp only [ho, resolve, invoke, builtin, Sem.run_bind, Sem.run_pure, Result.andThen_ok, List.map_toArray, List.map_cons, List.map_nil, hs, hx, hr]
  refine hK _ _ (h v' w' h1 ⟨?_, fun B' e' u m hu hap => ⟨?_, fun k hk => ?_⟩⟩)
  · refine (((Below.refl B w).alloc (by omega) _)).grown h2 (by simp; omega) ?_
    intro k hk
    exact (hown.lt k hk).1
  · refine World.ownsRow.kept (World.ownsRow.alloc hu _) h2 ?_
    cases hb : u.ownBlock with
    | none => exact Or.inl rfl
    | some k => exact Or.inr fun e => hap k hb e.symm
  · have hlt := (hu.lt k hk).2
    rcases h3 with h3 | h3 <;> rw [h3]
    · exact hap k hk
    · simp
      omega
end

/-! Lists of texts. -/
def svals (l : List ByteArray) : List Value := l.map Value.string
theorem svals_len (l : List ByteArray) : (svals l).length = l.length := by simp [svals]
theorem svals_snoc (l : List ByteArray) (s : ByteArray) : svals l ++ [.string s] = svals (l ++ [s]) := by simp [svals]
theorem RC.str {w : World} {A : Option Addr} {l : List ByteArray} (h : RC w A (svals l)) (k : Nat) (hk : k < l.length) : ∃ ad, A = some ad ∧ w.cell? (ad.add k) = some (.string l[k]) := by
  obtain ⟨ad, e, hc⟩ := h k (by rw [svals_len]; exact hk)
  exact ⟨ad, e, by rw [hc]; simp [svals]⟩
theorem OwnC.strs {w : World} {B : Nat} {e : TypeId} {v : Value} {l : List ByteArray} (h : OwnC w B e v (svals l)) : ∃ A c, v = .slice A l.length c ∧ l.length ≤ c ∧ c ≤ maxLen ∧ RC w A (svals l) := by
  have := h.read
  rwa [svals_len] at this
theorem bytes_eq (s t : ByteArray) : (s.toList == t.toList) = decide (s = t) := by
  rw [Bool.eq_iff_iff, ByteArray.toList_eq, ByteArray.toList_eq]
  simp only [beq_iff_eq, decide_eq_true_eq]
  exact ⟨fun h => Go.WideShapes.bytes_inj h, fun h => by rw [h]⟩

end Go.Proofs.Ytennkfpehdijcaa
