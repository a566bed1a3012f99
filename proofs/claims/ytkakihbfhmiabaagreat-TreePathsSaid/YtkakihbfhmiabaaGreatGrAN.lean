/-
  Texts of this claim joined: VwC, FrdA.
-/
import Derived.Test.YtkakihbfhmiabaaGreatVw1
import Derived.Test.YtkakihbfhmiabaaGreatGrAM
import Derived.Test.YtkakihbfhmiabaaGreatGrAL
import Derived.Test.YtkakihbfhmiabaaGreatGrAD

/-
  What package view's functions tell, as contracts that the walks of layer 21's statements are given; the kind of an inode by value.
-/
namespace Go.Proofs.YtkakihbfhmiabaaGreat
open Go.RowKit
set_option maxRecDepth 10000

/-- A function value that tells blocks, or errors: noughts where it tells an error; in each world of which R holds. -/
def FGR (R : World → Prop) (get : Value) (T : Int → List UInt8) : Prop :=
  (get = .nilFunc ∧ ∀ no, T no = zeros 256) ∨
  (∃ (F : Nat) (p : Addr), get = .func (.func F) #[] #[.pointer (some p)] ∧ (∀ (args : Array Value) (w : World), (callFunc F args).run Tryz.prog w = .ok (.enter F args) w) ∧ ∀ (w' : World) (no : Int), R w' →
    Calls Tryz.prog F #[.int .i64 no, .pointer (some p)] w' fun e w'' => ∃ (X : List UInt8) (er : Int), e = .returned (.tuple #[.agg (bcells X), .int .i64 er]) ∧ X.length = 256 ∧ Below w'.heap.size w' w'' ∧ (er = 0 → X = T no) ∧ (er ≠ 0 → T no = zeros 256)) ∨
  ∃ (F : Nat) (p q : Addr), get = .func (.func F) #[] #[.pointer (some p), .pointer (some q)] ∧ (∀ (args : Array Value) (w : World), (callFunc F args).run Tryz.prog w = .ok (.enter F args) w) ∧ ∀ (w' : World) (no : Int), R w' →
    Calls Tryz.prog F #[.int .i64 no, .pointer (some p), .pointer (some q)] w' fun e w'' => ∃ (X : List UInt8) (er : Int), e = .returned (.tuple #[.agg (bcells X), .int .i64 er]) ∧ X.length = 256 ∧ Below w'.heap.size w' w'' ∧ (er = 0 → X = T no) ∧ (er ≠ 0 → T no = zeros 256)
/-- .. in whatever world comes behind this one. -/
def FG (w : World) (get : Value) (T : Int → List UInt8) : Prop := FGR (fun w' => Below w.heap.size w w') get T
theorem FV.one {w : World} {l : Lay14} {f : Value} {T : Int → List UInt8} (h : FV w l f T) : (vval l f).all (·.oneCell') = true := by
  rcases h with ⟨rfl, _⟩ | ⟨F, p, rfl, _⟩ <;> simp [vval, Value.oneCell']

theorem run_neq_lay_same (l : Lay14) (w : World) : (binOp .neq 41 (.agg l.val) (.agg l.val)).run Tryz.prog w = .ok (.bool false) w := by
  have h := run_eql_lay l l w
  rw [Lay14.eqB_self, run_eql_struct] at h
  rw [run_neq_struct]
  revert h
  generalize (Op.equalIn 10000 41 (.agg l.val) (.agg l.val)).run Tryz.prog w = r
  intro h
  cases r with
  | ok b w' =>
    simp only [Result.andThen_ok, Result.ok.injEq, Value.bool.injEq] at h ⊢
    exact ⟨by rw [h.1]; rfl, h.2⟩
  | halt x w' => simp [Result.andThen] at h
theorem run_eql_lay_same (l : Lay14) (w : World) : (binOp .eql 41 (.agg l.val) (.agg l.val)).run Tryz.prog w = .ok (.bool true) w := by
  have h := run_eql_lay l l w
  rwa [Lay14.eqB_self] at h
theorem run_neq_ino_same {V : List Int} (h : V.length = 11) (w : World) : (binOp .neq 59 (.agg (icells V)) (.agg (icells V))).run Tryz.prog w = .ok (.bool false) w := by
  rw [run_neq_ino V V h h]
  simp
theorem run_eql_ino_same {V : List Int} (h : V.length = 11) (w : World) : (binOp .eql 59 (.agg (icells V)) (.agg (icells V))).run Tryz.prog w = .ok (.bool true) w := by
  rw [run_eql_ino V V h h]
  simp
/-- The kind of an inode by value. -/
theorem run_field_kind {l : List Int} (hl : l.length = 11) (w : World) : (Instr.field 59 (.agg (icells l)) 0).run Tryz.prog w = .ok (.int .i64 (fld l 0)) w := by
  obtain ⟨a0, a1, a2, a3, a4, a5, a6, a7, a8, a9, a10, rfl⟩ := list_eleven hl
  have hag : (isAgg 3).run Tryz.prog w = .ok false w := by
    unfold isAgg
    rw [Sem.run_bind, run_underlying Tryz.underlying3 w]
    simp
  simp [Instr.field, run_underlying Tryz.underlying59, icells, fld, asAgg, part, hag]
section
variable {P : Program} {ops : Array Oper} {rest : List Oper} {o : Oper} {a : Act} {w : World} {Q : Exit → Act → World → Prop}
theorem exec_field {o : Oper} (t : TypeId) (x : Operand) (k : Nat) (ho : o.op = .field t x k) (v r : Value) (hx : a.eval x = v) (hrun : (Instr.field t v k).run P w = .ok r w) : (execOp a.eval o).run P w = .ok (.value r) w := by
  unfold execOp
  simp only [ho, hx, Sem.run_bind, hrun, Result.andThen_ok]
  rfl
theorem wpList_field (hgd : Region.wanted o (yielded ops a.tmps) = true) (t : TypeId) (x : Operand) (k : Nat) (ho : o.op = .field t x k) (v r : Value) (hx : a.eval x = v) (hrun : (Instr.field t v k).run P w = .ok r w)
    (h : wpList P ops Q rest (a.put o.dst r) w) : wpList P ops Q (o :: rest) a w := by
  refine wpList_wanted hgd fun K hK => ?_
  unfold Oper.wp
  rw [exec_field t x k ho v r hx hrun]
  exact hK _ _ h
end

end Go.Proofs.YtkakihbfhmiabaaGreat

/-
  What a file of a view has, byte by byte; the pieces of blocks that bytes are in. Plain; no program is named here.
-/
namespace Go.Proofs.YtkakihbfhmiabaaGreat
open Go.RowKit

/-- 23.1: the size of a file, as it counts. -/
def sizeR (X : List Int) : Nat := if fld X 0 = 1 then (min (max (fld X 2) 0) 34304).toNat else 0
theorem sizeR_le (X : List Int) : sizeR X ≤ 34304 := by unfold sizeR; split <;> omega
theorem sizeR_yes {X : List Int} (h : fld X 0 = 1) : min (max (fld X 2) 0) 34304 = ((sizeR X : Nat) : Int) := by unfold sizeR; rw [if_pos h]; omega
theorem sizeR_no {X : List Int} (h : fld X 0 ≠ 1) : sizeR X = 0 := if_neg h

section
variable {l : Lay14} {T : Int → List UInt8} {X : List Int}
/-- The byte p. -/
def byteR (l : Lay14) (T : Int → List UInt8) (X : List Int) (p : Nat) : UInt8 := if atF l T X (p / 256) = 0 then 0 else (vBk l T (atF l T X (p / 256))).getD (p % 256) 0
/-- The bytes from off on, m of them. -/
def segR (l : Lay14) (T : Int → List UInt8) (X : List Int) (off m : Nat) : List UInt8 := (List.range m).map fun j : Nat => byteR l T X (off + j)
theorem segR_len (off m : Nat) : (segR l T X off m).length = m := by unfold segR; rw [List.length_map, List.length_range]
theorem segR_nil (off : Nat) : segR l T X off 0 = [] := rfl
theorem segR_at (off : Nat) {m j : Nat} (h : j < m) : (segR l T X off m)[j]? = some (byteR l T X (off + j)) := by
  unfold segR
  rw [List.getElem?_map, List.getElem?_range h]
  rfl
theorem segR_end (off : Nat) {m j : Nat} (h : m ≤ j) : (segR l T X off m)[j]? = none := List.getElem?_eq_none (by rw [segR_len]; exact h)
/-- 23.3: two parts. -/
theorem segR_add (off m k : Nat) : segR l T X off m ++ segR l T X (off + m) k = segR l T X off (m + k) := by
  apply List.ext_getElem?
  intro j
  by_cases h1 : j < m
  · rw [List.getElem?_append_left (by rw [segR_len]; exact h1), segR_at _ h1, segR_at _ (show j < m + k by omega)]
  · rw [List.getElem?_append_right (by rw [segR_len]; omega), segR_len]
    by_cases h2 : j < m + k
    · rw [segR_at _ (show j - m < k by omega), segR_at _ h2, show off + m + (j - m) = off + j from by omega]
    · rw [segR_end _ (show k ≤ j - m by omega), segR_end _ (show m + k ≤ j by omega)]
/-- .. within one block. -/
theorem segR_hole {k pl m : Nat} (h : pl + m ≤ 256) (h0 : atF l T X k = 0) : segR l T X (256 * k + pl) m = zeros m := by
  apply List.ext_getElem?
  intro j
  by_cases hj : j < m
  · rw [segR_at _ hj]
    have e : (256 * k + pl + j) / 256 = k := by omega
    unfold byteR
    rw [e, if_pos h0]
    unfold zeros
    rw [List.getElem?_replicate, if_pos hj]
  · rw [segR_end _ (by omega), List.getElem?_eq_none (by rw [zeros_len]; omega)]
theorem segR_block {k pl m : Nat} (h : pl + m ≤ 256) (h0 : atF l T X k ≠ 0) (hL : (vBk l T (atF l T X k)).length = 256) : segR l T X (256 * k + pl) m = ((vBk l T (atF l T X k)).drop pl).take m := by
  apply List.ext_getElem?
  intro j
  by_cases hj : j < m
  · rw [segR_at _ hj]
    have e1 : (256 * k + pl + j) / 256 = k := by omega
    have e2 : (256 * k + pl + j) % 256 = pl + j := by omega
    unfold byteR
    rw [e1, e2, if_neg h0, List.getElem?_take_of_lt hj, List.getElem?_drop, List.getD_eq_getElem?_getD, List.getElem?_eq_getElem (by omega)]
    rfl
  · rw [segR_end _ (by omega), List.getElem?_eq_none (by rw [List.length_take, List.length_drop]; omega)]
end
/-- 23.1: what is read. -/
def readR (l : Lay14) (T : Int → List UInt8) (X : List Int) (off n : Int) : List UInt8 := if off < 0 then [] else segR l T X off.toNat (min n ((sizeR X : Nat) - off)).toNat

/-! 23.2: the bytes from o to e, o and e numbers; as pieces of blocks. -/
/-- Where the k-th piece begins. -/
def posS (o e k : Nat) : Nat := if k = 0 then o else min e (256 * (o / 256 + k))
/-- How many there are. -/
def numS (o e : Nat) : Nat := if o < e then (e + 255) / 256 - o / 256 else 0
/-- The k-th piece. -/
def pcS (o e k : Nat) : List Int := [((o / 256 + k : Nat) : Int), ((posS o e k % 256 : Nat) : Int), ((min (256 - posS o e k % 256) (e - posS o e k) : Nat) : Int)]
def spnS (o e n : Nat) : List (List Int) := (List.range n).map fun k : Nat => pcS o e k
theorem spnS_len (o e n : Nat) : (spnS o e n).length = n := by unfold spnS; rw [List.length_map, List.length_range]
theorem spnS_next (o e n : Nat) : spnS o e (n + 1) = spnS o e n ++ [pcS o e n] := by unfold spnS; rw [List.range_succ, List.map_append]; rfl
theorem spnS_at (o e : Nat) {n k : Nat} (h : k < n) : (spnS o e n)[k]? = some (pcS o e k) := by
  unfold spnS
  rw [List.getElem?_map, List.getElem?_range h]
  rfl
section
variable {o e k : Nat}
theorem posS_lt (h : k < numS o e) : posS o e k < e := by
  unfold numS at h
  unfold posS
  split at h
  · split <;> omega
  · omega
theorem posS_end : e ≤ posS o e (numS o e) := by
  unfold numS posS
  split
  · rw [if_neg (by omega)]; omega
  · rw [if_pos rfl]; omega
theorem posS_ge (h : o ≤ e) : o ≤ posS o e k := by
  unfold posS
  split <;> omega
theorem posS_div (h : k < numS o e) : posS o e k / 256 = o / 256 + k := by
  have := posS_lt h
  unfold posS at this ⊢
  split
  · subst k; omega
  · rw [if_neg (by assumption)] at this
    omega
theorem posS_next (h : k < numS o e) : posS o e (k + 1) = posS o e k + min (256 - posS o e k % 256) (e - posS o e k) := by
  have h1 := posS_lt h
  have h2 := posS_div h
  have h3 : posS o e (k + 1) = min e (256 * (o / 256 + (k + 1))) := by unfold posS; rw [if_neg (by omega)]
  omega
theorem numS_le (h : e ≤ 34304) : numS o e ≤ 134 := by unfold numS; split <;> omega
theorem posS_le (h : o ≤ e) : posS o e k ≤ e := by unfold posS; split <;> omega
end
/-- The ends that count, of an off and an n. -/
def loS (off : Int) : Nat := (max off 0).toNat
def hiS (off n : Int) : Int := max off 0 + min n (34304 - max off 0)
theorem hiS_le (off n : Int) : hiS off n ≤ 34304 := by unfold hiS; omega
def spansS (off n : Int) : List (List Int) := spnS (loS off) (hiS off n).toNat (numS (loS off) (hiS off n).toNat)

/-! .. byte by byte. -/
def allS (o p : Nat) : List (List Int) := spnS o p (numS o p)
theorem spnS_congr {o e e' n : Nat} (h : ∀ k, k < n → pcS o e k = pcS o e' k) : spnS o e n = spnS o e' n := by
  unfold spnS
  exact List.map_congr_left fun k hk => h k (List.mem_range.1 hk)
theorem allS_nil {o p : Nat} (h : p ≤ o) : allS o p = [] := by
  unfold allS numS
  rw [if_neg (by omega)]
  rfl
theorem numS_yes {o p : Nat} (h : o < p) : numS o p = (p + 255) / 256 - o / 256 := if_pos h
theorem pcS_same {o p k : Nat} (h : k < numS o p) (h2 : k + 1 < numS o p ∨ p % 256 = 0) : pcS o (p + 1) k = pcS o p k := by
  have hlt : o < p := by
    unfold numS at h
    split at h <;> omega
  rw [numS_yes hlt] at h h2
  have e : posS o (p + 1) k = posS o p k := by
    unfold posS
    split
    · rfl
    · omega
  have e2 : min (256 - posS o p k % 256) (p + 1 - posS o p k) = min (256 - posS o p k % 256) (p - posS o p k) := by
    unfold posS
    split <;> omega
  unfold pcS
  rw [e, e2]
theorem allS_step {o p : Nat} (h0 : o ≤ p) : ∃ (M : List (List Int)) (a b x : Int), 0 ≤ x ∧ x ≤ 255 ∧ (if p = o ∨ p % 256 = 0 then allS o p ++ [[((p / 256 : Nat) : Int), ((p % 256 : Nat) : Int), 0]] else allS o p) = M ++ [[a, b, x]] ∧ allS o (p + 1) = M ++ [[a, b, x + 1]] := by
  by_cases h : p = o ∨ p % 256 = 0
  · rw [if_pos h]
    refine ⟨allS o p, _, _, _, by omega, by omega, rfl, ?_⟩
    have hn : numS o (p + 1) = numS o p + 1 := by
      rw [numS_yes (show o < p + 1 by omega)]
      unfold numS
      split <;> omega
    unfold allS
    rw [hn, spnS_next]
    congr 1
    · refine spnS_congr fun k hk => pcS_same hk ?_
      rcases h with h | h
      · subst h
        rw [show numS p p = 0 from if_neg (by omega)] at hk
        omega
      · exact Or.inr h
    · have hp : posS o (p + 1) (numS o p) = p := by
        unfold posS numS
        split <;> split <;> omega
      have hk : o / 256 + numS o p = p / 256 := by
        unfold numS
        split <;> omega
      unfold pcS
      rw [hp, hk, show min (256 - p % 256) (p + 1 - p) = 1 from by omega]
      rfl
  · rw [if_neg h]
    have hlt : o < p := by omega
    have hm : ∃ m, numS o p = m + 1 := ⟨numS o p - 1, by rw [numS_yes hlt]; omega⟩
    obtain ⟨m, hm⟩ := hm
    have hm2 : numS o (p + 1) = m + 1 := by
      rw [← hm, numS_yes hlt, numS_yes (show o < p + 1 by omega)]
      omega
    have hme := numS_yes hlt
    have hp : posS o (p + 1) m = posS o p m := by
      unfold posS
      split <;> omega
    have hx : min (256 - posS o p m % 256) (p + 1 - posS o p m) = min (256 - posS o p m % 256) (p - posS o p m) + 1 := by
      unfold posS
      split <;> omega
    have hx2 : min (256 - posS o p m % 256) (p - posS o p m) ≤ 255 := by
      unfold posS
      split <;> omega
    refine ⟨spnS o p m, ((o / 256 + m : Nat) : Int), ((posS o p m % 256 : Nat) : Int), ((min (256 - posS o p m % 256) (p - posS o p m) : Nat) : Int), by omega, by omega, ?_, ?_⟩
    · unfold allS
      rw [hm, spnS_next]
      rfl
    · unfold allS
      rw [hm2, spnS_next]
      congr 1
      · refine spnS_congr fun k hk => pcS_same (by omega) (Or.inl (by omega))
      · unfold pcS
        rw [hp, hx]
        rfl
theorem spansS_all (off n : Int) : spansS off n = allS (loS off) (hiS off n).toNat := rfl

end Go.Proofs.YtkakihbfhmiabaaGreat
