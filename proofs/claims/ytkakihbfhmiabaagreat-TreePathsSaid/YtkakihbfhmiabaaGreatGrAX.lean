/-
  Texts of this claim joined: Name3, AppN.
-/
import Derived.Test.YtkakihbfhmiabaaGreatShelf
import Derived.Test.YtkakihbfhmiabaaGreatGrAY
import Derived.Sort.OwnSorted
import Derived.Sort.Grow
import Derived.Lib.OwnBridge
import Derived.Test.YtkakihbfhmiabaaGreatGrAJ
import Derived.Test.YtkakihbfhmiabaaGreatGrAU

/-
  Contracts of package name's Sort and Place, by the library's contracts.
-/
namespace Go.Proofs.YtkakihbfhmiabaaGreat
open Go.RowKit Go.Shelf Go.Sort

/-- What the three calls of the library leave. -/
theorem sorted_own {w w1 : World} {g cap n nn q : Nat} {os : Array Obj} {ss : List (List UInt8)} (hown : w1.ownsRow w.heap.size 9 1 (.slice (some ⟨g, 0, none⟩) n cap) n (ss.map encStr)) (hbel : Below w.heap.size w w1) (hbg : w.heap.size ≤ g) (hlen : ss.length = n) :
    (putRow encStr (Sort.ahead (grow (putRow encStr (Sort.ahead w1 nn) g 0 (ss.mergeSort fun x y => decide (x ≤ y)).toArray) os) q) g 0 (sortL ss ++ List.replicate (n - (sortL ss).length) []).toArray).ownsRow w.heap.size 9 1 (.slice (some ⟨g, 0, none⟩) (sortL ss).length cap) (sortL ss).length ((sortL ss).map encStr) ∧
    Below w.heap.size w (putRow encStr (Sort.ahead (grow (putRow encStr (Sort.ahead w1 nn) g 0 (ss.mergeSort fun x y => decide (x ≤ y)).toArray) os) q) g 0 (sortL ss ++ List.replicate (n - (sortL ss).length) []).toArray) := by
  have hl2 : (ss.mergeSort fun x y => decide (x ≤ y)).length = ss.length := List.length_mergeSort ss
  have hle : (sortL ss).length ≤ (ss.mergeSort fun x y => decide (x ≤ y)).length := Lib.compact_length_le _
  subst hlen
  rcases hown.2 with ⟨h0, _⟩ | ⟨g', cap', cur, hv, hbase, hb, h1, h2, h3, h4⟩
  · cases h0
  cases hv
  have hs := ownsRow_sorted (n := nn) (os := os) (ts := ss.mergeSort fun x y => decide (x ≤ y)) hl2 hbase hb h1 h2 h3
  have hc := Lib.ownsRow_putRow (q := q) (k := (sortL ss).length) (ys := sortL ss ++ List.replicate (ss.length - (sortL ss).length) []) hs (by simp; omega) (by omega)
  rw [List.take_left] at hc
  exact ⟨hc, Lib.below_putRow (hbel.grown (grownBy_sorted _) hbel.size (fun j hj => by cases hj; exact hbase)) hbg⟩

set_option maxHeartbeats 2000000 in
/-- Whatever the argument is, if a copy of it is a list of the call's own. -/
theorem nsort_tail (n : Nat) (arg : Value) (ss : List (List UInt8)) (w : World) (hn : n ≤ 4611686018427387903)
    (hclone : Calls Tryz.prog 55 #[arg] w fun e w' => ∃ v', e = .returned v' ∧ w'.ownsRow w.heap.size 9 1 v' n (ss.map encStr) ∧ v' ≠ .slice none 0 0 ∧ Below w.heap.size w w') :
    Calls Tryz.prog 30 #[arg] w fun e w' => ∃ u, e = .returned u ∧ w'.ownsRow w.heap.size 9 1 u (sortL ss).length ((sortL ss).map encStr) ∧ Below w.heap.size w w' := by
  go_enter Tryz.func30, Tryz.ntmps30
  go_wp2_with fail
  refine (hclone).mono ?_; rintro e w1 ⟨v1, rfl, hown, hnn, hbel⟩
  obtain ⟨g, cap, rfl, hbg, hgl, hncap, hcm, hlen, hH⟩ := Lib.holds_of_ownsRow hown hnn
  have hsort := Any.slices_Sort_string laysSort g 0 cap ss w1 hH hgl (by omega)
  rw [hlen] at hsort
  have X := Lib.hid (And.intro hown (And.intro hbel hH))
  clear hown hbel hH hnn
  go_wp2_with fail
  refine (hsort).mono ?_; rintro e w2 ⟨rfl, nn, os, rfl⟩
  clear hsort
  have hl2 : (ss.mergeSort fun x y => decide (x ≤ y)).length = n := by rw [List.length_mergeSort]; exact hlen
  have hH2 : Holds encStr (grow (putRow encStr (Sort.ahead w1 nn) g 0 (ss.mergeSort fun x y => decide (x ≤ y)).toArray) os) g 0 (ss.mergeSort fun x y => decide (x ≤ y)).toArray :=
    holds_grow encStr _ os g 0 _ (by simpa [putRow, mapBlock, Sort.ahead] using hgl) (holds_putRow encStr _ g 0 _ _ (holds_ahead encStr w1 nn g 0 _ X.out.2.2) (by simp))
  have hcomp := Any.slices_Compact_string laysCompact g 0 cap (ss.mergeSort fun x y => decide (x ≤ y)) _ hH2 (by omega) (by omega)
  rw [hl2] at hcomp
  have Hfin : Hid (∀ q, _) := Lib.hid fun q => sorted_own (q := q) (nn := nn) (os := os) X.out.1 X.out.2.1 hbg hlen
  clear hH2
  generalize grow (putRow encStr (Sort.ahead w1 nn) g 0 (ss.mergeSort fun x y => decide (x ≤ y)).toArray) os = w2 at *
  go_wp2_with fail
  refine (hcomp).mono ?_; rintro e w3 ⟨rfl, q, rfl⟩
  go_wp2_with fail
  go_ret
  exact ⟨_, rfl, (Hfin.out q).1, (Hfin.out q).2⟩

theorem own_of_sortL {w : World} {B : Nat} {u : Value} {l : List ByteArray} (h : w.ownsRow B 9 1 u (sortL (l.map (·.data.toList))).length ((sortL (l.map (·.data.toList))).map encStr)) : OwnC w B 9 u (svals (sortS l)) := by
  unfold OwnC
  rw [svals_sortS, List.length_map]
  exact h
theorem sortS_nil : sortS [] = [] := List.eq_nil_of_length_eq_zero (Nat.le_zero.1 (sortS_len []))
set_option maxHeartbeats 2000000 in
theorem nsort_any (A : Option Addr) (n cap : Nat) (l : List ByteArray) (hn : l.length = n) (hm : n ≤ 100000) (w : World) (hr : RC w A (svals l)) :
    Calls Tryz.prog 30 #[.slice A n cap] w fun e w' => ∃ u, e = .returned u ∧ OwnC w' w.heap.size 9 u (svals (sortS l)) ∧ Below w.heap.size w w' := by
  subst hn
  cases A with
  | none =>
    have h0 : l = [] := by
      cases l with
      | nil => rfl
      | cons x l =>
        obtain ⟨ad, e, _⟩ := hr.str 0 (by simp)
        cases e
    subst h0
    rw [sortS_nil]
    go_enter Tryz.func30, Tryz.ntmps30
    go_wp2_with fail
    refine (Any.slices_Clone_string_nil laysClone 0 cap w).mono ?_; rintro e wx ⟨rfl, rfl⟩
    go_wp2_with fail
    refine (Any.slices_Sort_string_none laysSort none 0 _).mono ?_; rintro e wx ⟨rfl, rfl⟩
    go_wp2_with fail
    refine (Any.slices_Compact_string_empty laysCompact none 0 _).mono ?_; rintro e wx ⟨rfl, rfl⟩
    go_wp2_with fail
    go_ret
    exact ⟨_, rfl, OwnC.nil_ _ _ _, Below.refl _ _⟩
  | some a =>
    by_cases h0 : l = []
    · subst h0
      refine (nsort_tail 0 _ [] w (by omega) (Any.slices_Clone_string_zero laysClone a cap w)).mono fun e w' ⟨u, he, ho, hb⟩ => ⟨u, he, own_of_sortL (l := []) ho, hb⟩
    · have hpos : 0 < l.length := List.length_pos_iff.2 h0
      obtain ⟨b, off, spot⟩ := a
      obtain ⟨ad, e, hc0⟩ := hr.str 0 hpos
      injection e with e
      subst e
      have hspot : spot = none := by simpa [Addr.add] using World.cell?_spot hc0
      subst hspot
      refine (nsort_tail l.length _ (l.map (·.data.toList)) w (by omega) ?_).mono fun e w' ⟨u, he, ho, hb⟩ => ⟨u, he, own_of_sortL ho, hb⟩
      refine (Any.slices_Clone_string laysClone b off l.length cap l w (Nat.le_refl _) (by omega) fun j hj => ?_).mono fun e w' ⟨v, he, ho, hv, hb⟩ => ⟨v, he, ?_, hv, hb⟩
      · obtain ⟨ad', e', hc⟩ := hr.str j hj
        injection e' with e'
        subst e'
        rw [WideShapes.add_plain] at hc
        rw [hc]
        simp [List.getD, hj]
      · rw [Lib.map_encStr]
        rw [List.take_of_length_le (Nat.le_refl _)] at ho
        exact ho


end Go.Proofs.YtkakihbfhmiabaaGreat

/-
  Rows appended to rows of the call's own, as many as there are; an empty slice made. Plain; no program is named here.
-/
namespace Go.Proofs.YtkakihbfhmiabaaGreat
open Go.RowKit

section
variable {P : Program} {ops : Array Oper} {rest : List Oper} {o : Oper} {a : Act} {w : World} {K : Act → World → Prop} {Q : Exit → Act → World → Prop}
theorem run_append_rows (P : Program) (w : World) (t ty e : TypeId) (ht : P.underlying t = some (.slice e)) (N by_ : Nat) (z : Value) (hi : (P.info? e).map (fun i => (i.zero, i.size, i.bytes)) = some (some z, N, by_)) (hz : z.cells.size = N) (h0 : 0 < N)
    (B : Nat) (v : Value) (L : List (List Value)) (hown : OwnN w B e N v L) (A : Option Addr) (n c : Nat) (M : List (List Value)) (hM : ∀ r ∈ M, r.length = N ∧ ∀ u ∈ r, u.oneCell' = true) (hn : M.length = n) (hr : RN w A N M) (hB : B ≤ w.heap.size) (hlen : L.length + n ≤ 140737488355328) (hby : (L.length + n) * by_ ≤ 140737488355328) :
    ∃ v' w', (Builtin.append_ #[t, t] ty #[v, .slice A n c]).run P w = .ok v' w' ∧ OwnN w' B e N v' (L ++ M) ∧ w.grownBy w' v.ownBlock := by
  obtain ⟨i, h1, h2, h3, h4⟩ := info_parts hi
  have hM1 : ∀ r ∈ M, r.length = N := fun r hr => (hM r hr).1
  have hLM : ∀ r ∈ L ++ M, r.length = N := fun r hr => by
    rcases List.mem_append.1 hr with hr | hr
    · exact hown.1 r hr
    · exact hM1 r hr
  have hfl := flatN_len hM1
  cases A with
  | none =>
    have h5 : n = 0 := by
      rcases Nat.eq_zero_or_pos n with h | h
      · exact h
      · obtain ⟨ad, x, e', _⟩ := hr 0 (by omega) 0 h0
        cases e'
    subst h5
    have hm : M = [] := List.eq_nil_of_length_eq_zero hn
    subst hm
    refine ⟨v, w, ?_, by rw [List.append_nil]; exact hown, ⟨rfl, rfl, rfl, Nat.le_refl _, fun _ _ _ => rfl⟩⟩
    rcases hown.2.2 with ⟨rfl, _⟩ | ⟨g, cap, cur, rfl, _, _, hnc, _⟩
    · simp [Builtin.append_, run_underlying ht, sizeOf, typeInfo, h1, Builtin.lenOf, Builtin.firstCells]
    · simp [Builtin.append_, run_underlying ht, sizeOf, typeInfo, h1, Builtin.lenOf, Builtin.firstCells, storeCells, hnc]
  | some ad =>
    obtain ⟨v', w', hrun, ho, hg, _⟩ := run_append_own (P := P) w B t ty e i z N by_ ht h1 h2 h3 h4 hz h0 v L.length _ hown.2 ad n c M.flatten (by rw [hfl, hn]) (fun j u hj => by
      have hjl : j < M.length * N := by
        have := (List.getElem?_eq_some_iff.1 hj).1
        rwa [hfl] at this
      have hk : j / N < M.length := (Nat.div_lt_iff_lt_mul h0).2 hjl
      obtain ⟨ad', x, e1, hx, hc⟩ := hr (j / N) hk (j % N) (Nat.mod_lt _ h0)
      injection e1 with e1
      subst e1
      have hjj : j / N * N + j % N = j := by rw [Nat.mul_comm]; exact Nat.div_add_mod j N
      rw [hjj] at hc
      have h5 := flatN_get hM1 hk (Nat.mod_lt j h0)
      rw [hjj, hj, hx] at h5
      injection h5 with h5
      rw [hc, h5]) (fun u hu => by
      obtain ⟨r, hr1, hr2⟩ := List.mem_flatten.1 hu
      exact (hM r hr1).2 u hr2) (by unfold maxLen; omega) hby hB
    refine ⟨v', w', hrun, ⟨hLM, ?_⟩, hg⟩
    rw [List.length_append, hn, List.flatten_append]
    exact ho
theorem ow_append_rows (s x : Operand) (t e : TypeId) (ho : o.op = .call { callee := .builtin .append, args := #[s, x], argTypes := #[t, t] })
    (ht : P.underlying t = some (.slice e)) (N by_ : Nat) (z : Value) (hi : (P.info? e).map (fun i => (i.zero, i.size, i.bytes)) = some (some z, N, by_)) (hz : z.cells.size = N) (h0 : 0 < N)
    (B : Nat) (v : Value) (L : List (List Value)) (hs : a.eval s = v) (hown : OwnN w B e N v L) (A : Option Addr) (n c : Nat) (M : List (List Value)) (hx : a.eval x = .slice A n c) (hM : ∀ r ∈ M, r.length = N ∧ ∀ u ∈ r, u.oneCell' = true) (hn : M.length = n) (hr : RN w A N M) (hB : B ≤ w.heap.size) (hlen : L.length + n ≤ 140737488355328) (hby : (L.length + n) * by_ ≤ 140737488355328)
    (h : Stop (∀ v' w', Hid (OwnN w' B e N v' (L ++ M)) → Hid (Below B w w') → Hid (w.grownBy w' v.ownBlock) → K (a.put o.dst v') w')) : o.wp P a w K Q := by
  obtain ⟨v', w', hrun, g1, g2⟩ := run_append_rows P w t o.type e ht N by_ z hi hz h0 B v L hown A n c M hM hn hr hB hlen hby
  unfold Oper.wp execOp
  simp only [ho, resolve, invoke, builtin, Sem.run_bind, Sem.run_pure, Result.andThen_ok, List.map_toArray, List.map_cons, List.map_nil, hs, hx, hrun]
  exact h v' w' g1 ((Below.refl B w).grown g2 hB (fun k hk => (hown.lt k hk).1)) g2
theorem wpList_append_rows (hgd : Region.wanted o (yielded ops a.tmps) = true) (s x : Operand) (t e : TypeId) (ho : o.op = .call { callee := .builtin .append, args := #[s, x], argTypes := #[t, t] })
    (ht : P.underlying t = some (.slice e)) (N by_ : Nat) (z : Value) (hi : (P.info? e).map (fun i => (i.zero, i.size, i.bytes)) = some (some z, N, by_)) (hz : z.cells.size = N) (h0 : 0 < N)
    (B : Nat) (v : Value) (L : List (List Value)) (hs : a.eval s = v) (hown : OwnN w B e N v L) (A : Option Addr) (n c : Nat) (M : List (List Value)) (hx : a.eval x = .slice A n c) (hM : ∀ r ∈ M, r.length = N ∧ ∀ u ∈ r, u.oneCell' = true) (hn : M.length = n) (hr : RN w A N M) (hB : B ≤ w.heap.size) (hlen : L.length + n ≤ 140737488355328) (hby : (L.length + n) * by_ ≤ 140737488355328)
    (h : Stop (∀ v' w', Hid (OwnN w' B e N v' (L ++ M)) → Hid (Below B w w') → Hid (w.grownBy w' v.ownBlock) → wpList P ops Q rest (a.put o.dst v') w')) : wpList P ops Q (o :: rest) a w :=
  wpList_wanted hgd fun _ hK => ow_append_rows s x t e ho ht N by_ z hi hz h0 B v L hs hown A n c M hx hM hn hr hB hlen hby (fun v' w' q1 q2 q3 => hK _ _ (h v' w' q1 q2 q3))
/-- A literal without elements. -/
theorem run_build0n (P : Program) (w : World) (t e : TypeId) (ht : P.underlying t = some (.slice e)) (N : Nat) (hs : (P.info? e).map (·.size) = some N) : (Instr.buildSlice t 0 #[]).run P w = .ok (.slice (some ⟨w.heap.size, 0, none⟩) 0 0) (w.alloc (.cells #[] e)) := by
  obtain ⟨i, hq, hsz⟩ := Option.map_eq_some_iff.1 hs
  have e0 : Array.map (fun _ : Nat => (default : Value)) (Array.range 0) = #[] := Array.eq_empty_of_size_eq_zero (by simp)
  simp [Instr.buildSlice, run_underlying ht, sizeOf, typeInfo, hq, Instr.fill]
  rw [e0]
  rfl
theorem wpList_build0n (hgd : Region.wanted o (yielded ops a.tmps) = true) (t e : TypeId) (ho : o.op = .buildSlice t 0 #[]) (ht : P.underlying t = some (.slice e)) (N : Nat) (hs : (P.info? e).map (·.size) = some N)
    (h : Stop (∀ w', Hid (Grew w w') → Hid (Blk w' w.heap.size e #[]) → wpList P ops Q rest (a.put o.dst (.slice (some ⟨w.heap.size, 0, none⟩) 0 0)) w')) : wpList P ops Q (o :: rest) a w := by
  refine wpList_wanted hgd fun K hK => ?_
  unfold Oper.wp execOp
  simp only [ho, Sem.run_bind, List.map_toArray, List.map_nil, run_build0n P w t e ht N hs, Result.andThen_ok]
  exact hK _ _ (h _ (Grew.alloc w _) (Blk.new w e _))
end

end Go.Proofs.YtkakihbfhmiabaaGreat
