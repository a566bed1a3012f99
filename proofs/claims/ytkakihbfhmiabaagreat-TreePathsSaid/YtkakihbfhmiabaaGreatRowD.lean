/-
  Rows of the call's own: one stored anew, those from a place on cleared, the slice cut. Plain; no program is named here.
-/
import Derived.Test.YtkakihbfhmiabaaGreatGrAJ
namespace Go.Proofs.YtkakihbfhmiabaaGreat
open Go.RowKit

theorem flat_parts {N : Nat} {M : List (List Value)} (hM : ∀ r ∈ M, r.length = N) {k : Nat} (hk : k < M.length) :
    M.flatten = (M.take k).flatten ++ (M[k] ++ (M.drop (k + 1)).flatten) ∧ (M.take k).flatten.length = k * N ∧ M[k].length = N := by
  refine ⟨?_, ?_, hM _ (List.getElem_mem hk)⟩
  · conv => lhs; rw [← List.take_append_drop k M, List.drop_eq_getElem_cons hk]
    rw [List.flatten_append, List.flatten_cons]
  · rw [flatN_len (fun r hr => hM r (List.mem_of_mem_take hr)), List.length_take, Nat.min_eq_left (by omega)]
theorem set_parts {M : List (List Value)} {k : Nat} (hk : k < M.length) (r : List Value) : (M.set k r).flatten = (M.take k).flatten ++ (r ++ (M.drop (k + 1)).flatten) := by
  rw [List.set_eq_take_append_cons_drop, if_pos hk, List.flatten_append, List.flatten_cons]
theorem OwnN.setrow {P : Program} {w : World} {B g N n cap : Nat} {e ty : TypeId} {M : List (List Value)} (h : OwnN w B e N (.slice (some ⟨g, 0, none⟩) n cap) M) (hs : (P.info? ty).map (·.size) = some N) {k : Nat} (hk : k < M.length) (r : List Value) (hr : r.length = N) (h1 : ∀ v ∈ r, v.oneCell' = true) :
    ∃ w', (storeVar ty ⟨g, k * N, none⟩ (.agg r.toArray)).run P w = .ok () w' ∧ Only w w' g ∧ OwnN w' B e N (.slice (some ⟨g, 0, none⟩) n cap) (M.set k r) := by
  obtain ⟨hL, hl, h | ⟨g', cap', cur, hv, hb, hg, hn, hc, hsz, ht⟩⟩ := h
  · cases h.1
  · injection hv with e1 e2 e3
    injection e1 with e1
    injection e1 with e1 _ _
    subst e1; subst e3
    have hMn : M.length * N ≤ cap * N := Nat.mul_le_mul_right N (by omega)
    have hkN : (k + 1) * N ≤ M.length * N := Nat.mul_le_mul_right N hk
    rw [Nat.add_mul] at hkN
    have hst := run_storeCells_at (P := P) g (k * N) e r 0 cur w hg (by omega) h1
    obtain ⟨q1, q2, q3⟩ := flat_parts hL hk
    have hcur : cur.toList = (M.take k).flatten ++ (M[k] ++ ((M.drop (k + 1)).flatten ++ cur.toList.drop (M.length * N))) := by
      conv => lhs; rw [← List.take_append_drop (M.length * N) cur.toList, ht, q1]
      simp only [List.append_assoc]
    generalize cur.toList.drop (M.length * N) = T at hcur
    have e4 : cur.toList.take (k * N + 0) = (M.take k).flatten := by rw [hcur, Nat.add_zero, List.take_append_of_le_length (by omega), List.take_of_length_le (by omega)]
    have e5 : cur.toList.drop (k * N + 0 + r.length) = (M.drop (k + 1)).flatten ++ T := by
      rw [hcur, Nat.add_zero, ← List.append_assoc, List.drop_append_of_le_length (by rw [List.length_append]; omega), List.drop_of_length_le (by rw [List.length_append]; omega), List.nil_append]
    rw [e4, e5] at hst
    obtain ⟨i, hq, hz⟩ := Option.map_eq_some_iff.1 hs
    refine ⟨_, ?_, Only.setRow hg _, ⟨fun x hx => ?_, ?_, Or.inr ⟨g, cap, ((M.take k).flatten ++ r ++ ((M.drop (k + 1)).flatten ++ T)).toArray, by rw [List.length_set, e2], hb, Blk.setRow hg _, by rw [List.length_set]; omega, hc, ?_, ?_⟩⟩⟩
    · generalize ((M.take k).flatten ++ r ++ ((M.drop (k + 1)).flatten ++ T)).toArray = R at *
      simp [storeVar, sizeOf, typeInfo, hq, hz, Value.cells, hr, hst]
    · rcases List.mem_or_eq_of_mem_set hx with hx | hx
      · exact hL x hx
      · rw [hx]; exact hr
    · rw [set_parts hk, List.length_set]
      rw [q1] at hl
      simp only [List.length_append] at hl ⊢
      omega
    · have := congrArg List.length hcur
      simp only [List.length_append, Array.length_toList] at this
      simp only [List.size_toArray, List.length_append]
      omega
    · rw [List.length_set, set_parts hk]
      rw [q1] at hl
      simp only [List.length_append] at hl
      simp only [List.append_assoc]
      rw [← List.append_assoc r, ← List.append_assoc, List.take_append_of_le_length (by simp only [List.length_append]; omega), List.take_of_length_le (by simp only [List.length_append]; omega)]
theorem zeroCells_size (cs : Array Value) (n : Nat) : (Builtin.zeroCells cs n).toList.length = n * cs.size := by simp [Builtin.zeroCells]
theorem zeroCells_one {cs : Array Value} (h : cs.all (·.oneCell') = true) (n : Nat) : ∀ v ∈ (Builtin.zeroCells cs n).toList, v.oneCell' = true := fun v hv => by
  have hv' : v ∈ Builtin.zeroCells cs n := Array.mem_toList_iff.1 hv
  unfold Builtin.zeroCells at hv'
  obtain ⟨j, hj, rfl⟩ := Array.mem_map.1 hv'
  have hj' : j < n * cs.size := by simpa using hj
  have h0 : 0 < cs.size := by
    rcases Nat.eq_zero_or_pos cs.size with h | h
    · rw [h] at hj'; simp at hj'
    · exact h
  have hlt := Nat.mod_lt j h0
  rw [getElem!_pos cs _ hlt]
  exact Array.all_eq_true_iff_forall_mem.1 h _ (Array.getElem_mem hlt)
/-- .. cleared from row q on: of the first q nothing has changed. -/
theorem OwnN.cleared {P : Program} {w : World} {B g N n cap : Nat} {e t ty : TypeId} {M : List (List Value)} (h : OwnN w B e N (.slice (some ⟨g, 0, none⟩) n cap) M) (hn : M.length = n) (ht : P.underlying t = some (.slice e)) (by_ : Nat) (z : Value) (hi : (P.info? e).map (fun i => (i.zero, i.size, i.bytes)) = some (some z, N, by_)) (hz : z.cells.size = N) (h1 : z.cells.all (·.oneCell') = true) (q n' c' : Nat) (hq : q + n' = n) :
    ∃ w', (Builtin.clear_ #[t] ty #[.slice (some ⟨g, q * N, none⟩) n' c']).run P w = .ok (.tuple #[]) w' ∧ Only w w' g ∧ OwnN w' B e N (.slice (some ⟨g, 0, none⟩) q cap) (M.take q) := by
  obtain ⟨i, i1, i2, i3, i4⟩ := info_parts hi
  obtain ⟨hL, hl, h | ⟨g', cap', cur, hv, hb, hg, hnn, hc, hsz, htk⟩⟩ := h
  · cases h.1
  · injection hv with e1 e2 e3
    injection e1 with e1
    injection e1 with e1 _ _
    subst e1; subst e3
    have hql : q ≤ M.length := by omega
    have hlt : (M.take q).flatten.length = q * N := by rw [flatN_len (fun r hr => hL r (List.mem_of_mem_take hr)), List.length_take, Nat.min_eq_left hql]
    have hMt : M.flatten.take (q * N) = (M.take q).flatten := by
      conv => lhs; rw [← List.take_append_drop q M, List.flatten_append]
      rw [List.take_append_of_le_length (by omega), List.take_of_length_le (by omega)]
    have hqN : q * N ≤ M.length * N := Nat.mul_le_mul_right N hql
    have hMn : M.length * N ≤ cap * N := Nat.mul_le_mul_right N (by omega)
    have hct : cur.toList.take (q * N) = (M.take q).flatten := by
      rw [← hMt, ← htk, List.take_take, Nat.min_eq_left hqN]
    have hML : ∀ r ∈ M.take q, r.length = N := fun r hr => hL r (List.mem_of_mem_take hr)
    have hown : ∀ (w' : World) (cs : Array Value), Blk w' g e cs → cs.size = cur.size → cs.toList.take (q * N) = (M.take q).flatten → OwnN w' B e N (.slice (some ⟨g, 0, none⟩) q cap) (M.take q) := fun w' cs hcs h2 h3 => by
      have e5 : (M.take q).length = q := by rw [List.length_take, Nat.min_eq_left hql]
      exact ⟨hML, by rw [hlt, e5], Or.inr ⟨g, cap, cs, by rw [e5], hb, hcs, by rw [e5]; omega, hc, by rw [h2]; exact hsz, by rw [e5]; exact h3⟩⟩
    cases n' with
    | zero =>
      refine ⟨w, ?_, Only.refl w g, hown w cur hg rfl hct⟩
      simp [Builtin.clear_, run_underlying ht]
    | succ m =>
      have hzl := zeroCells_size z.cells (m + 1)
      rw [hz] at hzl
      have hfit : q * N + 0 + (Builtin.zeroCells z.cells (m + 1)).toList.length ≤ cur.size := by
        rw [hzl, hsz, Nat.add_zero, ← Nat.add_mul]
        exact Nat.mul_le_mul_right N (by omega)
      have hst := run_storeCells_at (P := P) g (q * N) e _ 0 cur w hg hfit (zeroCells_one h1 (m + 1))
      have hv : ∀ w, (zeroValue e).run P w = .ok z w := fun w => by simp [zeroValue, typeInfo, i1, i2]
      obtain ⟨V, hV⟩ : ∃ V, (Builtin.zeroCells z.cells (m + 1)).toList = V := ⟨_, rfl⟩
      rw [hV] at hst hzl hfit
      obtain ⟨R, hR⟩ : ∃ R, (cur.toList.take (q * N + 0) ++ V ++ cur.toList.drop (q * N + 0 + V.length)).toArray = R := ⟨_, rfl⟩
      rw [hR] at hst
      refine ⟨w.setRow g R, by simp [Builtin.clear_, run_underlying ht, hv, hV, hst], Only.setRow hg R, hown _ R (Blk.setRow hg R) ?_ ?_⟩
      · rw [← hR]
        simp only [List.size_toArray, List.length_append, List.length_take, List.length_drop, Array.length_toList]
        omega
      · rw [← hR]
        show List.take (q * N) (cur.toList.take (q * N + 0) ++ V ++ cur.toList.drop (q * N + 0 + V.length)) = _
        have e6 : (cur.toList.take (q * N + 0)).length = q * N := by rw [Nat.add_zero, hct, hlt]
        rw [List.append_assoc, List.take_append_of_le_length (by omega), List.take_of_length_le (by omega), Nat.add_zero, hct]

section
variable {P : Program} {ops : Array Oper} {rest : List Oper} {o : Oper} {a : Act} {w : World} {Q : Exit → Act → World → Prop}
theorem wpList_store_row (hgd : Region.wanted o (yielded ops a.tmps) = true) (ty : TypeId) (x y : Operand) (ho : o.op = .store ty x y) (N : Nat) (hs : (P.info? ty).map (·.size) = some N) (g k : Nat) (p : Addr) (hx : a.eval x = .pointer (some p)) (hp : p = ⟨g, k * N, none⟩) (r : List Value) (hy : a.eval y = .agg r.toArray)
    (B n cap : Nat) (e : TypeId) (M : List (List Value)) (hown : OwnN w B e N (.slice (some ⟨g, 0, none⟩) n cap) M) (hk : k < M.length) (hr : r.length = N) (h1 : ∀ v ∈ r, v.oneCell' = true)
    (h : Stop (∀ w', Hid (Only w w' g) → Hid (OwnN w' B e N (.slice (some ⟨g, 0, none⟩) n cap) (M.set k r)) → wpList P ops Q rest (a.put o.dst undef) w')) : wpList P ops Q (o :: rest) a w := by
  refine wpList_wanted hgd fun K hK => ?_
  subst hp
  obtain ⟨w', hrun, q1, q2⟩ := hown.setrow hs hk r hr h1
  unfold Oper.wp execOp
  simp only [ho, hx, hy, Instr.storeAt, Instr.sureAddr, Sem.run_bind, Sem.run_pure, Result.andThen_ok, hrun]
  exact hK _ _ (h w' q1 q2)
theorem wpList_clear_rows (hgd : Region.wanted o (yielded ops a.tmps) = true) (s : Operand) (t e : TypeId) (ho : o.op = .call { callee := .builtin .clear, args := #[s], argTypes := #[t] }) (ht : P.underlying t = some (.slice e)) (N by_ : Nat) (z : Value) (hi : (P.info? e).map (fun i => (i.zero, i.size, i.bytes)) = some (some z, N, by_)) (hz : z.cells.size = N) (h1 : z.cells.all (·.oneCell') = true)
    (g q n' c' : Nat) (p : Addr) (hs : a.eval s = .slice (some p) n' c') (hp : p = ⟨g, q * N, none⟩) (B n cap : Nat) (M : List (List Value)) (hown : OwnN w B e N (.slice (some ⟨g, 0, none⟩) n cap) M) (hn : M.length = n) (hq : q + n' = n)
    (h : Stop (∀ w', Hid (Only w w' g) → Hid (OwnN w' B e N (.slice (some ⟨g, 0, none⟩) q cap) (M.take q)) → wpList P ops Q rest (a.put o.dst (.tuple #[])) w')) : wpList P ops Q (o :: rest) a w := by
  refine wpList_wanted hgd fun K hK => ?_
  subst hp
  obtain ⟨w', hrun, q1, q2⟩ := hown.cleared (P := P) (ty := o.type) hn ht by_ z hi hz h1 q n' c' hq
  unfold Oper.wp execOp
  simp only [ho, resolve, invoke, builtin, Sem.run_bind, Sem.run_pure, Result.andThen_ok, List.map_toArray, List.map_cons, List.map_nil, hs, hrun]
  exact hK _ _ (h w' q1 q2)
/-- l[k:], where something lies behind. -/
theorem wpList_slice_offN (hgd : Region.wanted o (yielded ops a.tmps) = true) (t : TypeId) (x lo : Operand) (ho : o.op = .slice t x (some lo) none none) (e : TypeId) (hu : P.underlying t = some (.slice e)) (N : Nat) (hs : (P.info? e).map (·.size) = some N)
    (ad : Addr) (n c : Nat) (hx : a.eval x = .slice (some ad) n c) (kl : IntKind) (L : Int) (hlo : a.eval lo = .int kl L) (l : Nat) (hL : L = l) (h1 : l < n) (h2 : n ≤ c) (n' c' : Nat) (hn : n = l + n') (hc : c = l + c')
    (k : wpList P ops Q rest (a.put o.dst (.slice (some (ad.add (l * N))) n' c')) w) : wpList P ops Q (o :: rest) a w := by
  refine wpList_wanted hgd fun K hK => ?_
  subst hL
  have hel : P.elem t = e := by simp [Program.elem, hu]
  have hr : (Instr.slice t (.slice (some ad) n c) (some (.int kl (l : Int))) none none).run P w = .ok (.slice (some (ad.add (l * N))) n' c') w := by
    rw [run_slice_l w t _ _ _ (by rw [hel]; exact hu) kl l (by omega) (by omega), hel, sizeOf_of hs]
    simp only [Result.andThen, sliced, Int.toNat_natCast, Option.map_some]
    rw [if_neg (by omega), show n - l = n' from by omega, show c - l = c' from by omega]
  unfold Oper.wp execOp
  simp only [ho, hx, hlo, Sem.run_bind, Sem.run_pure, Result.andThen_ok, Option.map_some, Option.map_none, Instr.sliceAt, run_underlying hu, hr]
  exact hK _ _ k
/-- l[:k]. -/
theorem wpList_slice_uptoN (hgd : Region.wanted o (yielded ops a.tmps) = true) (t : TypeId) (x hi : Operand) (ho : o.op = .slice t x none (some hi) none) (e : TypeId) (hu : P.underlying t = some (.slice e)) (N : Nat) (hs : (P.info? e).map (·.size) = some N)
    (ad : Addr) (n c : Nat) (hx : a.eval x = .slice (some ad) n c) (kh : IntKind) (H : Int) (hhi : a.eval hi = .int kh H) (h : Nat) (hH : H = h) (h1 : h ≤ c) (h2 : 0 < c)
    (k : wpList P ops Q rest (a.put o.dst (.slice (some ad) h c)) w) : wpList P ops Q (o :: rest) a w := by
  refine wpList_wanted hgd fun K hK => ?_
  subst hH
  have hel : P.elem t = e := by simp [Program.elem, hu]
  have hr : (Instr.slice t (.slice (some ad) n c) none (some (.int kh (h : Int))) none).run P w = .ok (.slice (some ad) h c) w := by
    rw [run_slice_h w t _ _ _ (by rw [hel]; exact hu) kh h (by omega) (by omega), hel, sizeOf_of hs]
    simp only [Result.andThen, sliced, Int.toNat_natCast, Nat.sub_zero, Option.map_some, Nat.zero_mul]
    rw [if_neg (by omega), show ad.add 0 = ad from by cases ad; simp [Addr.add]]
  unfold Oper.wp execOp
  simp only [ho, hx, hhi, Sem.run_bind, Sem.run_pure, Result.andThen_ok, Option.map_some, Option.map_none, Instr.sliceAt, run_underlying hu, hr]
  exact hK _ _ k
end

end Go.Proofs.YtkakihbfhmiabaaGreat
