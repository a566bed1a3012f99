/-
  Texts of this claim joined: RnL, Mix.
-/
import Derived.Test.YtkakihbfhmiabaaGreatGrAS
import Derived.Test.YtkakihbfhmiabaaGreatGrAB
import Derived.Test.YtkakihbfhmiabaaGreatGrAK
import Derived.Test.YtkakihbfhmiabaaGreatRows
import Derived.BigQuiet
import Derived.Deep.QuietTactic

/-
  Rows of N one-cell fields of the call's own: one row's cells, one cell stored anew; rows of numbers. Plain; no program is named here.
-/
namespace Go.Proofs.YtkakihbfhmiabaaGreat
open Go.RowKit

theorem RN.adr {w : World} {A : Option Addr} {N : Nat} {L : List (List Value)} (h : RN w A N L) {k : Nat} (hk : k < L.length) (h0 : 0 < N) : ∃ ad, A = some ad := by
  obtain ⟨ad, _, e, _⟩ := h k hk 0 h0
  exact ⟨ad, e⟩
theorem RN.row {w : World} {ad : Addr} {N : Nat} {L : List (List Value)} (h : RN w (some ad) N L) {k : Nat} {r : List Value} (hk : L[k]? = some r) (hN : r.length = N) : ∀ j v, r[j]? = some v → w.cell? ((ad.add (k * N)).add j) = some v := fun j v hj => by
  obtain ⟨hkl, rfl⟩ := List.getElem?_eq_some_iff.1 hk
  have hjl : j < N := by
    have := (List.getElem?_eq_some_iff.1 hj).1
    omega
  obtain ⟨ad', x, e, hx, hc⟩ := h k hkl j hjl
  injection e with e
  subst e
  rw [hj] at hx
  injection hx with hx
  subst hx
  rw [add_of_add]
  exact hc
theorem OwnN.rn {w : World} {B : Nat} {e : TypeId} {N : Nat} {A : Option Addr} {n c : Nat} {L : List (List Value)} (h : OwnN w B e N (.slice A n c) L) : RN w A N L := by
  obtain ⟨A', c', hv, _, _, hr⟩ := h.read
  injection hv with h1
  rw [h1]
  exact hr
theorem OwnN.only {w w' : World} {B g : Nat} {e : TypeId} {N : Nat} {v : Value} {L : List (List Value)} (h : OwnN w B e N v L) (ho : Only w w' g) (hg : g < B) : OwnN w' B e N v L := by
  obtain ⟨hL, hl, h | ⟨g', cap, cur, hv, hbg, hg', h⟩⟩ := h
  · exact ⟨hL, hl, Or.inl h⟩
  · exact ⟨hL, hl, Or.inr ⟨g', cap, cur, hv, hbg, Blk.only hg' ho (by omega), h⟩⟩
theorem OwnN.low {w : World} {B B' : Nat} {e : TypeId} {N : Nat} {v : Value} {L : List (List Value)} (h : OwnN w B e N v L) (hb : B' ≤ B) : OwnN w B' e N v L := by
  obtain ⟨hL, hl, h | ⟨g', cap, cur, hv, hbg, h⟩⟩ := h
  · exact ⟨hL, hl, Or.inl h⟩
  · exact ⟨hL, hl, Or.inr ⟨g', cap, cur, hv, by omega, h⟩⟩
/-- A result that is a list of the call's own. -/
def RetN (w : World) (e : TypeId) (N : Nat) (L : List (List Value)) (x : Ending) (w' : World) : Prop := ∃ v, x = .returned v ∧ OwnN w' w.heap.size e N v L ∧ Below w.heap.size w w'
theorem flatN_set {N : Nat} (i : Nat) (u : Value) : ∀ {L : List (List Value)}, (∀ r ∈ L, r.length = N) → ∀ {k : Nat}, (hk : k < L.length) → i < N → (L.set k (L[k].set i u)).flatten = L.flatten.set (k * N + i) u
  | [], _, k, hk, _ => by simp at hk
  | x :: L, h, 0, _, hi => by
    have hx := h x (by simp)
    rw [List.set_cons_zero, List.flatten_cons, List.flatten_cons, Nat.zero_mul, Nat.zero_add, List.set_append_left i u (by omega)]
    rfl
  | x :: L, h, k + 1, hk, hi => by
    have hx := h x (by simp)
    have hk' : k < L.length := by simpa using hk
    rw [List.set_cons_succ, List.flatten_cons, List.flatten_cons, List.set_append_right _ _ (by rw [hx, Nat.add_mul]; omega)]
    have e : (k + 1) * N + i - x.length = k * N + i := by rw [hx, Nat.add_mul]; omega
    rw [e, ← flatN_set i u (fun r hr => h r (List.mem_cons_of_mem _ hr)) hk' hi]
    rfl
/-- One cell of one's own rows, stored anew: where it lies. -/
theorem OwnN.put {w : World} {B : Nat} {e : TypeId} {N : Nat} {v : Value} {L : List (List Value)} (h : OwnN w B e N v L) {k i : Nat} (hk : k < L.length) (hi : i < N) :
    ∃ g cap cur, v = .slice (some ⟨g, 0, none⟩) L.length cap ∧ B ≤ g ∧ Blk w g e cur ∧ k * N + i < cur.size ∧
      ∀ w' u, Blk w' g e (cur.setIfInBounds (k * N + i) u) → OwnN w' B e N (.slice (some ⟨g, 0, none⟩) L.length cap) (L.set k (L[k].set i u)) := by
  obtain ⟨hL, hl, h | ⟨g, cap, cur, hv, hb, hg, hn, hc, hs, ht⟩⟩ := h
  · have := h.2
    omega
  · have hlt : k * N + i < L.length * N := by
      have : (k + 1) * N ≤ L.length * N := Nat.mul_le_mul_right N hk
      rw [Nat.add_mul] at this
      omega
    have hsz : k * N + i < cur.size := by
      have : L.length * N ≤ cap * N := Nat.mul_le_mul_right N hn
      omega
    refine ⟨g, cap, cur, hv, hb, hg, hsz, fun w' u hw' => ⟨fun r hr => ?_, ?_⟩⟩
    · rcases List.mem_or_eq_of_mem_set hr with hr | hr
      · exact hL r hr
      · rw [hr, List.length_set]
        exact hL _ (List.getElem_mem hk)
    · rw [List.length_set, flatN_set i u hL hk hi]
      refine ⟨by rw [List.length_set]; exact hl, Or.inr ⟨g, cap, _, rfl, hb, hw', hn, hc, by rw [Array.size_setIfInBounds]; exact hs, ?_⟩⟩
      rw [Array.toList_setIfInBounds, List.take_set, ht]
/-- Rows of numbers. -/
def irows (L : List (List Int)) : List (List Value) := L.map ivals
theorem irows_len (L : List (List Int)) : (irows L).length = L.length := by simp [irows]
theorem irows_snoc (L : List (List Int)) (r : List Int) : irows L ++ [ivals r] = irows (L ++ [r]) := by simp [irows]
theorem irows_at {L : List (List Int)} {k : Nat} {r : List Int} (h : L[k]? = some r) : (irows L)[k]? = some (ivals r) := by unfold irows; rw [List.getElem?_map, h]; rfl
theorem ivals_icells (l : List Int) : ivals l = (icells l).toList := by unfold ivals icells; rw [List.toList_toArray]
section
variable {P : Program} {ops : Array Oper} {rest : List Oper} {o : Oper} {a : Act} {w : World} {K : Act → World → Prop} {Q : Exit → Act → World → Prop}
/-- An array of one-cell elements, loaded from anywhere. -/
theorem run_loadVar_cellsA (P : Program) (w : World) (t : TypeId) (n e : Nat) (hu : P.underlying t = some (.array n e)) (cs : List Value) (hi : (P.info? t).map (·.size) = some cs.length) (ad : Addr) (h : ∀ j v, cs[j]? = some v → w.cell? (ad.add j) = some v) : (loadVar t ad).run P w = .ok (.agg cs.toArray) w := by
  have hl := run_loadCells_list (P := P) w ad cs h
  obtain ⟨i, hq, hs⟩ := Option.map_eq_some_iff.1 hi
  have hagg : (isAgg t).run P w = .ok true w := by
    unfold isAgg
    rw [Sem.run_bind, run_underlying hu w]
    simp
  simp [loadVar, Sem.run_bind, hagg, sizeOf, typeInfo, hq, hs, hl]
theorem exec_load_cellsA {o : Oper} (t : TypeId) (x : Operand) (ho : o.op = .load t x) (ad : Addr) (hx : a.eval x = .pointer (some ad)) (n e : Nat) (hu : P.underlying t = some (.array n e)) (cs : List Value) (hi : (P.info? t).map (·.size) = some cs.length) (h : ∀ j v, cs[j]? = some v → w.cell? (ad.add j) = some v) :
    (execOp a.eval o).run P w = .ok (.value (.agg cs.toArray)) w := by
  unfold execOp
  simp only [ho, hx, Instr.loadAt, Instr.sureAddr, Sem.run_bind, Sem.run_pure, Result.andThen_ok, run_loadVar_cellsA P w t n e hu cs hi ad h]
theorem wpList_load_cellsA (hgd : Region.wanted o (yielded ops a.tmps) = true) (t : TypeId) (x : Operand) (ho : o.op = .load t x) (ad : Addr) (hx : a.eval x = .pointer (some ad)) (n e : Nat) (hu : P.underlying t = some (.array n e)) (cs : List Value) (hi : (P.info? t).map (·.size) = some cs.length) (hc : ∀ j v, cs[j]? = some v → w.cell? (ad.add j) = some v)
    (h : wpList P ops Q rest (a.put o.dst (.agg cs.toArray)) w) : wpList P ops Q (o :: rest) a w := by
  refine wpList_wanted hgd fun K hK => ?_
  unfold Oper.wp
  rw [exec_load_cellsA t x ho ad hx n e hu cs hi hc]
  exact hK _ _ h
end

end Go.Proofs.YtkakihbfhmiabaaGreat

/-
  Contracts of package mix's functions of numbers and of one text.
-/
namespace Go.Proofs.YtkakihbfhmiabaaGreat
open Go.RowKit

set_option maxHeartbeats 400000 in
theorem more_any (h : Nat) (hh : h < 4294967296) (s : ByteArray) (hs : s.size ≤ maxLen) (w : World) :
    Calls Tryz.prog 115 #[.int .u32 h, .string s] w fun e w' => e = .returned (.int .u32 (fnvs h s.data.toList : Nat)) ∧ w = w' := by
  unfold maxLen at hs
  go_enter Tryz.func115, Tryz.ntmps115
  go_wp2
  go_loop [0, 8] (fun v i => ∃ k : Nat, k ≤ s.size ∧ i = .int .i64 k ∧ v = .int .u32 (fnvs h (s.data.toList.take k) : Nat)) (fun _ i => s.size - (intOf i).toNat)
  case atStart => exact ⟨0, Nat.zero_le _, rfl, rfl⟩
  case round =>
    obtain ⟨k, hk, rfl, rfl⟩ := hrel
    by_cases hlt : k < s.size
    · have hf := fnvs_lt h (s.data.toList.take k) hh
      have hsn := fnvs_snoc h (s.data.toList.take k) s[k]
      rw [← mtake_snoc s k hlt] at hsn
      generalize hV : fnvs h (s.data.toList.take k) = V at *
      have key := fnv_step V s[k] hf
      rw [← hsn] at key
      have HK := Lib.hid key
      have HV := Lib.hid hV
      have hb := (s[k]).toNat_lt
      clear key hsn hV
      go_wp2
      go_round
      case rel => exact ⟨k + 1, by omega, by go_num, by rw [HK.out]⟩
      case measure => simp [intOf]; omega
    · go_wp2
      go_ret
      rw [List.take_of_length_le (by simp; omega)]
      exact ⟨rfl, rfl⟩

set_option maxHeartbeats 400000 in
theorem mof_any (s : ByteArray) (hs : s.size ≤ maxLen) (w : World) :
    Calls Tryz.prog 80 #[.string s] w fun e w' => e = .returned (.int .u32 (hashN s : Nat)) ∧ w = w' := by
  go_enter Tryz.func80, Tryz.ntmps80
  go_wp2_with fail
  refine (more_any start start_lt s hs _).mono ?_; rintro e wx ⟨rfl, rfl⟩
  have HX : Hid (fnvs start s.data.toList = hashN s) := rfl
  go_wp2_with fail
  go_ret
  rw [HX.out]
  exact ⟨rfl, rfl⟩

theorem low_key (h : Nat) (hh : h < 4294967296) (k : Nat) (hk : k ≤ 32) :
    wrap64 (bits BinOp.and IntKind.u64 (h : Int) (IntKind.u64.wrap (IntKind.u64.wrap (2 ^ k) - 1))) = ((lowN h k : Nat) : Int) := by
  have hp : 2 ^ k ≤ 2 ^ 32 := Nat.pow_le_pow_right (by omega) hk
  have h0 := Nat.two_pow_pos k
  have hl := lowN_lt h k
  have e1 : ((2 : Int) ^ k) = ((2 ^ k : Nat) : Int) := by push_cast; rfl
  rw [e1]
  have e2 : IntKind.u64.wrap ((2 ^ k : Nat) : Int) = ((2 ^ k : Nat) : Int) := IntWalk.u64_in _ (by omega)
  rw [e2]
  have e3 : (((2 ^ k : Nat) : Int) - 1) = ((2 ^ k - 1 : Nat) : Int) := by omega
  rw [e3]
  have e4 : IntKind.u64.wrap ((2 ^ k - 1 : Nat) : Int) = ((2 ^ k - 1 : Nat) : Int) := IntWalk.u64_in _ (by omega)
  rw [e4, bits_and_u64_nat _ _ (by omega) (by omega), Nat.and_two_pow_sub_one_eq_mod, ← lowN_nat h k hk]
  unfold wrap64
  omega
theorem low_key32 (h : Nat) (hh : h < 4294967296) : wrap64 (bits BinOp.and IntKind.u64 (h : Int) 4294967295) = ((lowN h 32 : Nat) : Int) := low_key h hh 32 (by omega)
set_option maxHeartbeats 400000 in
theorem low_any (x : Nat) (hx : x < 4294967296) (n : Int) (w : World) :
    Calls Tryz.prog 210 #[.int .u32 x, .int .i64 n] w fun e w' => e = .returned (.int .i64 (lowN x n : Nat)) ∧ w = w' := by
  by_cases h1 : n < 1
  · have d1 : decide (n < 1) = true := by simpa using h1
    go_enter Tryz.func210, Tryz.ntmps210
    go_wp2_with fail
    go_ret
    rw [lowN_below x n h1]
    exact ⟨rfl, rfl⟩
  · have d1 : decide (n < 1) = false := by simpa using h1
    obtain ⟨k, rfl⟩ := Int.eq_ofNat_of_zero_le (show 0 ≤ n by omega)
    by_cases h2 : k ≤ 32
    · have key := low_key x hx k h2
      go_enter Tryz.func210, Tryz.ntmps210
      go_wp2
      all_goals
        first
        | (exfalso; omega)
        | (go_ret
           exact ⟨rfl, rfl⟩)
    · have key := low_key32 x hx
      have e := lowN_above x k (by omega)
      go_enter Tryz.func210, Tryz.ntmps210
      go_wp2
      all_goals
        first
        | (exfalso; omega)
        | (go_ret
           exact ⟨rfl, rfl⟩)




end Go.Proofs.YtkakihbfhmiabaaGreat
