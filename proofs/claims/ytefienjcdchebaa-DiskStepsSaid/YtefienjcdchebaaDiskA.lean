/-
  Rows of blocks of 256 bytes in memory: one that is loaded, stored, made, appended. Plain; no program is named here.
-/
import Derived.Test.YtefienjcdchebaaCell
import Derived.Test.YtefienjcdchebaaHeld
namespace Go.Proofs.Ytefienjcdchebaa
open Go.RowKit

/-- Blocks: each has 256 bytes. -/
def Bks (L : List (List UInt8)) : Prop := ∀ x ∈ L, x.length = 256
theorem Bks.cons {x : List UInt8} {L : List (List UInt8)} (h : Bks (x :: L)) : x.length = 256 ∧ Bks L := ⟨h x (by simp), fun y hy => h y (List.mem_cons_of_mem _ hy)⟩
theorem Bks.get {L : List (List UInt8)} (h : Bks L) {k : Nat} (hk : k < L.length) : L[k].length = 256 := h _ (List.getElem_mem hk)
theorem Bks.set {L : List (List UInt8)} (h : Bks L) (k : Nat) {d : List UInt8} (hd : d.length = 256) : Bks (L.set k d) := fun x hx => by
  rcases List.mem_or_eq_of_mem_set hx with hx | rfl
  · exact h x hx
  · exact hd
theorem Bks.snoc {L : List (List UInt8)} (h : Bks L) {d : List UInt8} (hd : d.length = 256) : Bks (L ++ [d]) := fun x hx => by
  rw [List.mem_append, List.mem_singleton] at hx
  rcases hx with hx | rfl
  · exact h x hx
  · exact hd
theorem Bks.nil_ : Bks [] := fun x hx => by simp at hx
theorem Bks.same (n : Nat) {d : List UInt8} (hd : d.length = 256) : Bks (List.replicate n d) := fun x hx => by rw [(List.mem_replicate.1 hx).2]; exact hd
theorem flat_len {L : List (List UInt8)} (h : Bks L) : L.flatten.length = L.length * 256 := by
  induction L with
  | nil => rfl
  | cons x L ih =>
    obtain ⟨h1, h2⟩ := h.cons
    rw [List.flatten_cons, List.length_append, ih h2, h1, List.length_cons]
    omega
theorem flat_cut {L : List (List UInt8)} (h : Bks L) {k : Nat} (hk : k < L.length) : (L.flatten.drop (k * 256)).take 256 = L[k] := by
  induction L generalizing k with
  | nil => simp at hk
  | cons x L ih =>
    obtain ⟨h1, h2⟩ := h.cons
    rw [List.flatten_cons]
    cases k with
    | zero =>
      rw [Nat.zero_mul, List.drop_zero, List.take_append_of_le_length (by omega), List.take_of_length_le (by omega)]
      rfl
    | succ k =>
      have hk' : k < L.length := by simpa using hk
      rw [show (k + 1) * 256 = x.length + k * 256 by omega, List.drop_append]
      rw [show x.length + k * 256 - x.length = k * 256 by omega, List.drop_of_length_le (by omega), List.nil_append, ih h2 hk']
      rfl
theorem flat_get {L : List (List UInt8)} (h : Bks L) {k i : Nat} (hk : k < L.length) (hi : i < 256) : L.flatten[k * 256 + i]? = L[k][i]? := by
  rw [← flat_cut h hk, List.getElem?_take_of_lt hi, List.getElem?_drop]
theorem flat_set {L : List (List UInt8)} (h : Bks L) {k : Nat} (hk : k < L.length) {d : List UInt8} (hd : d.length = 256) : splice L.flatten (k * 256) d = (L.set k d).flatten := by
  induction L generalizing k with
  | nil => simp at hk
  | cons x L ih =>
    obtain ⟨h1, h2⟩ := h.cons
    cases k with
    | zero =>
      unfold splice
      rw [Nat.zero_mul, List.take_zero, Nat.zero_add, hd, List.flatten_cons, List.set_cons_zero, List.flatten_cons, List.nil_append, List.drop_append, List.drop_of_length_le (by omega), h1]
      rfl
    | succ k =>
      have hk' : k < L.length := by simpa using hk
      rw [List.set_cons_succ, List.flatten_cons, List.flatten_cons, ← ih h2 hk']
      unfold splice
      rw [show (k + 1) * 256 = x.length + k * 256 by omega, List.take_append, List.drop_append]
      rw [show x.length + k * 256 - x.length = k * 256 by omega, show x.length + k * 256 + d.length - x.length = k * 256 + d.length by omega, List.take_of_length_le (show x.length ≤ x.length + k * 256 by omega), List.drop_of_length_le (show x.length ≤ x.length + k * 256 + d.length by omega)]
      simp [List.append_assoc]
theorem flat_snoc (L : List (List UInt8)) (d : List UInt8) : (L ++ [d]).flatten = L.flatten ++ d := by simp

/-- A slice of blocks with this address reads as these. -/
def RK (w : World) (A : Option Addr) (L : List (List UInt8)) : Prop := ∀ k (h : k < L.length) i (hi : i < 256), ∃ ad x, A = some ad ∧ L[k][i]? = some x ∧ w.cell? (ad.add (k * 256 + i)) = some (.int .u8 (x.toNat : Int))
theorem RK.below {w w' : World} {A : Option Addr} {L : List (List UInt8)} (h : RK w A L) (hb : Below w.heap.size w w') : RK w' A L := fun k hk i hi => by
  obtain ⟨ad, x, e, hx, hc⟩ := h k hk i hi
  exact ⟨ad, x, e, hx, by rw [hb.cell (block_lt_of_cell hc), hc]⟩
theorem RK.of_blk {w : World} {g : Nat} {t : TypeId} {L : List (List UInt8)} (hL : Bks L) (h : Blk w g t (bcells L.flatten)) : RK w (some ⟨g, 0, none⟩) L := fun k hk i hi => by
  have hil : i < L[k].length := by rw [hL.get hk]; exact hi
  refine ⟨_, L[k][i], rfl, List.getElem?_eq_getElem hil, ?_⟩
  rw [addr_add0, h.cell, bcells_get, flat_get hL hk hi, List.getElem?_eq_getElem hil]
  rfl
/-- .. as bytes, one behind the other. -/
theorem RK.bytes {w : World} {A : Option Addr} {L : List (List UInt8)} (hL : Bks L) (h : RK w A L) : RB w A L.flatten := fun j hj => by
  rw [flat_len hL] at hj
  have hk : j / 256 < L.length := by omega
  obtain ⟨ad, x, e, hx, hc⟩ := h (j / 256) hk (j % 256) (by omega)
  refine ⟨ad, e, ?_⟩
  have hjj : j / 256 * 256 + j % 256 = j := by omega
  rw [hjj] at hc
  rw [hc]
  have h2 := flat_get hL hk (show j % 256 < 256 by omega)
  rw [hjj, hx, List.getElem?_eq_getElem (by rw [flat_len hL]; exact hj)] at h2
  injection h2 with h2
  rw [h2]

section
variable {P : Program} {ops : Array Oper} {rest : List Oper} {o : Oper} {a : Act} {w : World} {K : Act → World → Prop} {Q : Exit → Act → World → Prop}

theorem run_loadVar_bk (P : Program) (w : World) (ty : TypeId) (d : TypeDesc) (hu : P.underlying ty = some d) (hd : (match d with | .struct _ | .array _ _ => true | _ => false) = true) (hs : (P.info? ty).map (·.size) = some 256) (ad : Addr) (k : Nat) (L : List (List UInt8)) (hL : Bks L) (hk : k < L.length) (hr : RK w (some ad) L) :
    (loadVar ty (ad.add (k * 256))).run P w = .ok (.agg (bcells L[k])) w := by
  have hlen : (L[k].map fun x : UInt8 => Value.int .u8 (x.toNat : Int)).length = 256 := by rw [List.length_map, hL.get hk]
  have hl := run_loadCells_list (P := P) w (ad.add (k * 256)) (L[k].map fun x => Value.int .u8 (x.toNat : Int)) (fun j v hj => by
    rw [List.getElem?_map] at hj
    obtain ⟨x, hx, rfl⟩ := Option.map_eq_some_iff.1 hj
    have hj' : j < 256 := by rw [← hL.get hk]; exact (List.getElem?_eq_some_iff.1 hx).1
    obtain ⟨ad', x', e, hx', hc⟩ := hr k hk j hj'
    injection e with e
    subst e
    rw [hx] at hx'
    injection hx' with hx'
    rw [add_of_add, hc, hx'])
  rw [hlen] at hl
  obtain ⟨i, hq, hsz⟩ := Option.map_eq_some_iff.1 hs
  have hagg : (isAgg ty).run P w = .ok true w := by
    unfold isAgg
    rw [Sem.run_bind, run_underlying hu w]
    cases d <;> simp_all
  simp [loadVar, Sem.run_bind, hagg, sizeOf, typeInfo, hq, hsz, hl, bcells]
/-- A block of a row is loaded. -/
theorem exec_load_bk {o : Oper} (t : TypeId) (x : Operand) (ho : o.op = .load t x) (ad : Addr) (k : Nat) (hx : a.eval x = .pointer (some (ad.add (k * 256)))) (L : List (List UInt8)) (hL : Bks L) (hk : k < L.length) (hr : RK w (some ad) L)
    (d : TypeDesc) (hu : P.underlying t = some d) (hd : (match d with | .struct _ | .array _ _ => true | _ => false) = true) (hs : (P.info? t).map (·.size) = some 256) : (execOp a.eval o).run P w = .ok (.value (.agg (bcells L[k]))) w := by
  unfold execOp
  simp only [ho, hx, Instr.loadAt, Instr.sureAddr, Sem.run_bind, Sem.run_pure, Result.andThen_ok, run_loadVar_bk P w t d hu hd hs ad k L hL hk hr]
theorem wpList_load_bk (hgd : Region.wanted o (yielded ops a.tmps) = true) (t : TypeId) (x : Operand) (ho : o.op = .load t x) (ad : Addr) (k : Nat) (hx : a.eval x = .pointer (some (ad.add (k * 256)))) (L : List (List UInt8)) (hL : Bks L) (hk : k < L.length) (hr : RK w (some ad) L)
    (d : TypeDesc) (hu : P.underlying t = some d) (hd : (match d with | .struct _ | .array _ _ => true | _ => false) = true) (hs : (P.info? t).map (·.size) = some 256) (h : wpList P ops Q rest (a.put o.dst (.agg (bcells L[k]))) w) : wpList P ops Q (o :: rest) a w := by
  refine wpList_wanted hgd fun K hK => ?_
  unfold Oper.wp
  rw [exec_load_bk t x ho ad k hx L hL hk hr d hu hd hs]
  exact hK _ _ h

theorem run_storeVar_bk (P : Program) (w : World) (ty : TypeId) (hs : (P.info? ty).map (·.size) = some 256) (g k : Nat) (t : TypeId) (L : List (List UInt8)) (hL : Bks L) (hk : k < L.length) (hg : Blk w g t (bcells L.flatten)) (d : List UInt8) (hd : d.length = 256) :
    (storeVar ty ⟨g, k * 256, none⟩ (.agg (bcells d))).run P w = .ok () (w.setRow g (bcells (L.set k d).flatten)) := by
  have hfl := flat_len hL
  have hst := run_storeCells_at P g (k * 256) t (d.map fun x : UInt8 => Value.int .u8 (x.toNat : Int)) 0 (bcells L.flatten) w hg (by rw [bcells_size, List.length_map, hd, hfl]; omega) (by
    intro v hv
    obtain ⟨x, _, rfl⟩ := List.mem_map.1 hv
    rfl)
  have e : (List.take (k * 256 + 0) (bcells L.flatten).toList ++ (d.map fun x : UInt8 => Value.int .u8 (x.toNat : Int)) ++ List.drop (k * 256 + 0 + (d.map fun x : UInt8 => Value.int .u8 (x.toNat : Int)).length) (bcells L.flatten).toList).toArray = bcells (L.set k d).flatten := by
    rw [← flat_set hL hk hd]
    simp only [bcells, splice, Nat.add_zero, List.length_map, List.map_append, List.map_take, List.map_drop]
  rw [e] at hst
  obtain ⟨i, hq, hsz⟩ := Option.map_eq_some_iff.1 hs
  have hcs : (Value.agg (bcells d)).cells = bcells d := rfl
  have hz : (bcells d).size = 256 := by rw [bcells_size, hd]
  have htl : (bcells d).toList = d.map fun x : UInt8 => Value.int .u8 (x.toNat : Int) := rfl
  simp [storeVar, sizeOf, typeInfo, hq, hsz, hcs, hz, htl, hst]
/-- A block of a row is stored. -/
theorem ow_store_bk (ty : TypeId) (x y : Operand) (ho : o.op = .store ty x y) (hs : (P.info? ty).map (·.size) = some 256)
    (g k : Nat) (hx : a.eval x = .pointer (some ⟨g, k * 256, none⟩)) (d : List UInt8) (hy : a.eval y = .agg (bcells d)) (hd : d.length = 256) (t : TypeId) (L : List (List UInt8)) (hL : Bks L) (hk : k < L.length) (hg : Blk w g t (bcells L.flatten))
    (h : Stop (∀ w', Hid (Only w w' g) → Hid (Blk w' g t (bcells (L.set k d).flatten)) → K (a.put o.dst undef) w')) : o.wp P a w K Q := by
  unfold Oper.wp execOp
  simp only [ho, hx, hy, Instr.storeAt, Instr.sureAddr, Sem.run_bind, Sem.run_pure, Result.andThen_ok, run_storeVar_bk P w ty hs g k t L hL hk hg d hd]
  exact h _ (Only.setRow hg _) (hg.setRow _)
theorem wpList_store_bk (hgd : Region.wanted o (yielded ops a.tmps) = true) (ty : TypeId) (x y : Operand) (ho : o.op = .store ty x y) (hs : (P.info? ty).map (·.size) = some 256)
    (g k : Nat) (hx : a.eval x = .pointer (some ⟨g, k * 256, none⟩)) (d : List UInt8) (hy : a.eval y = .agg (bcells d)) (hd : d.length = 256) (t : TypeId) (L : List (List UInt8)) (hL : Bks L) (hk : k < L.length) (hg : Blk w g t (bcells L.flatten))
    (h : Stop (∀ w', Hid (Only w w' g) → Hid (Blk w' g t (bcells (L.set k d).flatten)) → wpList P ops Q rest (a.put o.dst undef) w')) : wpList P ops Q (o :: rest) a w :=
  wpList_wanted hgd fun _ hK => ow_store_bk ty x y ho hs g k hx d hy hd t L hL hk hg (fun w' h1 h2 => hK _ _ (h w' h1 h2))

/-- make of n blocks of noughts. -/
theorem run_make_bk (P : Program) (w : World) (t e : TypeId) (ht : P.underlying t = some (.slice e)) (hi : (P.info? e).map (fun i => (i.zero, i.size, i.bytes)) = some (some (.agg (bcells (zeros 256))), 256, 256)) (kl kc : IntKind) (n : Nat) (hn : n ≤ 1099511627776) :
    (Instr.makeSlice t (.int kl n) (.int kc n)).run P w = .ok (.slice (some ⟨w.heap.size, 0, none⟩) n n) (w.alloc (.cells (bcells (List.replicate n (zeros 256)).flatten) e)) := by
  obtain ⟨i, h1, h2, h3, h4⟩ := info_parts hi
  have hr := run_make (P := P) w t e i _ ht h1 h2 kl kc n n (by omega) (by omega) (by rw [h4]; omega) (by omega)
  have hb : Bks (List.replicate n (zeros 256)) := Bks.same n (zeros_len 256)
  have hfl := flat_len hb
  rw [List.length_replicate] at hfl
  have e1 : madeCells (Value.agg (bcells (zeros 256))).cells ((n : Int).toNat * i.size) = bcells (List.replicate n (zeros 256)).flatten := by
    rw [h3, Int.toNat_natCast]
    apply Array.ext_getElem?
    intro j
    have hcs : (Value.agg (bcells (zeros 256))).cells = bcells (zeros 256) := rfl
    have hz : (bcells (zeros 256)).size = 256 := by rw [bcells_size, zeros_len]
    rw [bcells_get]
    by_cases hj : j < n * 256
    · have hk : j / 256 < (List.replicate n (zeros 256)).length := by rw [List.length_replicate]; omega
      have h5 := flat_get hb hk (show j % 256 < 256 by omega)
      rw [show j / 256 * 256 + j % 256 = j by omega] at h5
      rw [h5]
      have h6 : (bcells (zeros 256))[j % 256]! = Value.int .u8 0 := by
        have h7 : (bcells (zeros 256))[j % 256]? = some (.int .u8 0) := by rw [bcells_get, zeros, List.getElem?_replicate, if_pos (by omega)]; rfl
        rw [getElem!_def, h7]
      have h8 : (List.replicate n (zeros 256))[j / 256]'hk = zeros 256 := List.getElem_replicate hk
      have h9 : (zeros 256)[j % 256]? = some 0 := by rw [zeros, List.getElem?_replicate, if_pos (by omega)]
      rw [h8, h9, hcs]
      generalize bcells (zeros 256) = cs at h6 hz ⊢
      unfold madeCells
      rw [Array.getElem?_map, Array.getElem?_range, if_pos hj, hz]
      exact congrArg some h6
    · rw [List.getElem?_eq_none (by rw [hfl]; omega)]
      simp [madeCells, hj]
  rw [e1] at hr
  simpa using hr
theorem wpList_make_bk (hgd : Region.wanted o (yielded ops a.tmps) = true) (lo co : Operand) (t e : TypeId) (ho : o.op = .makeSlice t lo co) (ht : P.underlying t = some (.slice e)) (hi : (P.info? e).map (fun i => (i.zero, i.size, i.bytes)) = some (some (.agg (bcells (zeros 256))), 256, 256))
    (kl kc : IntKind) (X C : Int) (n : Nat) (hl : a.eval lo = .int kl X) (hc : a.eval co = .int kc C) (hX : X = n) (hC : C = n) (hn : n ≤ 1099511627776)
    (h : Stop (∀ w', Hid (Grew w w') → Hid (Blk w' w.heap.size e (bcells (List.replicate n (zeros 256)).flatten)) → wpList P ops Q rest (a.put o.dst (.slice (some ⟨w.heap.size, 0, none⟩) n n)) w')) : wpList P ops Q (o :: rest) a w := by
  refine wpList_wanted hgd fun K hK => ?_
  subst hX; subst hC
  have hr := run_make_bk P w t e ht hi kl kc n hn
  unfold Oper.wp execOp
  simp only [ho, Sem.run_bind, Sem.run_pure, Result.andThen_ok, hl, hc, hr]
  exact hK _ _ (h _ (Grew.alloc w _) (Blk.new w e _))
end

/-- A slice of blocks of the call's own. -/
def OwnK (w : World) (B : Nat) (e : TypeId) (v : Value) (L : List (List UInt8)) : Prop := Bks L ∧ w.ownsRow B e 256 v L.length (L.flatten.map fun x => Value.int .u8 (x.toNat : Int))
theorem OwnK.nil_ (w : World) (B : Nat) (e : TypeId) : OwnK w B e (.slice none 0 0) [] := ⟨Bks.nil_, World.ownsRow_nil w B e 256⟩
theorem OwnK.lt {w : World} {B : Nat} {e : TypeId} {v : Value} {L : List (List UInt8)} (h : OwnK w B e v L) : ∀ k, v.ownBlock = some k → B ≤ k ∧ k < w.heap.size := World.ownsRow.lt h.2
theorem OwnK.ext {w w' : World} {B : Nat} {e : TypeId} {v : Value} {L : List (List UInt8)} (h : OwnK w B e v L) (hb : Below w.heap.size w w') : OwnK w' B e v L := by
  obtain ⟨hL, hl, h | ⟨g, cap, cur, hv, hbg, hg, h⟩⟩ := h
  · exact ⟨hL, hl, Or.inl h⟩
  · exact ⟨hL, hl, Or.inr ⟨g, cap, cur, hv, hbg, Blk.ext hg hb, h⟩⟩
theorem OwnK.read {w : World} {B : Nat} {e : TypeId} {v : Value} {L : List (List UInt8)} (h : OwnK w B e v L) : ∃ A c, v = .slice A L.length c ∧ L.length ≤ c ∧ c ≤ maxLen ∧ RK w A L := by
  obtain ⟨hL, hl, h | ⟨g, cap, cur, hv, hb, hg, hn, hc, hs, ht⟩⟩ := h
  · refine ⟨none, 0, by rw [h.1, h.2], by omega, by unfold maxLen; omega, fun k hk => ?_⟩
    have := h.2
    omega
  · refine ⟨_, cap, hv, hn, hc, fun k hk i hi => ?_⟩
    have hil : i < L[k].length := by rw [hL.get hk]; exact hi
    refine ⟨_, L[k][i], rfl, List.getElem?_eq_getElem hil, ?_⟩
    have h2 : (cur.toList.take (L.length * 256))[k * 256 + i]? = (L.flatten.map fun x => Value.int .u8 (x.toNat : Int))[k * 256 + i]? := by rw [ht]
    rw [List.getElem?_take_of_lt (by omega), List.getElem?_map, flat_get hL hk hi, List.getElem?_eq_getElem hil] at h2
    rw [addr_add0, cell_of_row w g _ cur e (0, 0) hg]
    simpa using h2

section
variable {P : Program} {ops : Array Oper} {rest : List Oper} {o : Oper} {a : Act} {w : World} {K : Act → World → Prop} {Q : Exit → Act → World → Prop}
/-- append of blocks to a slice of the call's own. -/
theorem run_append_bk (P : Program) (w : World) (t ty e : TypeId) (ht : P.underlying t = some (.slice e)) (z : Value) (hi : (P.info? e).map (fun i => (i.zero, i.size, i.bytes)) = some (some z, 256, 256)) (hz : z.cells.size = 256)
    (B : Nat) (v : Value) (L : List (List UInt8)) (hown : OwnK w B e v L) (ad : Addr) (n c : Nat) (M : List (List UInt8)) (hM : Bks M) (hn : M.length = n) (hr : RK w (some ad) M) (hB : B ≤ w.heap.size) (hlen : L.length + n ≤ 549755813888) :
    ∃ v' w', (Builtin.append_ #[t, t] ty #[v, .slice (some ad) n c]).run P w = .ok v' w' ∧ OwnK w' B e v' (L ++ M) ∧ Below B w w' := by
  obtain ⟨i, h1, h2, h3, h4⟩ := info_parts hi
  have hrb := RK.bytes hM hr
  have hfl := flat_len hM
  obtain ⟨v', w', hrun, ho, hg, _⟩ := run_append_own (P := P) w B t ty e i z 256 256 ht h1 h2 h3 h4 hz (by omega) v L.length _ hown.2 ad n c (M.flatten.map fun x => Value.int .u8 (x.toNat : Int)) (by rw [List.length_map, hfl, hn]) (fun j u hj => by
    rw [List.getElem?_map] at hj
    obtain ⟨x, hx, rfl⟩ := Option.map_eq_some_iff.1 hj
    obtain ⟨hjl, rfl⟩ := List.getElem?_eq_some_iff.1 hx
    obtain ⟨ad', e1, hc⟩ := hrb j hjl
    injection e1 with e1
    subst e1
    exact hc) (fun u hu => by
    obtain ⟨x, _, rfl⟩ := List.mem_map.1 hu
    rfl) (by unfold maxLen; omega) (by omega) hB
  refine ⟨v', w', hrun, ⟨fun x hx => ?_, ?_⟩, (Below.refl B w).grown hg hB (fun k hk => (hown.lt k hk).1)⟩
  · rw [List.mem_append] at hx
    rcases hx with hx | hx
    · exact hown.1 x hx
    · exact hM x hx
  · rw [List.length_append, hn, List.flatten_append, List.map_append]
    exact ho
theorem wpList_append_bk (hgd : Region.wanted o (yielded ops a.tmps) = true) (s x : Operand) (t e : TypeId) (ho : o.op = .call { callee := .builtin .append, args := #[s, x], argTypes := #[t, t] })
    (ht : P.underlying t = some (.slice e)) (z : Value) (hi : (P.info? e).map (fun i => (i.zero, i.size, i.bytes)) = some (some z, 256, 256)) (hz : z.cells.size = 256)
    (B : Nat) (v : Value) (L : List (List UInt8)) (hown : OwnK w B e v L) (ad : Addr) (n c : Nat) (M : List (List UInt8)) (hM : Bks M) (hn : M.length = n) (hr : RK w (some ad) M) (hs : a.eval s = v) (hx : a.eval x = .slice (some ad) n c) (hB : B ≤ w.heap.size) (hlen : L.length + n ≤ 549755813888)
    (h : Stop (∀ v' w', Hid (OwnK w' B e v' (L ++ M)) → Hid (Below B w w') → wpList P ops Q rest (a.put o.dst v') w')) : wpList P ops Q (o :: rest) a w := by
  refine wpList_wanted hgd fun K hK => ?_
  obtain ⟨v', w', hrun, h1, h2⟩ := run_append_bk P w t o.type e ht z hi hz B v L hown ad n c M hM hn hr hB hlen
  unfold Oper.wp execOp
  simp only [ho, resolve, invoke, builtin, Sem.run_bind, Sem.run_pure, Result.andThen_ok, List.map_toArray, List.map_cons, List.map_nil, hs, hx, hrun]
  exact hK _ _ (h v' w' h1 h2)
end

end Go.Proofs.Ytefienjcdchebaa
