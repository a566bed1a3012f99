/-
  The program's: add (a new change waits for what it needs, and for those that it meets; it is the last one at its bytes).
-/
import Derived.Test.YtpmbpklbiocclaaGreatGrAL
import Derived.Test.YtpmbpklbiocclaaGreatGrAF
import Derived.Test.YtpmbpklbiocclaaGreatGrAA
namespace Go.Proofs.YtpmbpklbiocclaaGreat
open Go.RowKit

section
variable {P : Program} {ops : Array Oper} {rest : List Oper} {o : Oper} {a : Act} {w : World} {K : Act → World → Prop} {Q : Exit → Act → World → Prop}
theorem run_slice_at (P : Program) (w : World) (t N e : Nat) (hu : P.underlying t = some (.array N e)) (hs : (P.info? e).map (·.size) = some 1) (g off l h : Nat) (h1 : l ≤ h) (h2 : h ≤ N) (h3 : l < N) (kl kh : IntKind) :
    (Instr.sliceAt t (.pointer (some ⟨g, off, none⟩)) (some (.int kl l)) (some (.int kh h)) none).run P w = .ok (.slice (some ⟨g, off + l, none⟩) (h - l) (N - l)) w := by
  obtain ⟨i, hi, hiz⟩ := Option.map_eq_some_iff.1 hs
  have n3 : ¬ N = l := by omega
  have e : (⟨g, off, none⟩ : Addr).add l = ⟨g, off + l, none⟩ := by unfold Addr.add; split <;> simp_all
  simp [Instr.sliceAt, Instr.sureAddr, run_underlying hu, Instr.sliceBounds, Instr.sliceBound, asIntOf, sizeOf, typeInfo, hi, hiz, n3, e, h1, h2]
theorem exec_slice_at {o : Oper} (t : TypeId) (x lo hi : Operand) (ho : o.op = .slice t x (some lo) (some hi) none) (N e : Nat) (hu : P.underlying t = some (.array N e)) (hs : (P.info? e).map (·.size) = some 1)
    (g off : Nat) (hx : a.eval x = .pointer (some ⟨g, off, none⟩)) (kl kh : IntKind) (L H : Int) (hlo : a.eval lo = .int kl L) (hhi : a.eval hi = .int kh H) (l h : Nat) (hL : L = l) (hH : H = h) (h1 : l ≤ h) (h2 : h ≤ N) (h3 : l < N) (n c : Nat) (hn : h - l = n) (hc : N - l = c) :
    (execOp a.eval o).run P w = .ok (.value (.slice (some ⟨g, off + l, none⟩) n c)) w := by
  subst hL; subst hH; subst hn; subst hc
  have hr := run_slice_at P w t N e hu hs g off l h h1 h2 h3 kl kh
  unfold execOp
  simp only [ho, Sem.run_bind, Sem.run_pure, Result.andThen_ok, Option.map_some, Option.map_none, hx, hlo, hhi, hr]
theorem exec_lookP {o : Oper} {zv : Value} {b n : Nat} {m : Int → Option Value} (t : TypeId) (x y : Operand) (ho : o.op = .lookup t x y false) (K e : TypeId) (hk : P.underlying K = some (.int .i64)) (ht : P.underlying t = some (.map K e)) (hz : (P.info? e).map (·.zero) = some (some zv))
    (hx : a.eval x = .map (some b)) (hM : MapZ zv w P K b n m) (k : Int) (hy : a.eval y = .int .i64 k) (hw : (Lit.int .i64 k).wf = true) (u : Value) (hu : (m k).getD zv = u) : (execOp a.eval o).run P w = .ok (.value u) w := by
  rw [← hu]; exact exec_lookZ t x y ho K e hk ht hz hx hM k hy hw
theorem run_build_ptr (P : Program) (w : World) (t e : TypeId) (ht : P.underlying t = some (.slice e)) (z : Value) (by_ : Nat) (hi : (P.info? e).map (fun i => (i.zero, i.size, i.bytes)) = some (some z, 1, by_)) (n : Nat) :
    (Instr.buildSlice t 1 #[(0, ptr n)]).run P w = .ok (.slice (some ⟨w.heap.size, 0, none⟩) 1 1) (w.alloc (.cells #[ptr n] e)) := by
  obtain ⟨i, h1, h2, h3, h4⟩ := info_parts hi
  have hf : Instr.fill (fun i => some (i * 1, 1)) ((Array.range 1).map (z.cells[· % z.cells.size]!)) [(0, ptr n)] = some #[ptr n] := by
    have hsz : ((Array.range 1).map (z.cells[· % z.cells.size]!)).size = 1 := by simp
    generalize (Array.range 1).map (z.cells[· % z.cells.size]!) = cs at hsz
    obtain ⟨l⟩ := cs
    match l, hsz with
    | [c0], _ => simp [Instr.fill, Value.cells, ptr]
  exact run_buildSlice w t e 1 _ _ i z ht h1 h2 (by omega) (by omega) (by rw [h3]; exact hf)
theorem ow_build_ptr (t e : TypeId) (x : Operand) (ho : o.op = .buildSlice t 1 #[(0, x)]) (ht : P.underlying t = some (.slice e)) (z : Value) (by_ : Nat) (hi : (P.info? e).map (fun i => (i.zero, i.size, i.bytes)) = some (some z, 1, by_)) (n : Nat) (hx : a.eval x = ptr n)
    (h : Stop (∀ w', Hid (Grew w w') → Hid (Blk w' w.heap.size e #[ptr n]) → K (a.put o.dst (.slice (some ⟨w.heap.size, 0, none⟩) 1 1)) w')) : o.wp P a w K Q := by
  unfold Oper.wp execOp
  simp only [ho, hx, Sem.run_bind, List.map_toArray, List.map_cons, List.map_nil, run_build_ptr P w t e ht z by_ hi n, Result.andThen_ok]
  exact h _ (Grew.alloc w _) (Blk.new w e _)
theorem wpList_build_ptr (hgd : Region.wanted o (yielded ops a.tmps) = true) (t e : TypeId) (x : Operand) (ho : o.op = .buildSlice t 1 #[(0, x)]) (ht : P.underlying t = some (.slice e)) (z : Value) (by_ : Nat) (hi : (P.info? e).map (fun i => (i.zero, i.size, i.bytes)) = some (some z, 1, by_)) (n : Nat) (hx : a.eval x = ptr n)
    (h : Stop (∀ w', Hid (Grew w w') → Hid (Blk w' w.heap.size e #[ptr n]) → wpList P ops Q rest (a.put o.dst (.slice (some ⟨w.heap.size, 0, none⟩) 1 1)) w')) : wpList P ops Q (o :: rest) a w :=
  wpList_wanted hgd fun _ hK => ow_build_ptr t e x ho ht z by_ hi n hx (fun w' h1 h2 => hK _ _ (h w' h1 h2))
theorem ow_append_ptr (s x : Operand) (t e : TypeId) (ho : o.op = .call { callee := .builtin .append, args := #[s, x], argTypes := #[t, t] })
    (ht : P.underlying t = some (.slice e)) (z : Value) (by_ : Nat) (hi : (P.info? e).map (fun i => (i.zero, i.size, i.bytes)) = some (some z, 1, by_)) (hz : z.cells.size = 1)
    (B : Nat) (v : Value) (ha : Int → Nat) (l : List Int) (hs : a.eval s = v) (hown : OwnC w B e v (ptrs ha l)) (i : Int) (g0 : Nat) (hx : a.eval x = .slice (some ⟨g0, 0, none⟩) 1 1) (e0 : TypeId) (hg : Blk w g0 e0 #[ptr (ha i)])
    (hB : B ≤ w.heap.size) (hlen : l.length + 1 ≤ maxLen) (hby : (l.length + 1) * by_ ≤ 140737488355328)
    (h : Stop (∀ v' w', Hid (OwnC w' B e v' (ptrs ha (l ++ [i]))) → Hid (Lies w w' v v') → K (a.put o.dst v') w')) : o.wp P a w K Q := by
  obtain ⟨v', w', hr, h1, h2, h3⟩ := run_append_one P w t o.type e ht z by_ hi hz B v (ptrs ha l) hown (ptr (ha i)) rfl ⟨g0, 0, none⟩ 1 (hg.cell 0) hB (by rw [ptrs_len]; exact hlen) (by rw [ptrs_len]; exact hby)
  unfold Oper.wp execOp
  simp only [ho, resolve, invoke, builtin, Sem.run_bind, Sem.run_pure, Result.andThen_ok, List.map_toArray, List.map_cons, List.map_nil, hs, hx, hr]
  rw [ptrs_snoc] at h1
  exact h v' w' h1 ⟨h2, h3⟩
theorem wpList_append_ptr (hgd : Region.wanted o (yielded ops a.tmps) = true) (s x : Operand) (t e : TypeId) (ho : o.op = .call { callee := .builtin .append, args := #[s, x], argTypes := #[t, t] })
    (ht : P.underlying t = some (.slice e)) (z : Value) (by_ : Nat) (hi : (P.info? e).map (fun i => (i.zero, i.size, i.bytes)) = some (some z, 1, by_)) (hz : z.cells.size = 1)
    (B : Nat) (v : Value) (ha : Int → Nat) (l : List Int) (hs : a.eval s = v) (hown : OwnC w B e v (ptrs ha l)) (i : Int) (g0 : Nat) (hx : a.eval x = .slice (some ⟨g0, 0, none⟩) 1 1) (e0 : TypeId) (hg : Blk w g0 e0 #[ptr (ha i)])
    (hB : B ≤ w.heap.size) (hlen : l.length + 1 ≤ maxLen) (hby : (l.length + 1) * by_ ≤ 140737488355328)
    (h : Stop (∀ v' w', Hid (OwnC w' B e v' (ptrs ha (l ++ [i]))) → Hid (Lies w w' v v') → wpList P ops Q rest (a.put o.dst v') w')) : wpList P ops Q (o :: rest) a w :=
  wpList_wanted hgd fun _ hK => ow_append_ptr s x t e ho ht z by_ hi hz B v ha l hs hown i g0 hx e0 hg hB hlen hby (fun v' w' h1 h2 => hK _ _ (h v' w' h1 h2))
theorem run_build_two (P : Program) (w : World) (t e : TypeId) (ht : P.underlying t = some (.slice e)) (z : Value) (by_ : Nat) (hi : (P.info? e).map (fun i => (i.zero, i.size, i.bytes)) = some (some z, 1, by_)) (A : Option Addr) (n c : Nat) (A' : Option Addr) (n' c' : Nat) :
    (Instr.buildSlice t 2 #[(0, .slice A n c), (1, .slice A' n' c')]).run P w = .ok (.slice (some ⟨w.heap.size, 0, none⟩) 2 2) (w.alloc (.cells #[.slice A n c, .slice A' n' c'] e)) := by
  obtain ⟨i, h1, h2, h3, h4⟩ := info_parts hi
  have hf : Instr.fill (fun i => some (i * 1, 1)) ((Array.range 2).map (z.cells[· % z.cells.size]!)) [(0, .slice A n c), (1, .slice A' n' c')] = some #[.slice A n c, .slice A' n' c'] := by
    have hsz : ((Array.range 2).map (z.cells[· % z.cells.size]!)).size = 2 := by simp
    generalize (Array.range 2).map (z.cells[· % z.cells.size]!) = cs at hsz
    obtain ⟨l⟩ := cs
    match l, hsz with
    | [c0, c1], _ => simp [Instr.fill, Value.cells]
  exact run_buildSlice w t e 2 _ _ i z ht h1 h2 (by omega) (by omega) (by rw [h3]; exact hf)
theorem wpList_build_two (hgd : Region.wanted o (yielded ops a.tmps) = true) (t e : TypeId) (x y : Operand) (ho : o.op = .buildSlice t 2 #[(0, x), (1, y)]) (ht : P.underlying t = some (.slice e)) (z : Value) (by_ : Nat) (hi : (P.info? e).map (fun i => (i.zero, i.size, i.bytes)) = some (some z, 1, by_)) (A : Option Addr) (n c : Nat) (A' : Option Addr) (n' c' : Nat) (hx : a.eval x = .slice A n c) (hy : a.eval y = .slice A' n' c')
    (h : Stop (∀ w', Hid (Grew w w') → Hid (Blk w' w.heap.size e #[.slice A n c, .slice A' n' c']) → wpList P ops Q rest (a.put o.dst (.slice (some ⟨w.heap.size, 0, none⟩) 2 2)) w')) : wpList P ops Q (o :: rest) a w := by
  refine wpList_wanted hgd fun K hK => ?_
  unfold Oper.wp execOp
  simp only [ho, hx, hy, Sem.run_bind, List.map_toArray, List.map_cons, List.map_nil, run_build_two P w t e ht z by_ hi A n c A' n' c', Result.andThen_ok]
  exact hK _ _ (h _ (Grew.alloc w _) (Blk.new w e _))
end

def addB (f : Int → List Int) (x : Int) (L : List Int) : Int → List Int := fun i => if i ∈ L then f i ++ [x] else f i
theorem addB_nil (f : Int → List Int) (x : Int) : addB f x [] = f := by
  funext i
  unfold addB
  rw [if_neg (by simp)]
theorem addB_not {f : Int → List Int} {x : Int} {L : List Int} {i : Int} (h : i ∉ L) : addB f x L i = f i := if_neg h
theorem addB_step (f : Int → List Int) (x : Int) {L : List Int} (hn : L.Nodup) {k : Nat} (hk : k < L.length) : updF (addB f x (L.take k)) L[k] (addB f x (L.take k) L[k] ++ [x]) = addB f x (L.take (k + 1)) := by
  have e := take_snoc hk
  have h0 := nodup_take_not hn hk
  funext i
  unfold updF
  by_cases hi : i = L[k]
  · rw [if_pos hi, addB_not h0, hi]
    unfold addB
    rw [if_pos (by rw [e]; exact List.mem_append.2 (Or.inr (List.mem_singleton.2 rfl)))]
  · rw [if_neg hi]
    unfold addB
    by_cases h1 : i ∈ L.take k
    · rw [if_pos h1, if_pos (by rw [e]; exact List.mem_append.2 (Or.inl h1))]
    · rw [if_neg h1, if_neg (by rw [e]; exact fun h => (List.mem_append.1 h).elim h1 fun h => hi (List.mem_singleton.1 h))]
def latS (l : List Int) (lo k : Nat) (x : Int) : List Int := l.mapIdx fun j y => if lo ≤ j ∧ j < lo + k then x else y
theorem latS_len (l : List Int) (lo k : Nat) (x : Int) : (latS l lo k x).length = l.length := by simp [latS]
theorem latS_zero (l : List Int) (lo : Nat) (x : Int) : latS l lo 0 x = l := by
  apply List.ext_getElem?
  intro j
  unfold latS
  rw [List.getElem?_mapIdx]
  cases l[j]? with
  | none => rfl
  | some y => simp; omega
theorem latS_get (l : List Int) (lo k : Nat) (x : Int) (j : Nat) : (latS l lo k x)[j]? = (l[j]?).map fun y => if lo ≤ j ∧ j < lo + k then x else y := by
  unfold latS
  rw [List.getElem?_mapIdx]
theorem latS_set (l : List Int) (lo k : Nat) (x : Int) (h : lo + k < l.length) : (latS l lo k x).set (lo + k) x = latS l lo (k + 1) x := by
  apply List.ext_getElem?
  intro j
  rw [List.getElem?_set, latS_get, latS_get, latS_len]
  by_cases hj : lo + k = j
  · subst hj
    rw [if_pos rfl, if_pos h, List.getElem?_eq_getElem h]
    simp
  · rw [if_neg hj]
    congr 1
    funext y
    by_cases h1 : lo ≤ j ∧ j < lo + k
    · rw [if_pos h1, if_pos (by omega)]
    · rw [if_neg h1, if_neg (by omega)]
theorem updF_twice {ι β : Type} [DecidableEq ι] (f : ι → β) (i : ι) (x y : β) : updF (updF f i x) i y = updF f i y := by
  funext j
  unfold updF
  by_cases h : j = i
  · rw [if_pos h, if_pos h]
  · rw [if_neg h, if_neg h, if_neg h]
section
variable {w w' : World} {ro : Nat → Option Rl} {A : CA} {S : CS}
theorem HP.setLat (h : HP w ro A S) {k : Int} (hk : S.kn k = true) (t : List Int) (hl : t.length = 256) (ho : Only w w' (A.ka k)) (hb : Blk w' (A.ka k) 108 (kc (S.base k) (S.view k) (S.dirty k) (A.fv k) t).toArray) : HP w' ro A { S with lat := updF S.lat k t } := by
  have h1 := h.setK hk _ _ _ t ⟨(h.blkLen hk).1, (h.blkLen hk).2.1, hl⟩ ho hb
  simpa only [updF_self] using h1
theorem HP.setDirty (h : HP w ro A S) {k : Int} (hk : S.kn k = true) (d : Int) (ho : Only w w' (A.ka k)) (hb : Blk w' (A.ka k) 108 (kc (S.base k) (S.view k) d (A.fv k) (S.lat k)).toArray) : HP w' ro A { S with dirty := updF S.dirty k d } := by
  have h1 := h.setK hk _ _ d _ (h.blkLen hk) ho hb
  simpa only [updF_self] using h1
theorem HP.setView (h : HP w ro A S) {k : Int} (hk : S.kn k = true) (v : List UInt8) (hl : v.length = 256) (ho : Only w w' (A.ka k)) (hb : Blk w' (A.ka k) 108 (kc (S.base k) v (S.dirty k) (A.fv k) (S.lat k)).toArray) : HP w' ro A { S with view := updF S.view k v } := by
  have h1 := h.setK hk _ v _ _ ⟨(h.blkLen hk).1, hl, (h.blkLen hk).2.2⟩ ho hb
  simpa only [updF_self] using h1
theorem HP.setBase (h : HP w ro A S) {k : Int} (hk : S.kn k = true) (v : List UInt8) (hl : v.length = 256) (ho : Only w w' (A.ka k)) (hb : Blk w' (A.ka k) 108 (kc v (S.view k) (S.dirty k) (A.fv k) (S.lat k)).toArray) : HP w' ro A { S with base := updF S.base k v } := by
  have h1 := h.setK hk v _ _ _ ⟨hl, (h.blkLen hk).2⟩ ho hb
  simpa only [updF_self] using h1
theorem HP.apart (h : HP w ro A S) {i j : Int} (hi : S.live i = true) (hj : S.live j = true) (hij : i ≠ j) : A.ha i ≠ A.ha j := fun e => by
  have h1 := (h.asn (.chg i) hi).1
  have h2 := (h.asn (.chg j) hj).1
  rw [e, h2] at h1
  injection h1 with h1
  injection h1 with h1
  exact hij h1.symm
theorem HP.latRC (h : HP w ro A S) {k : Int} (hk : S.kn k = true) (lo n : Nat) : RC w (some ⟨A.ka k, 514 + lo, none⟩) (ivals (((S.lat k).drop lo).take n)) := fun j hj => by
  obtain ⟨h1, h2, h3⟩ := h.blkLen hk
  refine ⟨_, rfl, ?_⟩
  have e : (⟨A.ka k, 514 + lo, none⟩ : Addr).add j = ⟨A.ka k, 514 + (lo + j), none⟩ := by unfold Addr.add; split <;> simp_all [Nat.add_assoc]
  rw [ivals_len, List.length_take, List.length_drop] at hj
  rw [e, (h.kb hk).cell, List.getElem?_toArray, kc_lat h1 h2, List.getElem?_eq_getElem (by rw [ivals_len]; omega)]
  simp [ivals]
theorem stillL_len (f : Int → Bool) (l : List Int) : (stillL f l).length ≤ l.length := by
  unfold stillL sortI
  refine Nat.le_trans (Lib.compact_length_le _) ?_
  rw [List.length_mergeSort]
  exact List.length_filter_le _ _
end

end Go.Proofs.YtpmbpklbiocclaaGreat
