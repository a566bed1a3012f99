/-
  Texts of this claim joined: Arr, HeldT, AppB, RowsN, EqA, FnA, CloK, RetI, AppM, BldI.
-/
import Derived.Test.YtkakihbfhmiabaaGreatGrAA
import Derived.Laws.CopyRow
import Derived.Laws.IdiomStrings
import Derived.Test.YtkakihbfhmiabaaGreatGrAC
import Derived.ArgAppend
import Derived.Lib.SlBytesConst
import Derived.Great.BuildSlice
import Derived.Great.FillDense
import Derived.Deep.AppendLies
import Derived.Laws.StructEq
import Derived.Lib.SliceRun
import Derived.Laws.AppendOwn

/-
  More laws on arrays of bytes: a copy from a text, bytes as a text, '!=' of two arrays, a result that is an array beside another one. Plain; no program is named here.
-/
namespace Go.Proofs.YtkakihbfhmiabaaGreat
open Go.RowKit

section
variable {P : Program} {ops : Array Oper} {rest : List Oper} {o : Oper} {a : Act} {w : World} {Q : Exit → Act → World → Prop}

/-- copy of a text that fits into a block of bytes. -/
theorem run_copy_text (P : Program) (w : World) (dT sT ty elem : TypeId) (hu : P.underlying dT = some (.slice elem)) (hs : (P.info? elem).map (·.size) = some 1)
    (g off dLen dCap : Nat) (cur : List UInt8) (t : TypeId) (hg : Blk w g t (bcells cur)) (s : ByteArray) (hle : s.size ≤ dLen) (hd : off + dLen ≤ cur.length) :
    (Builtin.copy_ #[dT, sT] ty #[.slice (some ⟨g, off, none⟩) dLen dCap, .string s]).run P w = .ok (.int .i64 (s.size : Int)) (w.setRow g (bcells (splice cur off s.data.toList))) := by
  have hlen : s.data.toList.length = s.size := by simp
  have hst := run_storeCells_at P g off t (s.data.toList.map fun x : UInt8 => Value.int .u8 (x.toNat : Int)) 0 (bcells cur) w hg (by rw [bcells_size]; simp; omega) (by
    intro v hv
    obtain ⟨x, _, rfl⟩ := List.mem_map.1 hv
    rfl)
  have hmin : Nat.min s.size dLen = s.size := Nat.min_eq_left hle
  have htk : List.take s.size (s.data.toList.map fun x : UInt8 => Value.int .u8 (x.toNat : Int)) = s.data.toList.map fun x : UInt8 => Value.int .u8 (x.toNat : Int) := by
    rw [List.take_of_length_le (by rw [List.length_map, hlen]; exact Nat.le_refl _)]
  have e : (List.take (off + 0) (bcells cur).toList ++ (s.data.toList.map fun x : UInt8 => Value.int .u8 (x.toNat : Int)) ++ List.drop (off + 0 + (s.data.toList.map fun x : UInt8 => Value.int .u8 (x.toNat : Int)).length) (bcells cur).toList).toArray = bcells (splice cur off s.data.toList) := by
    simp only [bcells, splice, Nat.add_zero, List.length_map, List.map_append, List.map_take, List.map_drop]
  rw [e] at hst
  obtain ⟨i, hi, _⟩ := Option.map_eq_some_iff.1 hs
  simp [Builtin.copy_, run_underlying hu, Builtin.lenOf, Builtin.firstCells, sizeOf, typeInfo, hi, hmin]
  rw [htk, hst]
  rfl
theorem wpList_copy_text (hgd : Region.wanted o (yielded ops a.tmps) = true) (s x : Operand) (dT sT : TypeId) (ho : o.op = .call { callee := .builtin .copy, args := #[s, x], argTypes := #[dT, sT] }) (elem : TypeId) (hu : P.underlying dT = some (.slice elem)) (hs : (P.info? elem).map (·.size) = some 1)
    (g off dLen dCap : Nat) (cur : List UInt8) (t : TypeId) (hsv : a.eval s = .slice (some ⟨g, off, none⟩) dLen dCap) (hg : Blk w g t (bcells cur)) (d : ByteArray) (hxv : a.eval x = .string d) (hle : d.size ≤ dLen) (hd : off + dLen ≤ cur.length)
    (h : Stop (∀ w', Hid (Only w w' g) → Hid (Blk w' g t (bcells (splice cur off d.data.toList))) → wpList P ops Q rest (a.put o.dst (.int .i64 (d.size : Int))) w')) : wpList P ops Q (o :: rest) a w := by
  refine wpList_wanted hgd fun K hK => ?_
  have hrun := run_copy_text P w dT sT o.type elem hu hs g off dLen dCap cur t hg d hle hd
  unfold Oper.wp execOp
  simp only [ho, resolve, invoke, builtin, Sem.run_bind, Sem.run_pure, Result.andThen_ok, List.map_toArray, List.map_cons, List.map_nil, hsv, hxv, hrun]
  exact hK _ _ (h _ (Only.setRow hg _) (hg.setRow _))

/-- Bytes as a text. -/
theorem run_bytes_text (P : Program) (w : World) (src dst e : TypeId) (hs : P.underlying src = some (.slice e)) (he : P.underlying e = some (.int .u8)) (hd : P.underlying dst = some .string) (ad : Addr) (n c : Nat) (l : List UInt8) (hn : l.length = n) (hr : RB w (some ad) l) :
    (convert src dst (.slice (some ad) n c)).run P w = .ok (.string ⟨l.toArray⟩) w := by
  subst hn
  refine run_convert_bytes_back w src dst e ad c l hs he hd fun j hj => ?_
  obtain ⟨ad', e', hc⟩ := hr j hj
  injection e' with e'
  subst e'
  exact hc
theorem wpList_bytes_text (hgd : Region.wanted o (yielded ops a.tmps) = true) (src dst e : TypeId) (x : Operand) (ho : o.op = .convert src dst x) (hs : P.underlying src = some (.slice e)) (he : P.underlying e = some (.int .u8)) (hd : P.underlying dst = some .string)
    (ad : Addr) (n c : Nat) (hx : a.eval x = .slice (some ad) n c) (l : List UInt8) (hn : l.length = n) (hr : RB w (some ad) l)
    (h : wpList P ops Q rest (a.put o.dst (.string ⟨l.toArray⟩)) w) : wpList P ops Q (o :: rest) a w := by
  refine wpList_wanted hgd fun K hK => ?_
  have hrun := run_bytes_text P w src dst e hs he hd ad n c l hn hr
  unfold Oper.wp execOp
  simp only [ho, hx, Sem.run_bind, Sem.run_pure, Result.andThen_ok, hrun]
  exact hK _ _ h

/-- '!=' on two arrays of bytes. -/
theorem run_neq_bytes (P : Program) (w : World) (t e : TypeId) (n : Nat) (ht : P.underlying t = some (.array n e)) (he : P.underlying e = some (.int .u8)) (hs : (P.info? e).map (·.size) = some 1) (xs ys : List UInt8) (hx : xs.length = n) (hy : ys.length = n) :
    (binOp .neq t (.agg (bcells xs)) (.agg (bcells ys))).run P w = .ok (.bool (!(xs == ys))) w := by
  have h := run_equalIn_bytes (P := P) w 9998 t e n ht he (sizeOf_of hs) xs ys hx hy
  have e1 : (xs.map Extern.Stop.cell).toArray = bcells xs := rfl
  have e2 : (ys.map Extern.Stop.cell).toArray = bcells ys := rfl
  rw [e1, e2] at h
  rw [run_neq_struct, h]
  rfl
theorem wpList_neq_arr (hgd : Region.wanted o (yielded ops a.tmps) = true) (t t' : TypeId) (x y : Operand) (ho : o.op = .binOp .neq t x y t') (hm : P.eqGuardType P.depth t = false) (n e : Nat) (ht : P.underlying t = some (.array n e)) (he : P.underlying e = some (.int .u8)) (hs : (P.info? e).map (·.size) = some 1)
    (xs ys : List UInt8) (hx : a.eval x = .agg (bcells xs)) (hy : a.eval y = .agg (bcells ys)) (hxl : xs.length = n) (hyl : ys.length = n) (r : Bool) (hr : (!(xs == ys)) = r)
    (h : wpList P ops Q rest (a.put o.dst (.bool r)) w) : wpList P ops Q (o :: rest) a w := by
  refine wpList_wanted hgd fun K hK => ?_
  have hrun := run_neq_bytes P w t e n ht he hs xs ys hxl hyl
  rw [hr] at hrun
  unfold Oper.wp execOp
  simp only [ho, hx, hy, Sem.run_bind, run_eqGuard_agg w .neq t x y (bcells xs) (bcells ys) hm, Result.andThen_ok, hrun]
  exact hK _ _ h

/-- The runs of two of these by themselves. -/
theorem exec_neq_arr {o : Oper} (t t' : TypeId) (x y : Operand) (ho : o.op = .binOp .neq t x y t') (hm : P.eqGuardType P.depth t = false) (n e : Nat) (ht : P.underlying t = some (.array n e)) (he : P.underlying e = some (.int .u8)) (hs : (P.info? e).map (·.size) = some 1)
    (xs ys : List UInt8) (hx : a.eval x = .agg (bcells xs)) (hy : a.eval y = .agg (bcells ys)) (hxl : xs.length = n) (hyl : ys.length = n) (r : Bool) (hr : (!(xs == ys)) = r) : (execOp a.eval o).run P w = .ok (.value (.bool r)) w := by
  have hrun := run_neq_bytes P w t e n ht he hs xs ys hxl hyl
  rw [hr] at hrun
  unfold execOp
  simp only [ho, hx, hy, Sem.run_bind, run_eqGuard_agg w .neq t x y (bcells xs) (bcells ys) hm, Result.andThen_ok, hrun]
  rfl
theorem exec_build_zero {o : Oper} (t : TypeId) (ho : o.op = .build t #[]) (cs : Array Value) (hz : (P.info? t).map (·.zero) = some (some (.agg cs))) (n e : Nat) (hu : P.underlying t = some (.array n e)) (he : (P.info? e).map (·.size) = some 1) : (execOp a.eval o).run P w = .ok (.value (.agg cs)) w := by
  unfold execOp
  simp only [ho, Sem.run_bind, List.map_toArray, List.map_nil, run_build_zero P w t cs hz n e hu he, Result.andThen_ok]
  rfl

/-- The first result lies in a block, the second one in a slot. -/
theorem bodyPost_cell_tmp {R : Ending → World → Prop} {fn : Func} {p q : Tmp} {t : TypeId} (hf : fn.results = #[ResultVar.cell p t, ResultVar.tmp q]) (g : Nat) (hp : a.tmps.getD p undef = .pointer (some ⟨g, 0, none⟩)) (t' : TypeId) (cs : Array Value) (hg : Blk w g t' cs)
    (n : Nat) (e : TypeId) (hu : P.underlying t = some (.array n e)) (hi : (P.info? t).map (·.size) = some cs.size) (hd : a.defers = []) (v : Value) (hq : a.tmps.getD q undef = v) (hR : Stop (R (.returned (.tuple #[.agg cs, v])) w)) : bodyPost P fn R .ret a w := by
  refine bodyPost_ret (v := .tuple #[.agg cs, v]) ?_ hd hR
  have hp' : a.tmps[p]?.getD undef = .pointer (some ⟨g, 0, none⟩) := by simpa using hp
  have hq' : a.tmps[q]?.getD undef = v := by simpa using hq
  simp [results, hf, hp', hq', asAddr, run_loadVar_row w g t' t cs (0, 0) _ hg hu rfl hi]
/-- The same of a struct. -/
theorem bodyPost_struct_tmp {R : Ending → World → Prop} {fn : Func} {p q : Tmp} {t : TypeId} (hf : fn.results = #[ResultVar.cell p t, ResultVar.tmp q]) (g : Nat) (hp : a.tmps.getD p undef = .pointer (some ⟨g, 0, none⟩)) (t' : TypeId) (cs : Array Value) (hg : Blk w g t' cs)
    (d : TypeDesc) (hu : P.underlying t = some d) (hd1 : (match d with | .struct _ | .array _ _ => true | _ => false) = true) (hi : (P.info? t).map (·.size) = some cs.size) (hd : a.defers = []) (v : Value) (hq : a.tmps.getD q undef = v) (hR : Stop (R (.returned (.tuple #[.agg cs, v])) w)) : bodyPost P fn R .ret a w := by
  refine bodyPost_ret (v := .tuple #[.agg cs, v]) ?_ hd hR
  have hp' : a.tmps[p]?.getD undef = .pointer (some ⟨g, 0, none⟩) := by simpa using hp
  have hq' : a.tmps[q]?.getD undef = v := by simpa using hq
  simp [results, hf, hp', hq', asAddr, run_loadVar_row w g t' t cs (0, 0) _ hg hu hd1 hi]
end

end Go.Proofs.YtkakihbfhmiabaaGreat

/-
  A region that draws its order and ends in one operation z (a store, say) behind which S need not hold: what hangs on S alone is taken first, where z waits for it. Plain; no program is named here.
-/
namespace Go.Proofs.YtkakihbfhmiabaaGreat
open Go.RowKit

section
variable {P : Program} {ops : Array Oper} {Q : Exit → Act → World → Prop} {S : World → Prop} {z : Nat}

/-- Whatever comes up next; behind each but z, S holds. -/
def wpAnyT (P : Program) (ops : Array Oper) (Q : Exit → Act → World → Prop) (S : World → Prop) (z : Nat) : Nat → Array Bool → Act → World → Prop
  | 0, listed, a, w => Region.ready .any ops listed = [] ∧ Q .normal a w
  | fuel + 1, listed, a, w => (Region.ready .any ops listed = [] → Q .normal a w) ∧ ∀ i ∈ Region.ready .any ops listed, wpOp P ops Q i (fun a' w' => (i = z ∨ S w') ∧ wpAnyT P ops Q S z fuel (listed.setIfInBounds i true) a' w') a w
theorem wpAny_of_tail : ∀ (fuel : Nat) (listed : Array Bool) (a : Act) (w : World), wpAnyT P ops Q S z fuel listed a w → wpAny P .any ops Q fuel listed a w := by
  intro fuel
  induction fuel with
  | zero => intro listed a w h; exact h
  | succ fuel ih => intro listed a w h; exact ⟨h.1, fun i hi => wpOp_mono (fun a' w' h' => ih _ a' w' h'.2) (h.2 i hi)⟩
/-- One that waits for i. -/
def waitsOn (ops : Array Oper) (i j : Nat) : Bool := match ops[j]? with
  | some o => o.after.any fun e => Region.binds .any e && e.on == i
  | none => false
/-- None of a row from i to z has come up, each waiting for the one ahead of it. -/
def aheadB (ops : Array Oper) (listed : Array Bool) (z : Nat) : Nat → Nat → Bool
  | 0, _ => false
  | f + 1, i => !(listed.getD i true) && ((i == z) || (List.range ops.size).any fun j => waitsOn ops i j && aheadB ops listed z f j)
theorem not_ready_of_waits {listed : Array Bool} {i j : Nat} (hw : waitsOn ops i j = true) (hi : listed.getD i true = false) : j ∉ Region.ready .any ops listed := by
  intro hj
  obtain ⟨_, o, ho, hall⟩ := mem_ready.1 hj
  unfold waitsOn at hw
  rw [ho] at hw
  obtain ⟨e, he, hb⟩ := Array.any_eq_true'.1 hw
  rw [Bool.and_eq_true, beq_iff_eq] at hb
  have h1 := hall e he hb.1
  rw [hb.2] at h1
  rcases Nat.lt_or_ge i listed.size with h' | h'
  · simp [h'] at hi h1; rw [hi] at h1; cases h1
  · simp [Array.getElem?_eq_none h'] at h1
theorem ahead_step {listed : Array Bool} {j : Nat} (hj : j ∈ Region.ready .any ops listed) : ∀ (f i : Nat), aheadB ops listed z f i = true → j ≠ i → aheadB ops (listed.setIfInBounds j true) z f i = true ∧ j ≠ z := by
  intro f
  induction f with
  | zero => intro i h _; cases h
  | succ f ih =>
    intro i h hne
    unfold aheadB at h
    rw [Bool.and_eq_true, Bool.not_eq_true', Bool.or_eq_true] at h
    have h0 : (listed.setIfInBounds j true).getD i true = false := by rw [getD_set_ne true hne]; exact h.1
    rcases h.2 with h2 | h2
    · have e : i = z := by simpa using h2
      refine ⟨?_, fun e2 => hne (e2.trans e.symm)⟩
      unfold aheadB
      rw [h0, h2]
      rfl
    · rw [List.any_eq_true] at h2
      obtain ⟨k, hk, hkk⟩ := h2
      rw [Bool.and_eq_true] at hkk
      have hjk : j ≠ k := fun e => not_ready_of_waits hkk.1 h.1 (e ▸ hj)
      obtain ⟨h3, h4⟩ := ih k hkk.2 hjk
      refine ⟨?_, h4⟩
      unfold aheadB
      rw [h0, Bool.not_false, Bool.true_and, Bool.or_eq_true]
      exact Or.inr (List.any_eq_true.2 ⟨k, hk, by rw [hkk.1, h3]; rfl⟩)
/-- One that may come up now, and that z waits for, may be taken first. -/
theorem wpAnyT_first {i : Nat} {oi : Oper} {v : Value} (hi : ops[i]? = some oi) (hsel : ∀ (j : Nat) (o : Oper) cs b, ops[j]? = some o → o.op ≠ .select cs b)
    (hQ : ∀ c a w, Q (.panic c) (a.put oi.dst v) w → Q (.panic c) a w) (F : Nat) : ∀ (fuel : Nat) (listed : Array Bool) (a : Act) (w : World), aheadB ops listed z F i = true →
      (∀ j oj, ops[j]? = some oj → j ≠ i → listed.getD j true = false → (∀ e ∈ oj.after, Region.binds .any e = true → e.on ≠ i) → oi.apart ops oj = true) →
      i ∈ Region.ready .any ops listed → YieldsIf P ops S oi v a → S w → wpAnyT P ops Q S z fuel (listed.setIfInBounds i true) (a.put oi.dst v) w → wpAnyT P ops Q S z (fuel + 1) listed a w := by
  intro fuel
  induction fuel with
  | zero =>
    intro listed a w _ _ hr hy hS H
    refine ⟨fun h => (by rw [h] at hr; cases hr), fun j hj => ?_⟩
    by_cases hji : j = i
    · subst hji
      exact hy.wpOp hi hS ⟨Or.inr hS, H⟩
    · have := ready_mono hj hji
      rw [H.1] at this
      cases this
  | succ fuel ih =>
    intro listed a w ha hfree hr hy hS H
    refine ⟨fun h => (by rw [h] at hr; cases hr), fun j hj => ?_⟩
    by_cases hji : j = i
    · subst hji
      exact hy.wpOp hi hS ⟨Or.inr hS, H⟩
    · obtain ⟨ha2, hjz⟩ := ahead_step hj F i ha hji
      obtain ⟨hjun, oj, hoj, hall⟩ := mem_ready.1 hj
      have hnot : ∀ e ∈ oj.after, Region.binds .any e = true → e.on ≠ i := fun e he hb heq => by
        have h1 := hall e he hb
        have h0 := (mem_ready.1 hr).1
        rw [heq] at h1
        rcases Nat.lt_or_ge i listed.size with h' | h'
        · simp [h'] at h0 h1; rw [h0] at h1; cases h1
        · simp [Array.getElem?_eq_none h'] at h1
      have h2 := wpOp_putIf hoj (hfree j oj hoj hji hjun hnot) (fun cs b => hsel i oi cs b hi) (fun cs b => hsel j oj cs b hoj) hQ hy (H.2 j (ready_mono hj hji))
      have hfree' : ∀ k ok, ops[k]? = some ok → k ≠ i → (listed.setIfInBounds j true).getD k true = false → (∀ e ∈ ok.after, Region.binds .any e = true → e.on ≠ i) → oi.apart ops ok = true := fun k ok hk hki hun hno => by
        refine hfree k ok hk hki ?_ hno
        by_cases hjk : j = k
        · subst hjk; exact hjun
        · rw [getD_set_ne true hjk] at hun; exact hun
      refine wpOp_mono (fun a' w' h3 => ?_) h2
      have hS3 := h3.2.1.resolve_left hjz
      refine ⟨Or.inr hS3, ih (listed.setIfInBounds j true) a' w' ha2 hfree' (ready_mono hr (Ne.symm hji)) h3.1 hS3 ?_⟩
      rw [Array.setIfInBounds_comm _ _ hji]
      exact h3.2.2
end

section
variable {P : Program} {l : List Oper} {Q : Exit → Act → World → Prop} {S : World → Prop} {z : Nat} {listed : List Bool} {n : Nat} {a : Act} {w : World}
/-- What is left of the region. -/
def WT (P : Program) (l : List Oper) (Q : Exit → Act → World → Prop) (S : World → Prop) (z : Nat) (listed : List Bool) (n : Nat) (a : Act) (w : World) : Prop :=
  wpAnyT P l.toArray Q S z n listed.toArray a w
theorem WT.start {id : Nat} (z : Nat) (listed : List Bool) (n : Nat) (hl : listed = List.replicate l.length false) (hn : l.length = n) (hm : P.follows .mixedOrders = true) (hS : S w.drew) (h : S w.drew → WT P l Q S z listed n a w.drew) : (Code.region id l.toArray true).wp P Q a w := by
  have h' := h hS
  subst hl; subst hn
  have e : (List.replicate l.length false).toArray = Array.replicate l.toArray.size false := by simp
  unfold WT at h'
  rw [e] at h'
  exact wp_region_any hm (wpAny_of_tail _ _ _ _ (by simpa using h'))
/-- The side conditions of a take, one Bool. -/
def takesT (l : List Oper) (listed : List Bool) (z i : Nat) : Bool := takes l listed i && aheadB l.toArray listed.toArray z l.length i
theorem WT.take (i : Nat) (o : Oper) (v : Value) (hi : l[i]? = some o) (ht : takesT l listed z i = true) (hQ : ∀ c a w, Q (.panic c) (a.put o.dst v) w → Q (.panic c) a w)
    (hw : Region.wanted o (yielded l.toArray a.tmps) = true) (hS : S w) (hy : ∀ w, S w → (execOp a.eval o).run P w = .ok (.value v) w)
    (h : WT P l Q S z (listed.set i true) n (a.put o.dst v) w) : WT P l Q S z listed (n + 1) a w := by
  simp only [takesT, takes, Bool.and_eq_true] at ht
  have hi' : l.toArray[i]? = some o := by simpa using hi
  refine wpAnyT_first (oi := o) (v := v) hi' (Region.noSelect_spec ht.1.1.1) hQ l.length n _ a w ht.2 (Region.free_spec hi' ht.1.1.2) (by simpa using ht.1.2) (Or.inl ⟨hw, hy⟩) hS ?_
  unfold WT at h
  simpa using h
/-- .. with what is the same at every place laid in. -/
theorem WT.tk {v : Value} (i : Nat) {o : Oper} (h : WT P l Q S z (listed.set i true) n (a.put o.dst v) w) (hi : l[i]? = some o := by exact rfl) (ht : takesT l listed z i = true := by kernel_rfl) (hQ : ∀ c a w, Q (.panic c) (a.put o.dst v) w → Q (.panic c) a w := by exact fun _ _ _ h => h)
    (hw : Region.wanted o (yielded l.toArray a.tmps) = true := by exact rfl) (hS : S w := by assumption) (hy : ∀ w, S w → (execOp a.eval o).run P w = .ok (.value v) w := by intro w hSw; (try dsimp only at hSw); first | (go_simp; done) | (go_simp; with_reducible rfl)) : WT P l Q S z listed (n + 1) a w :=
  WT.take i o v hi ht hQ hw hS hy h
theorem WT.tv {v : Value} (i : Nat) {o : Oper} (hi : l[i]? = some o) (hy : ∀ w, S w → (execOp a.eval o).run P w = .ok (.value v) w) (h : WT P l Q S z (listed.set i true) n (a.put o.dst v) w) (ht : takesT l listed z i = true := by kernel_rfl) (hQ : ∀ c a w, Q (.panic c) (a.put o.dst v) w → Q (.panic c) a w := by exact fun _ _ _ h => h)
    (hw : Region.wanted o (yielded l.toArray a.tmps) = true := by exact rfl) (hS : S w := by assumption) : WT P l Q S z listed (n + 1) a w :=
  WT.take i o v hi ht hQ hw hS hy h
theorem WT.all {rs : List Nat} (hr : Region.ready .any l.toArray listed.toArray = rs) (hne : rs ≠ [])
    (h : ∀ i ∈ rs, wpOp P l.toArray Q i (fun a' w' => (i = z ∨ S w') ∧ wpAnyT P l.toArray Q S z n (listed.toArray.setIfInBounds i true) a' w') a w) : WT P l Q S z listed (n + 1) a w :=
  ⟨fun h0 => absurd (hr ▸ h0) hne, hr ▸ h⟩
/-- The only one that may come up. -/
theorem WT.only (i : Nat) (o : Oper) (hi : l[i]? = some o) (hr : Region.ready .any l.toArray listed.toArray = [i]) (hw : Region.wanted o (yielded l.toArray a.tmps) = true)
    (h : ∀ K : Act → World → Prop, (∀ a' w', S w' → WT P l Q S z (listed.set i true) n a' w' → K a' w') → o.wp P a w K Q) : WT P l Q S z listed (n + 1) a w := by
  refine WT.all (rs := [i]) hr (by simp) fun j hj => ?_
  obtain rfl : j = i := by simpa using hj
  have hi' : l.toArray[j]? = some o := by simpa using hi
  unfold Go.wpOp
  simp only [hi', hw, if_true]
  refine Or.inl (h _ fun a' w' h1 h2 => ⟨Or.inr h1, ?_⟩)
  unfold WT at h2
  simpa using h2
/-- .. the last one. -/
theorem WT.last (o : Oper) (hi : l[z]? = some o) (hr : Region.ready .any l.toArray listed.toArray = [z]) (hw : Region.wanted o (yielded l.toArray a.tmps) = true)
    (h : ∀ K : Act → World → Prop, (∀ a' w', WT P l Q S z (listed.set z true) n a' w' → K a' w') → o.wp P a w K Q) : WT P l Q S z listed (n + 1) a w := by
  refine WT.all (rs := [z]) hr (by simp) fun j hj => ?_
  obtain rfl : j = z := by simpa using hj
  have hi' : l.toArray[j]? = some o := by simpa using hi
  unfold Go.wpOp
  simp only [hi', hw, if_true]
  refine Or.inl (h _ fun a' w' h2 => ⟨Or.inl (by first | rfl | trivial), ?_⟩)
  unfold WT at h2
  simpa using h2
theorem WT.two (i j : Nat) (oi oj : Oper) (hi : l[i]? = some oi) (hj : l[j]? = some oj) (hr : Region.ready .any l.toArray listed.toArray = [i, j]) (hwi : Region.wanted oi (yielded l.toArray a.tmps) = true) (hwj : Region.wanted oj (yielded l.toArray a.tmps) = true)
    (h1 : ∀ K : Act → World → Prop, (∀ a' w', S w' → WT P l Q S z (listed.set i true) n a' w' → K a' w') → oi.wp P a w K Q)
    (h2 : ∀ K : Act → World → Prop, (∀ a' w', S w' → WT P l Q S z (listed.set j true) n a' w' → K a' w') → oj.wp P a w K Q) : WT P l Q S z listed (n + 1) a w := by
  refine WT.all (rs := [i, j]) hr (by simp) fun k hk => ?_
  have hi' : l.toArray[i]? = some oi := by simpa using hi
  have hj' : l.toArray[j]? = some oj := by simpa using hj
  have hk' : k = i ∨ k = j := by simpa using hk
  rcases hk' with rfl | rfl
  · unfold Go.wpOp
    simp only [hi', hwi, if_true]
    refine Or.inl (h1 _ fun a' w' g1 g2 => ⟨Or.inr g1, ?_⟩)
    unfold WT at g2
    simpa using g2
  · unfold Go.wpOp
    simp only [hj', hwj, if_true]
    refine Or.inl (h2 _ fun a' w' g1 g2 => ⟨Or.inr g1, ?_⟩)
    unfold WT at g2
    simpa using g2
theorem WT.done (hr : Region.ready .any l.toArray listed.toArray = []) (h : Q .normal a w) : WT P l Q S z listed n a w := by
  unfold WT
  cases n with
  | zero => exact ⟨hr, h⟩
  | succ n => exact ⟨fun _ => h, by rw [hr]; simp⟩
end

end Go.Proofs.YtkakihbfhmiabaaGreat

/-
  Bytes appended to bytes: where there is no room, and to a slice of the call's own; a constant text as bytes. Plain; no program is named here.
-/
namespace Go.Proofs.YtkakihbfhmiabaaGreat
open Go.RowKit

section
variable {P : Program} {ops : Array Oper} {rest : List Oper} {o : Oper} {a : Act} {w : World} {Q : Exit → Act → World → Prop}

theorem RB.cellsOf {A : Addr} {l : List UInt8} (h : RB w (some A) l) : ∀ j u, (l.map fun x => Value.int .u8 (x.toNat : Int))[j]? = some u → w.cell? (A.add j) = some u := fun j u hj => by
  rw [List.getElem?_map] at hj
  obtain ⟨x, hx, rfl⟩ := Option.map_eq_some_iff.1 hj
  obtain ⟨hjl, rfl⟩ := List.getElem?_eq_some_iff.1 hx
  obtain ⟨ad, e1, hc⟩ := h j hjl
  injection e1 with e1
  subst e1
  exact hc
theorem oneCell_bytes (l : List UInt8) : ∀ u ∈ l.map fun x => Value.int .u8 (x.toNat : Int), u.oneCell' = true := fun u hu => by
  obtain ⟨x, _, rfl⟩ := List.mem_map.1 hu
  rfl
/-- There is no room. -/
theorem wpList_append_grow_bytes (hgd : Region.wanted o (yielded ops a.tmps) = true) (s x : Operand) (t e : TypeId) (ho : o.op = .call { callee := .builtin .append, args := #[s, x], argTypes := #[t, t] })
    (ht : P.underlying t = some (.slice e)) (hi : (P.info? e).map (fun i => (i.zero, i.size, i.bytes)) = some (some (.int .u8 0), 1, 1))
    (ad : Addr) (n c : Nat) (l : List UInt8) (hs : a.eval s = .slice (some ad) n c) (hn : l.length = n) (hr : RB w (some ad) l)
    (A : Option Addr) (m c' : Nat) (l' : List UInt8) (hx : a.eval x = .slice A m c') (hm : l'.length = m) (hr' : RB w A l') (h0 : 0 < m) (hfull : c < n + m) (hlen : n + m ≤ 140737488355328)
    (h : Stop (∀ v' w', Hid (OwnB w' w.heap.size e v' (l ++ l')) → Hid (Below w.heap.size w w') → wpList P ops Q rest (a.put o.dst v') w')) : wpList P ops Q (o :: rest) a w := by
  obtain ⟨i, h1, h2, h3, h4⟩ := info_parts hi
  obtain ⟨ad', rfl⟩ := hr'.addr (by omega)
  obtain ⟨v', w', hrun, r1, r2⟩ := run_append_arg_grows (P := P) w t o.type e i (.int .u8 0) 1 1 ht h1 h2 h3 h4 rfl (by omega) ad n c (l.map fun x => Value.int .u8 (x.toNat : Int)) (by simp [hn]) hr.cellsOf ad' m c' (l'.map fun x => Value.int .u8 (x.toNat : Int)) (by simp [hm]) hr'.cellsOf hfull (by unfold maxLen; omega) (by omega)
  refine wpList_wanted hgd fun K hK => ?_
  unfold Oper.wp execOp
  simp only [ho, resolve, invoke, builtin, Sem.run_bind, Sem.run_pure, Result.andThen_ok, List.map_toArray, List.map_cons, List.map_nil, hs, hx, hrun]
  refine hK _ _ (h v' w' ?_ ?_)
  · unfold OwnB
    rw [List.length_append, hn, hm, List.map_append]
    exact r1
  · exact (Below.refl _ _).grown r2 (Nat.le_refl _) (fun k hk => by cases hk)
/-- The slice is the call's own. -/
theorem run_append_own_bytes (P : Program) (w : World) (t ty e : TypeId)
    (ht : P.underlying t = some (.slice e)) (hi : (P.info? e).map (fun i => (i.zero, i.size, i.bytes)) = some (some (.int .u8 0), 1, 1))
    (B : Nat) (v : Value) (l : List UInt8) (hown : OwnB w B e v l) (hB : B ≤ w.heap.size)
    (A : Option Addr) (m c' : Nat) (l' : List UInt8) (hm : l'.length = m) (hr' : RB w A l') (h0 : 0 < m) (hlen : l.length + m ≤ 140737488355328) :
    ∃ v' w', (Builtin.append_ #[t, t] ty #[v, .slice A m c']).run P w = .ok v' w' ∧ OwnB w' B e v' (l ++ l') ∧ Below B w w' := by
  obtain ⟨i, h1, h2, h3, h4⟩ := info_parts hi
  obtain ⟨ad', rfl⟩ := hr'.addr (by omega)
  obtain ⟨v', w', hrun, r1, r2, _⟩ := run_append_own (P := P) w B t ty e i (.int .u8 0) 1 1 ht h1 h2 h3 h4 rfl (by omega) v l.length _ hown ad' m c' (l'.map fun x => Value.int .u8 (x.toNat : Int)) (by simp [hm]) hr'.cellsOf (oneCell_bytes l') (by unfold maxLen; omega) (by omega) hB
  refine ⟨v', w', hrun, ?_, ?_⟩
  · unfold OwnB
    rw [List.length_append, hm, List.map_append]
    exact r1
  · exact (Below.refl _ _).grown r2 hB (fun k hk => (World.ownsRow.lt hown k hk).1)
theorem wpList_append_own_bytes (hgd : Region.wanted o (yielded ops a.tmps) = true) (s x : Operand) (t e : TypeId) (ho : o.op = .call { callee := .builtin .append, args := #[s, x], argTypes := #[t, t] })
    (ht : P.underlying t = some (.slice e)) (hi : (P.info? e).map (fun i => (i.zero, i.size, i.bytes)) = some (some (.int .u8 0), 1, 1))
    (B : Nat) (v : Value) (l : List UInt8) (hs : a.eval s = v) (hown : OwnB w B e v l) (hB : B ≤ w.heap.size)
    (A : Option Addr) (m c' : Nat) (l' : List UInt8) (hx : a.eval x = .slice A m c') (hm : l'.length = m) (hr' : RB w A l') (h0 : 0 < m) (hlen : l.length + m ≤ 140737488355328)
    (h : Stop (∀ v' w', Hid (OwnB w' B e v' (l ++ l')) → Hid (Below B w w') → wpList P ops Q rest (a.put o.dst v') w')) : wpList P ops Q (o :: rest) a w := by
  obtain ⟨v', w', hrun, r1, r2⟩ := run_append_own_bytes P w t o.type e ht hi B v l hown hB A m c' l' hm hr' h0 hlen
  refine wpList_wanted hgd fun K hK => ?_
  unfold Oper.wp execOp
  simp only [ho, resolve, invoke, builtin, Sem.run_bind, Sem.run_pure, Result.andThen_ok, List.map_toArray, List.map_cons, List.map_nil, hs, hx, hrun]
  exact hK _ _ (h v' w' r1 r2)
variable {K : Act → World → Prop} in
theorem ow_append_own_bytes (s x : Operand) (t e : TypeId) (ho : o.op = .call { callee := .builtin .append, args := #[s, x], argTypes := #[t, t] })
    (ht : P.underlying t = some (.slice e)) (hi : (P.info? e).map (fun i => (i.zero, i.size, i.bytes)) = some (some (.int .u8 0), 1, 1))
    (B : Nat) (v : Value) (l : List UInt8) (hs : a.eval s = v) (hown : OwnB w B e v l) (hB : B ≤ w.heap.size)
    (A : Option Addr) (m c' : Nat) (l' : List UInt8) (hx : a.eval x = .slice A m c') (hm : l'.length = m) (hr' : RB w A l') (h0 : 0 < m) (hlen : l.length + m ≤ 140737488355328)
    (h : Stop (∀ v' w', Hid (OwnB w' B e v' (l ++ l')) → Hid (Below B w w') → K (a.put o.dst v') w')) : o.wp P a w K Q := by
  obtain ⟨v', w', hrun, r1, r2⟩ := run_append_own_bytes P w t o.type e ht hi B v l hown hB A m c' l' hm hr' h0 hlen
  unfold Oper.wp execOp
  simp only [ho, resolve, invoke, builtin, Sem.run_bind, Sem.run_pure, Result.andThen_ok, List.map_toArray, List.map_cons, List.map_nil, hs, hx, hrun]
  exact h v' w' r1 r2
variable {K : Act → World → Prop} in
theorem ow_make_bytes (lo co : Operand) (t e : TypeId) (ho : o.op = .makeSlice t lo co) (ht : P.underlying t = some (.slice e)) (hi : (P.info? e).map (fun i => (i.zero, i.size, i.bytes)) = some (some (.int .u8 0), 1, 1))
    (kl kc : IntKind) (L C : Int) (n : Nat) (hl : a.eval lo = .int kl L) (hc : a.eval co = .int kc C) (hL : L = n) (hC : C = n) (hn : n ≤ 281474976710656)
    (h : Stop (∀ w', Hid (Grew w w') → Hid (Blk w' w.heap.size e (bcells (zeros n))) → K (a.put o.dst (.slice (some ⟨w.heap.size, 0, none⟩) n n)) w')) : o.wp P a w K Q := by
  subst hL; subst hC
  have hr := run_make_zeros P w t e ht hi kl kc n hn
  unfold Oper.wp execOp
  simp only [ho, Sem.run_bind, Sem.run_pure, Result.andThen_ok, hl, hc, hr]
  exact h _ (Grew.alloc w _) (Blk.new w e _)
/-- A slice of the call's own, behind what leaves it. -/
theorem OwnB.below {w w' : World} {B : Nat} {e : TypeId} {v : Value} {l : List UInt8} (h : OwnB w B e v l) (hb : Below w.heap.size w w') : OwnB w' B e v l := by
  obtain ⟨hl, hx | ⟨g, cap, cur, hv, hB, hg, hn, hc, hs, ht⟩⟩ := h
  · exact ⟨hl, Or.inl hx⟩
  · have hlt : g < w.heap.size := by
      rcases Nat.lt_or_ge g w.heap.size with h' | h'
      · exact h'
      · rw [Array.getElem?_eq_none h'] at hg; cases hg
    exact ⟨hl, Or.inr ⟨g, cap, cur, hv, hB, (hb.block g hlt).trans hg, hn, hc, hs, ht⟩⟩
/-- A constant text, as bytes: its block. -/
theorem grew_marked (w : World) (C : Array Value) (e : TypeId) (fr : Nat × Nat) : Grew w (w.alloc (.cells C e fr)) := Grew.alloc w _
theorem rb_marked (w : World) (l : List UInt8) (e : TypeId) (fr : Nat × Nat) : RB (w.alloc (.cells (bcells l) e fr)) (some ⟨w.heap.size, 0, none⟩) l := fun k hk => by
  refine ⟨_, rfl, ?_⟩
  have e1 : (⟨w.heap.size, 0, none⟩ : Addr).add k = ⟨w.heap.size, k, none⟩ := by unfold Addr.add; split <;> simp_all
  rw [e1, World.cell?_alloc_mark, bcells_get, List.getElem?_eq_getElem hk]
  rfl
theorem wpList_conv_text (hgd : Region.wanted o (yielded ops a.tmps) = true) (t e : TypeId) (x : Operand) (ho : o.op = .convert t t x) (ht : P.underlying t = some (.slice e)) (he : P.underlying e = some (.int .u8))
    (l : List UInt8) (cs : Array Value) (hcs : cs = bcells l) (n c : Nat) (hx : a.eval x = .slice (some ⟨w.heap.size, 0, none⟩) n c)
    (h : Stop (∀ w', Hid (Grew w w') → Hid (RB w' (some ⟨w.heap.size, 0, none⟩) l) → wpList P ops Q rest (a.put o.dst (.slice (some ⟨w.heap.size, 0, none⟩) n c)) w')) : wpList P ops Q (o :: rest) a (w.alloc (.cells cs e)) := by
  subst hcs
  refine wpList_wanted hgd fun K hK => ?_
  have hrun := Lib.run_convert_bytes_const (P := P) w t e (bcells l) n c ht he
  unfold Oper.wp execOp
  simp only [ho, hx, Sem.run_bind, Sem.run_pure, Result.andThen_ok, hrun]
  exact hK _ _ (h _ (grew_marked w _ _ _) (rb_marked w l _ _))
end

end Go.Proofs.YtkakihbfhmiabaaGreat

/-
  Rows of structs of N one-cell fields, of the call's own: one struct made as a slice, appended, read. Plain; no program is named here.
-/
namespace Go.Proofs.YtkakihbfhmiabaaGreat
open Go.RowKit

theorem flatN_len {N : Nat} {L : List (List Value)} (h : ∀ r ∈ L, r.length = N) : L.flatten.length = L.length * N := by
  induction L with
  | nil => simp
  | cons x L ih =>
    rw [List.flatten_cons, List.length_append, ih (fun r hr => h r (List.mem_cons_of_mem _ hr)), h x (by simp), List.length_cons, Nat.add_mul, Nat.one_mul, Nat.add_comm]
theorem flatN_get {N : Nat} {L : List (List Value)} (h : ∀ r ∈ L, r.length = N) {k i : Nat} (hk : k < L.length) (hi : i < N) : L.flatten[k * N + i]? = L[k][i]? := by
  induction L generalizing k with
  | nil => simp at hk
  | cons x L ih =>
    have hx := h x (by simp)
    rw [List.flatten_cons]
    cases k with
    | zero =>
      rw [Nat.zero_mul, Nat.zero_add, List.getElem?_append_left (by omega)]
      rfl
    | succ k =>
      have hk' : k < L.length := by simpa using hk
      rw [List.getElem?_append_right (by rw [hx, Nat.add_mul]; omega)]
      have e : (k + 1) * N + i - x.length = k * N + i := by rw [hx, Nat.add_mul]; omega
      rw [e, ih (fun r hr => h r (List.mem_cons_of_mem _ hr)) hk']
      rfl
/-- A slice with this address has these cells, N for each element. -/
def RN (w : World) (A : Option Addr) (N : Nat) (L : List (List Value)) : Prop :=
  ∀ k (h : k < L.length) i, i < N → ∃ ad x, A = some ad ∧ L[k][i]? = some x ∧ w.cell? (ad.add (k * N + i)) = some x
theorem RN.below {w w' : World} {A : Option Addr} {N : Nat} {L : List (List Value)} (h : RN w A N L) (hb : Below w.heap.size w w') : RN w' A N L := fun k hk i hi => by
  obtain ⟨ad, x, e, hx, hc⟩ := h k hk i hi
  exact ⟨ad, x, e, hx, by rw [hb.cell (block_lt_of_cell hc), hc]⟩
/-- .. of the call's own. -/
def OwnN (w : World) (B : Nat) (e : TypeId) (N : Nat) (v : Value) (L : List (List Value)) : Prop := (∀ r ∈ L, r.length = N) ∧ w.ownsRow B e N v L.length L.flatten
theorem OwnN.nil_ (w : World) (B : Nat) (e : TypeId) (N : Nat) : OwnN w B e N (.slice none 0 0) [] := ⟨fun r hr => by simp at hr, World.ownsRow_nil w B e N⟩
theorem OwnN.lt {w : World} {B : Nat} {e : TypeId} {N : Nat} {v : Value} {L : List (List Value)} (h : OwnN w B e N v L) : ∀ k, v.ownBlock = some k → B ≤ k ∧ k < w.heap.size := World.ownsRow.lt h.2
theorem OwnN.ext {w w' : World} {B : Nat} {e : TypeId} {N : Nat} {v : Value} {L : List (List Value)} (h : OwnN w B e N v L) (hb : Below w.heap.size w w') : OwnN w' B e N v L := by
  obtain ⟨hL, hl, h | ⟨g, cap, cur, hv, hbg, hg, h⟩⟩ := h
  · exact ⟨hL, hl, Or.inl h⟩
  · exact ⟨hL, hl, Or.inr ⟨g, cap, cur, hv, hbg, Blk.ext hg hb, h⟩⟩
theorem OwnN.read {w : World} {B : Nat} {e : TypeId} {N : Nat} {v : Value} {L : List (List Value)} (h : OwnN w B e N v L) : ∃ A c, v = .slice A L.length c ∧ L.length ≤ c ∧ c ≤ maxLen ∧ RN w A N L := by
  obtain ⟨hL, hl, h | ⟨g, cap, cur, hv, hb, hg, hn, hc, hs, ht⟩⟩ := h
  · refine ⟨none, 0, by rw [h.1, h.2], by omega, by unfold maxLen; omega, fun k hk => ?_⟩
    have := h.2
    omega
  · refine ⟨_, cap, hv, hn, hc, fun k hk i hi => ?_⟩
    have hil : i < L[k].length := by rw [hL _ (List.getElem_mem hk)]; exact hi
    refine ⟨_, L[k][i], rfl, List.getElem?_eq_getElem hil, ?_⟩
    have h2 : (cur.toList.take (L.length * N))[k * N + i]? = L.flatten[k * N + i]? := by rw [ht]
    have hlt : k * N + i < L.length * N := by
      have : (k + 1) * N ≤ L.length * N := Nat.mul_le_mul_right N hk
      rw [Nat.add_mul] at this
      omega
    rw [List.getElem?_take_of_lt hlt, flatN_get hL hk hi, List.getElem?_eq_getElem hil] at h2
    rw [addr_add0, cell_of_row w g _ cur e (0, 0) hg]
    simpa using h2
/-- .. no element of which is there: the block is empty, or there is none. -/
theorem OwnN.zero (w : World) (B : Nat) (e : TypeId) (N g : Nat) (hB : B ≤ g) (hg : Blk w g e #[]) : OwnN w B e N (.slice (some ⟨g, 0, none⟩) 0 0) [] :=
  ⟨fun r hr => by simp at hr, by simp, Or.inr ⟨g, 0, #[], rfl, hB, hg, Nat.le_refl _, by unfold maxLen; omega, by simp, by simp⟩⟩

section
variable {P : Program} {ops : Array Oper} {rest : List Oper} {o : Oper} {a : Act} {w : World} {K : Act → World → Prop} {Q : Exit → Act → World → Prop}
/-- A slice of one struct. -/
theorem run_build_row (P : Program) (w : World) (t e : TypeId) (ht : P.underlying t = some (.slice e)) (N by_ : Nat) (z : Value) (hi : (P.info? e).map (fun i => (i.zero, i.size, i.bytes)) = some (some z, N, by_)) (h0 : 0 < N) (hN : N ≤ 65536) (cs : Array Value) (hcs : cs.size = N) :
    (Instr.buildSlice t 1 #[(0, .agg cs)]).run P w = .ok (.slice (some ⟨w.heap.size, 0, none⟩) 1 1) (w.alloc (.cells cs e)) := by
  obtain ⟨i, h1, h2, h3, h4⟩ := info_parts hi
  have hsz : ((Array.range (1 * N)).map (z.cells[· % z.cells.size]!)).size = N := by rw [Array.size_map, Array.size_range, Nat.one_mul]
  have hf : Instr.fill (fun j => some (j * N, N)) ((Array.range (1 * N)).map (z.cells[· % z.cells.size]!)) [(0, .agg cs)] = some cs := by
    generalize (Array.range (1 * N)).map (z.cells[· % z.cells.size]!) = c0 at hsz
    have hw := Go.Great.fill_whole (s := N) h0 [.agg cs] c0 (fun v hv => by
      rw [List.mem_singleton] at hv
      subst hv
      exact hcs) (by rw [hsz, List.length_singleton, Nat.one_mul])
    have e1 : (([.agg cs] : List Value).flatMap fun v => v.cells.toList).toArray = cs := by
      rw [List.flatMap_cons, List.flatMap_nil, List.append_nil]
      exact Array.toArray_toList
    rw [e1] at hw
    exact hw
  exact run_buildSlice (P := P) w t e 1 #[(0, .agg cs)] cs i z ht h1 h2 (by rw [h3]; omega) (by rw [h3]; omega) (by rw [h3]; exact hf)
theorem ow_build_row (t e : TypeId) (x : Operand) (ho : o.op = .buildSlice t 1 #[(0, x)]) (ht : P.underlying t = some (.slice e)) (N by_ : Nat) (z : Value) (hi : (P.info? e).map (fun i => (i.zero, i.size, i.bytes)) = some (some z, N, by_)) (h0 : 0 < N) (hN : N ≤ 65536)
    (cs : Array Value) (hx : a.eval x = .agg cs) (hcs : cs.size = N) (h : Stop (∀ w', Hid (Grew w w') → Hid (Blk w' w.heap.size e cs) → K (a.put o.dst (.slice (some ⟨w.heap.size, 0, none⟩) 1 1)) w')) : o.wp P a w K Q := by
  unfold Oper.wp execOp
  simp only [ho, hx, Sem.run_bind, List.map_toArray, List.map_cons, List.map_nil, run_build_row P w t e ht N by_ z hi h0 hN cs hcs, Result.andThen_ok]
  exact h _ (Grew.alloc w _) (Blk.new w e _)
theorem wpList_build_row (hgd : Region.wanted o (yielded ops a.tmps) = true) (t e : TypeId) (x : Operand) (ho : o.op = .buildSlice t 1 #[(0, x)]) (ht : P.underlying t = some (.slice e)) (N by_ : Nat) (z : Value) (hi : (P.info? e).map (fun i => (i.zero, i.size, i.bytes)) = some (some z, N, by_)) (h0 : 0 < N) (hN : N ≤ 65536)
    (cs : Array Value) (hx : a.eval x = .agg cs) (hcs : cs.size = N) (h : Stop (∀ w', Hid (Grew w w') → Hid (Blk w' w.heap.size e cs) → wpList P ops Q rest (a.put o.dst (.slice (some ⟨w.heap.size, 0, none⟩) 1 1)) w')) : wpList P ops Q (o :: rest) a w :=
  wpList_wanted hgd fun _ hK => ow_build_row t e x ho ht N by_ z hi h0 hN cs hx hcs (fun w' h1 h2 => hK _ _ (h w' h1 h2))
/-- append of structs to a slice of the call's own: where it lies, and that no block but its own has changed. -/
theorem run_append_row (P : Program) (w : World) (t ty e : TypeId) (ht : P.underlying t = some (.slice e)) (N by_ : Nat) (z : Value) (hi : (P.info? e).map (fun i => (i.zero, i.size, i.bytes)) = some (some z, N, by_)) (hz : z.cells.size = N) (h0 : 0 < N)
    (B : Nat) (v : Value) (L : List (List Value)) (hown : OwnN w B e N v L) (ad : Addr) (n c : Nat) (M : List (List Value)) (hM : ∀ r ∈ M, r.length = N ∧ ∀ u ∈ r, u.oneCell' = true) (hn : M.length = n) (hn0 : 0 < n) (hr : RN w (some ad) N M) (hB : B ≤ w.heap.size) (hlen : L.length + n ≤ 140737488355328) (hby : (L.length + n) * by_ ≤ 140737488355328) :
    ∃ g cap w', (Builtin.append_ #[t, t] ty #[v, .slice (some ad) n c]).run P w = .ok (.slice (some ⟨g, 0, none⟩) (L.length + n) cap) w' ∧ OwnN w' B e N (.slice (some ⟨g, 0, none⟩) (L.length + n) cap) (L ++ M) ∧ Below B w w' ∧ w.grownBy w' v.ownBlock ∧ (v.ownBlock = some g ∨ g = w.heap.size) ∧ g < w'.heap.size := by
  obtain ⟨i, h1, h2, h3, h4⟩ := info_parts hi
  have hM1 : ∀ r ∈ M, r.length = N := fun r hr => (hM r hr).1
  have hfl := flatN_len hM1
  obtain ⟨g, cap, w', hrun, ho, hg, hw, hlt⟩ := run_append_lies (P := P) (w := w) t ty B e i z N by_ ht h1 h2 h3 h4 hz h0 v L.length _ hown.2 ad n c M.flatten (by rw [hfl, hn]) (fun j u hj => by
    have hjl : j < M.length * N := by
      have := (List.getElem?_eq_some_iff.1 hj).1
      rwa [hfl] at this
    have hk : j / N < M.length := (Nat.div_lt_iff_lt_mul h0).2 hjl
    obtain ⟨ad', x, e1, hx, hc⟩ := hr (j / N) hk (j % N) (Nat.mod_lt _ h0)
    injection e1 with e1
    subst e1
    have hjj : j / N * N + j % N = j := by rw [Nat.mul_comm]; exact Nat.div_add_mod j N
    rw [hjj] at hc
    have h5 := flatN_get hM1 hk (Nat.mod_lt j h0)
    rw [hjj, hj, hx] at h5
    injection h5 with h5
    rw [hc, h5]) (fun u hu => by
    obtain ⟨r, hr1, hr2⟩ := List.mem_flatten.1 hu
    exact (hM r hr1).2 u hr2) hn0 (by unfold maxLen; omega) hby hB w.heap.size rfl
  refine ⟨g, cap, w', hrun, ⟨fun r hr => ?_, ?_⟩, (Below.refl B w).grown hg hB (fun k hk => (hown.lt k hk).1), hg, hw, hlt⟩
  · rcases List.mem_append.1 hr with hr | hr
    · exact hown.1 r hr
    · exact hM1 r hr
  · rw [List.length_append, hn, List.flatten_append]
    exact ho
/-- One struct that lies in a block of its own, as a row. -/
theorem RN.one {w : World} {g N : Nat} {e : TypeId} {cs : Array Value} (hg : Blk w g e cs) (hcs : cs.size = N) : RN w (some ⟨g, 0, none⟩) N [cs.toList] := fun k hk i hi => by
  have h0 : k = 0 := by simpa using hk
  subst h0
  refine ⟨_, cs[i]'(by omega), rfl, by simp [show i < cs.size by omega], ?_⟩
  rw [addr_add0, Nat.zero_mul, Nat.zero_add, hg.cell, Array.getElem?_eq_getElem (by omega)]
theorem ow_append_row1 (s x : Operand) (t e : TypeId) (ho : o.op = .call { callee := .builtin .append, args := #[s, x], argTypes := #[t, t] })
    (ht : P.underlying t = some (.slice e)) (N by_ : Nat) (z : Value) (hi : (P.info? e).map (fun i => (i.zero, i.size, i.bytes)) = some (some z, N, by_)) (hz : z.cells.size = N) (h0 : 0 < N)
    (B : Nat) (v : Value) (L : List (List Value)) (hs : a.eval s = v) (hown : OwnN w B e N v L) (g0 : Nat) (cs : Array Value) (hx : a.eval x = .slice (some ⟨g0, 0, none⟩) 1 1) (hg : Blk w g0 e cs) (hcs : cs.size = N) (h1 : cs.all (·.oneCell') = true) (hB : B ≤ w.heap.size) (hlen : L.length + 1 ≤ 140737488355328) (hby : (L.length + 1) * by_ ≤ 140737488355328)
    (h : Stop (∀ g cap w', Hid (OwnN w' B e N (.slice (some ⟨g, 0, none⟩) (L.length + 1) cap) (L ++ [cs.toList])) → Hid (Below B w w') → Hid (w.grownBy w' v.ownBlock) → Hid ((v.ownBlock = some g ∨ g = w.heap.size) ∧ g < w'.heap.size) → K (a.put o.dst (.slice (some ⟨g, 0, none⟩) (L.length + 1) cap)) w')) : o.wp P a w K Q := by
  obtain ⟨g, cap, w', hrun, g1, g2, g3, g4, g5⟩ := run_append_row P w t o.type e ht N by_ z hi hz h0 B v L hown ⟨g0, 0, none⟩ 1 1 [cs.toList] (fun r hr => by
    rw [List.mem_singleton] at hr
    subst hr
    exact ⟨by rw [Array.length_toList]; exact hcs, fun u hu => Array.all_eq_true_iff_forall_mem.1 h1 u (Array.mem_toList_iff.1 hu)⟩) rfl (by decide) (RN.one hg hcs) hB hlen hby
  unfold Oper.wp execOp
  simp only [ho, resolve, invoke, builtin, Sem.run_bind, Sem.run_pure, Result.andThen_ok, List.map_toArray, List.map_cons, List.map_nil, hs, hx, hrun]
  exact h g cap w' g1 g2 g3 ⟨g4, g5⟩
theorem wpList_append_row1 (hgd : Region.wanted o (yielded ops a.tmps) = true) (s x : Operand) (t e : TypeId) (ho : o.op = .call { callee := .builtin .append, args := #[s, x], argTypes := #[t, t] })
    (ht : P.underlying t = some (.slice e)) (N by_ : Nat) (z : Value) (hi : (P.info? e).map (fun i => (i.zero, i.size, i.bytes)) = some (some z, N, by_)) (hz : z.cells.size = N) (h0 : 0 < N)
    (B : Nat) (v : Value) (L : List (List Value)) (hs : a.eval s = v) (hown : OwnN w B e N v L) (g0 : Nat) (cs : Array Value) (hx : a.eval x = .slice (some ⟨g0, 0, none⟩) 1 1) (hg : Blk w g0 e cs) (hcs : cs.size = N) (h1 : cs.all (·.oneCell') = true) (hB : B ≤ w.heap.size) (hlen : L.length + 1 ≤ 140737488355328) (hby : (L.length + 1) * by_ ≤ 140737488355328)
    (h : Stop (∀ g cap w', Hid (OwnN w' B e N (.slice (some ⟨g, 0, none⟩) (L.length + 1) cap) (L ++ [cs.toList])) → Hid (Below B w w') → Hid (w.grownBy w' v.ownBlock) → Hid ((v.ownBlock = some g ∨ g = w.heap.size) ∧ g < w'.heap.size) → wpList P ops Q rest (a.put o.dst (.slice (some ⟨g, 0, none⟩) (L.length + 1) cap)) w')) : wpList P ops Q (o :: rest) a w :=
  wpList_wanted hgd fun _ hK => ow_append_row1 s x t e ho ht N by_ z hi hz h0 B v L hs hown g0 cs hx hg hcs h1 hB hlen hby (fun g cap w' q1 q2 q3 q4 => hK _ _ (h g cap w' q1 q2 q3 q4))
end

end Go.Proofs.YtkakihbfhmiabaaGreat

/-
  '==' of any struct or array by the run of the operation; OK, or ErrArg. Plain; no program is named here.
-/
namespace Go.Proofs.YtkakihbfhmiabaaGreat
open Go.RowKit

/-- OK, or ErrArg. -/
def okArg (b : Bool) : Int := if b then 0 else 1
theorem okArg_true : okArg true = 0 := rfl
theorem okArg_false : okArg false = 1 := rfl

section
variable {P : Program} {ops : Array Oper} {rest : List Oper} {o : Oper} {a : Act} {w : World} {Q : Exit → Act → World → Prop}
/-- '==', '!=' on two values of a struct's or an array's type, by the run of the operation. -/
theorem wpList_eql_agg (hgd : Region.wanted o (yielded ops a.tmps) = true) (b : BinOp) (t t' : TypeId) (x y : Operand) (ho : o.op = .binOp b t x y t') (hm : P.eqGuardType P.depth t = false)
    (xs ys : Array Value) (hx : a.eval x = .agg xs) (hy : a.eval y = .agg ys) (v : Value) (hrun : (binOp b t (.agg xs) (.agg ys)).run P w = .ok v w)
    (h : wpList P ops Q rest (a.put o.dst v) w) : wpList P ops Q (o :: rest) a w := by
  refine wpList_wanted hgd fun K hK => ?_
  unfold Oper.wp execOp
  simp only [ho, hx, hy, Sem.run_bind, run_eqGuard_agg w b t x y xs ys hm, Result.andThen_ok, hrun]
  exact hK _ _ h
/-- '==', '!=' of values, where the walk is to stop behind it (a law that is tried at an operation whose guard is false hangs). -/
theorem wpList_eql_stop (hgd : Region.wanted o (yielded ops a.tmps) = true) (b : BinOp) (t t' : TypeId) (x y : Operand) (ho : o.op = .binOp b t x y t') (hm : P.eqGuardType P.depth t = false)
    (xs ys : Array Value) (hx : a.eval x = .agg xs) (hy : a.eval y = .agg ys) (v : Value) (hrun : (binOp b t (.agg xs) (.agg ys)).run P w = .ok v w)
    (h : Stop (wpList P ops Q rest (a.put o.dst v) w)) : wpList P ops Q (o :: rest) a w := wpList_eql_agg hgd b t t' x y ho hm xs ys hx hy v hrun h
theorem exec_eql_agg {o : Oper} (b : BinOp) (t t' : TypeId) (x y : Operand) (ho : o.op = .binOp b t x y t') (hm : P.eqGuardType P.depth t = false)
    (xs ys : Array Value) (hx : a.eval x = .agg xs) (hy : a.eval y = .agg ys) (v : Value) (hrun : (binOp b t (.agg xs) (.agg ys)).run P w = .ok v w) : (execOp a.eval o).run P w = .ok (.value v) w := by
  unfold execOp
  simp only [ho, hx, hy, Sem.run_bind, run_eqGuard_agg w b t x y xs ys hm, Result.andThen_ok, hrun]
  rfl
/-- '==' on two arrays of bytes. -/
theorem exec_eql_arr {o : Oper} (t t' : TypeId) (x y : Operand) (ho : o.op = .binOp .eql t x y t') (hm : P.eqGuardType P.depth t = false) (n e : Nat) (ht : P.underlying t = some (.array n e)) (he : P.underlying e = some (.int .u8)) (hs : (P.info? e).map (·.size) = some 1)
    (xs ys : List UInt8) (hx : a.eval x = .agg (bcells xs)) (hy : a.eval y = .agg (bcells ys)) (hxl : xs.length = n) (hyl : ys.length = n) (r : Bool) (hr : (xs == ys) = r) : (execOp a.eval o).run P w = .ok (.value (.bool r)) w := by
  have hrun : (binOp .eql t (.agg (bcells xs)) (.agg (bcells ys))).run P w = .ok (.bool (xs == ys)) w := run_eql_bytes w t e n ht he (sizeOf_of hs) xs ys hxl hyl
  rw [hr] at hrun
  unfold execOp
  simp only [ho, hx, hy, Sem.run_bind, run_eqGuard_agg w .eql t x y (bcells xs) (bcells ys) hm, Result.andThen_ok, hrun]
  rfl
end

end Go.Proofs.YtkakihbfhmiabaaGreat

/-
  '==' of a function and nil. Plain; no program is named here.
-/
namespace Go.Proofs.YtkakihbfhmiabaaGreat
open Go.RowKit

theorem run_equalIn_func_nil {P : Program} (w : World) (d : Nat) (t : TypeId) {ps rs : Array TypeId} {v : Bool} (f : Fn) (a b : Array Value) (h : P.underlying t = some (.func ps rs v)) :
    (Op.equalIn (d + 1) t (.func f a b) .nilFunc).run P w = .ok false w := by
  simp [Op.equalIn, run_underlying h]
/-- '==' of a function and nil. -/
theorem run_eql_func_nil {P : Program} (w : World) (t : TypeId) {ps rs : Array TypeId} {v : Bool} (f : Fn) (a b : Array Value) (h : P.underlying t = some (.func ps rs v)) :
    (binOp .eql t (.func f a b) .nilFunc).run P w = .ok (.bool false) w := by
  simp only [binOp]
  simp [Op.equal, Op.maxDepth, run_equalIn_func_nil w 9999 t f a b h]
theorem run_equalIn_nil_nil {P : Program} (w : World) (d : Nat) (t : TypeId) {ps rs : Array TypeId} {v : Bool} (h : P.underlying t = some (.func ps rs v)) :
    (Op.equalIn (d + 1) t .nilFunc .nilFunc).run P w = .ok true w := by
  simp [Op.equalIn, run_underlying h]
theorem run_eql_nil_func {P : Program} (w : World) (t : TypeId) {ps rs : Array TypeId} {v : Bool} (h : P.underlying t = some (.func ps rs v)) :
    (binOp .eql t .nilFunc .nilFunc).run P w = .ok (.bool true) w := by
  simp only [binOp]
  simp [Op.equal, Op.maxDepth, run_equalIn_nil_nil w 9999 t h]

end Go.Proofs.YtkakihbfhmiabaaGreat

/-
  Contract of slices.Clone of blocks (of 1 to 512).
-/
namespace Go.Proofs.YtkakihbfhmiabaaGreat
open Go.RowKit

theorem RK.same {w w' : World} {g : Nat} {L : List (List UInt8)} (h : RK w (some ⟨g, 0, none⟩) L) (hb : w'.heap[g]? = w.heap[g]?) : RK w' (some ⟨g, 0, none⟩) L := fun k hk i hi => by
  obtain ⟨ad, x, e, hx, hc⟩ := h k hk i hi
  refine ⟨ad, x, e, hx, ?_⟩
  injection e with e
  rw [← hc, ← e]
  unfold World.cell?
  rw [block_of_add, hb]

section
variable {P : Program} {ops : Array Oper} {rest : List Oper} {o : Oper} {a : Act} {w : World} {K : Act → World → Prop} {Q : Exit → Act → World → Prop}
theorem run_build0k (P : Program) (w : World) (t e : TypeId) (ht : P.underlying t = some (.slice e)) (hs : (P.info? e).map (·.size) = some 256) : (Instr.buildSlice t 0 #[]).run P w = .ok (.slice (some ⟨w.heap.size, 0, none⟩) 0 0) (w.alloc (.cells #[] e)) := by
  obtain ⟨i, hq, hsz⟩ := Option.map_eq_some_iff.1 hs
  have e0 : Array.map (fun _ : Nat => (default : Value)) (Array.range 0) = #[] := Array.eq_empty_of_size_eq_zero (by simp)
  simp [Instr.buildSlice, run_underlying ht, sizeOf, typeInfo, hq, Instr.fill]
  rw [e0]
  rfl
theorem wpList_build0k (hgd : Region.wanted o (yielded ops a.tmps) = true) (t e : TypeId) (ho : o.op = .buildSlice t 0 #[]) (ht : P.underlying t = some (.slice e)) (hs : (P.info? e).map (·.size) = some 256)
    (h : Stop (∀ w', Hid (Below w.heap.size w w') → Hid (OwnK w' w.heap.size e (.slice (some ⟨w.heap.size, 0, none⟩) 0 0) []) → wpList P ops Q rest (a.put o.dst (.slice (some ⟨w.heap.size, 0, none⟩) 0 0)) w')) : wpList P ops Q (o :: rest) a w := by
  refine wpList_wanted hgd fun K hK => ?_
  unfold Oper.wp execOp
  simp only [ho, Sem.run_bind, List.map_toArray, List.map_nil, run_build0k P w t e ht hs, Result.andThen_ok]
  exact hK _ _ (h _ ((Below.refl _ _).alloc (Nat.le_refl _) _) ⟨Bks.nil_, by simp, Or.inr ⟨w.heap.size, 0, #[], rfl, Nat.le_refl _, heap_alloc_new w _, Nat.le_refl _, by unfold maxLen; omega, by simp, by simp⟩⟩)
end

set_option maxHeartbeats 400000 in
theorem cloneK_any (ad : Addr) (n c : Nat) (L : List (List UInt8)) (hL : Bks L) (hn : L.length = n) (h0 : 0 < n) (hm : n ≤ 512) (w : World) (hr : RK w (some ad) L) :
    Calls Tryz.prog 35 #[.slice (some ad) n c] w fun e w' => ∃ g c', e = .returned (.slice (some ⟨g, 0, none⟩) n c') ∧ w.heap.size ≤ g ∧ g < w'.heap.size ∧ RK w' (some ⟨g, 0, none⟩) L ∧ n ≤ c' ∧ c' ≤ maxLen ∧ Below w.heap.size w w' := by
  have Hn := Lib.hid hn
  have Hr := Lib.hid hr
  clear hn hr
  have qn : ∀ w' : World, (binOp .eql 48 (.slice (some ad) n c) (.slice none 0 0)).run Tryz.prog w' = .ok (.bool false) w' := fun w' => Lib.run_eql_slice_nil w' _ _ (some ad) n c 0 0 Tryz.underlying48
  go_enter Tryz.func35, Tryz.ntmps35
  go_wp2_with (refine wpList_build0k rfl _ _ rfl Tryz.underlying48 Tryz.blockSize ?_)
  apply Stop.go; intro w1 Hb1 Ho1
  go_wp2_with (at_builtin; refine wpList_append_bk rfl _ _ _ _ rfl Tryz.underlying48 _ Tryz.blockInfo ((bcells_size _).trans (zeros_len 256)) w.heap.size _ [] Ho1.out ad n c L hL Hn.out (Hr.out.below Hb1.out) rfl rfl Hb1.out.size (by simp; omega) ?_)
  apply Stop.go; intro v2 w2 Ho2 Hb2
  go_wp2_with fail
  go_ret
  have hbb := Hb1.out.trans Hb2.out
  have ho : OwnK w2 w.heap.size 82 v2 L := by simpa using Ho2.out
  obtain ⟨A, c', hv, q1, q2, hrk⟩ := ho.read
  obtain ⟨_, hl, h | ⟨g, cap, cur, hv2, hb2, hg2, _⟩⟩ := ho
  · exact absurd h.2 (by rw [Hn.out]; omega)
  · rw [hv2] at hv
    injection hv with hA hn' hc'
    subst hA
    subst hc'
    rw [Hn.out] at q1
    rw [hv2, Hn.out]
    refine ⟨g, cap, rfl, hb2, Blk.lt hg2, hrk, q1, q2, hbb⟩

end Go.Proofs.YtkakihbfhmiabaaGreat

/-
  A result that is a list of numbers of the call's own. Plain.
-/
namespace Go.Proofs.YtkakihbfhmiabaaGreat
open Go.RowKit

/-- A result that is a list of numbers of the call's own. -/
def RetL (w : World) (l : List Int) (e : Ending) (w' : World) : Prop := ∃ v, e = .returned v ∧ OwnC w' w.heap.size 3 v (ivals l) ∧ Below w.heap.size w w'

end Go.Proofs.YtkakihbfhmiabaaGreat

/-
  Many cells appended to a list of the call's own, wherever they lie, none too. Plain; no program is named here.
-/
namespace Go.Proofs.YtkakihbfhmiabaaGreat
open Go.RowKit

theorem ivals_one (l : List Int) : ∀ u ∈ ivals l, u.oneCell' = true := fun u hu => by
  obtain ⟨x, _, rfl⟩ := List.mem_map.1 hu
  rfl
theorem grown_same (w : World) (r : Option Nat) : w.grownBy w r := ⟨rfl, rfl, rfl, Nat.le_refl _, fun _ _ _ => rfl⟩
section
variable {P : Program} {ops : Array Oper} {rest : List Oper} {o : Oper} {a : Act} {w : World} {K : Act → World → Prop} {Q : Exit → Act → World → Prop}
/-- append of many cells that lie somewhere to a list of the call's own. -/
theorem run_append_many (P : Program) (w : World) (t ty e : TypeId) (ht : P.underlying t = some (.slice e)) (z : Value) (by_ : Nat) (hi : (P.info? e).map (fun i => (i.zero, i.size, i.bytes)) = some (some z, 1, by_)) (hz : z.cells.size = 1)
    (B : Nat) (v : Value) (l : List Value) (hown : OwnC w B e v l) (A : Option Addr) (n c : Nat) (m : List Value) (hn : m.length = n) (hr : RC w A m) (h1 : ∀ u ∈ m, u.oneCell' = true) (hB : B ≤ w.heap.size) (hlen : l.length + n ≤ maxLen) (hby : (l.length + n) * by_ ≤ 140737488355328) :
    ∃ v' w', (Builtin.append_ #[t, t] ty #[v, .slice A n c]).run P w = .ok v' w' ∧ OwnC w' B e v' (l ++ m) ∧ w.grownBy w' v.ownBlock := by
  obtain ⟨i, q1, q2, q3, q4⟩ := info_parts hi
  have go : ∀ ad, (∀ j u, m[j]? = some u → w.cell? (ad.add j) = some u) → ∃ v' w', (Builtin.append_ #[t, t] ty #[v, .slice (some ad) n c]).run P w = .ok v' w' ∧ OwnC w' B e v' (l ++ m) ∧ w.grownBy w' v.ownBlock := fun ad hnews => by
    obtain ⟨v', w', hrun, ho, hg, _⟩ := run_append_own (P := P) w B t ty e i z 1 by_ ht q1 q2 q3 q4 hz (by omega) v l.length l hown ad n c m (by omega) hnews h1 hlen hby hB
    refine ⟨v', w', hrun, ?_, hg⟩
    unfold OwnC
    rw [List.length_append, hn]
    exact ho
  cases A with
  | none =>
    have h0 : n = 0 := by
      rcases Nat.eq_zero_or_pos n with h | h
      · exact h
      · obtain ⟨ad, e, _⟩ := hr 0 (by omega)
        cases e
    subst h0
    have hm : m = [] := List.eq_nil_of_length_eq_zero hn
    subst hm
    refine ⟨v, w, ?_, by rw [List.append_nil]; exact hown, grown_same _ _⟩
    rcases hown.2 with ⟨rfl, _⟩ | ⟨g, cap, cur, rfl, _, _, hnc, _⟩
    · simp [Builtin.append_, run_underlying ht, sizeOf, typeInfo, q1, Builtin.lenOf, Builtin.firstCells]
    · simp [Builtin.append_, run_underlying ht, sizeOf, typeInfo, q1, Builtin.lenOf, Builtin.firstCells, storeCells, hnc]
  | some ad =>
    refine go ad fun j u hj => ?_
    have hjl := (List.getElem?_eq_some_iff.1 hj).1
    obtain ⟨ad', e, hc⟩ := hr j hjl
    injection e with e
    subst e
    rw [hc, ← hj, List.getElem?_eq_getElem hjl]
theorem ow_append_many (s x : Operand) (t e : TypeId) (ho : o.op = .call { callee := .builtin .append, args := #[s, x], argTypes := #[t, t] })
    (ht : P.underlying t = some (.slice e)) (z : Value) (by_ : Nat) (hi : (P.info? e).map (fun i => (i.zero, i.size, i.bytes)) = some (some z, 1, by_)) (hz : z.cells.size = 1)
    (B : Nat) (v : Value) (l : List Value) (hs : a.eval s = v) (hown : OwnC w B e v l) (A : Option Addr) (n c : Nat) (m : List Value) (hx : a.eval x = .slice A n c) (hn : m.length = n) (hr : RC w A m) (h1 : ∀ u ∈ m, u.oneCell' = true) (hB : B ≤ w.heap.size) (hlen : l.length + n ≤ maxLen) (hby : (l.length + n) * by_ ≤ 140737488355328)
    (h : Stop (∀ v' w', Hid (OwnC w' B e v' (l ++ m)) → Hid (w.grownBy w' v.ownBlock) → K (a.put o.dst v') w')) : o.wp P a w K Q := by
  obtain ⟨v', w', hrun, r1, r2⟩ := run_append_many P w t o.type e ht z by_ hi hz B v l hown A n c m hn hr h1 hB hlen hby
  unfold Oper.wp execOp
  simp only [ho, resolve, invoke, builtin, Sem.run_bind, Sem.run_pure, Result.andThen_ok, List.map_toArray, List.map_cons, List.map_nil, hs, hx, hrun]
  exact h v' w' r1 r2
theorem wpList_append_many (hgd : Region.wanted o (yielded ops a.tmps) = true) (s x : Operand) (t e : TypeId) (ho : o.op = .call { callee := .builtin .append, args := #[s, x], argTypes := #[t, t] })
    (ht : P.underlying t = some (.slice e)) (z : Value) (by_ : Nat) (hi : (P.info? e).map (fun i => (i.zero, i.size, i.bytes)) = some (some z, 1, by_)) (hz : z.cells.size = 1)
    (B : Nat) (v : Value) (l : List Value) (hs : a.eval s = v) (hown : OwnC w B e v l) (A : Option Addr) (n c : Nat) (m : List Value) (hx : a.eval x = .slice A n c) (hn : m.length = n) (hr : RC w A m) (h1 : ∀ u ∈ m, u.oneCell' = true) (hB : B ≤ w.heap.size) (hlen : l.length + n ≤ maxLen) (hby : (l.length + n) * by_ ≤ 140737488355328)
    (h : Stop (∀ v' w', Hid (OwnC w' B e v' (l ++ m)) → Hid (w.grownBy w' v.ownBlock) → wpList P ops Q rest (a.put o.dst v') w')) : wpList P ops Q (o :: rest) a w :=
  wpList_wanted hgd fun _ hK => ow_append_many s x t e ho ht z by_ hi hz B v l hs hown A n c m hx hn hr h1 hB hlen hby (fun v' w' h1 h2 => hK _ _ (h v' w' h1 h2))
end

end Go.Proofs.YtkakihbfhmiabaaGreat

/-
  A number laid into a block of its own. Plain; no program is named here.
-/
namespace Go.Proofs.YtkakihbfhmiabaaGreat
open Go.RowKit

section
variable {P : Program} {w : World} {a : Act} {o : Oper} {K : Act → World → Prop} {Q : Exit → Act → World → Prop}
theorem run_build_int (P : Program) (w : World) (t e : TypeId) (ht : P.underlying t = some (.slice e)) (z : Value) (by_ : Nat) (hi : (P.info? e).map (fun i => (i.zero, i.size, i.bytes)) = some (some z, 1, by_)) (X : Int) :
    (Instr.buildSlice t 1 #[(0, .int .i64 X)]).run P w = .ok (.slice (some ⟨w.heap.size, 0, none⟩) 1 1) (w.alloc (.cells #[.int .i64 X] e)) := by
  obtain ⟨i, h1, h2, h3, h4⟩ := info_parts hi
  have hf : Instr.fill (fun i => some (i * 1, 1)) ((Array.range 1).map (z.cells[· % z.cells.size]!)) [(0, .int .i64 X)] = some #[.int .i64 X] := by
    have hsz : ((Array.range 1).map (z.cells[· % z.cells.size]!)).size = 1 := by simp
    generalize (Array.range 1).map (z.cells[· % z.cells.size]!) = cs at hsz
    obtain ⟨l⟩ := cs
    match l, hsz with
    | [c0], _ => simp [Instr.fill, Value.cells]
  exact run_buildSlice w t e 1 _ _ i z ht h1 h2 (by omega) (by omega) (by rw [h3]; exact hf)
theorem ow_build_int (t e : TypeId) (x : Operand) (ho : o.op = .buildSlice t 1 #[(0, x)]) (ht : P.underlying t = some (.slice e)) (z : Value) (by_ : Nat) (hi : (P.info? e).map (fun i => (i.zero, i.size, i.bytes)) = some (some z, 1, by_)) (X : Int) (hx : a.eval x = .int .i64 X)
    (h : K (a.put o.dst (.slice (some ⟨w.heap.size, 0, none⟩) 1 1)) (w.alloc (.cells #[.int .i64 X] e))) : o.wp P a w K Q := by
  unfold Oper.wp execOp
  simp only [ho, hx, Sem.run_bind, List.map_toArray, List.map_cons, List.map_nil, run_build_int P w t e ht z by_ hi X, Result.andThen_ok]
  exact h
/-- The same, wherever that block lies. -/
theorem ow_build_own (t e : TypeId) (x : Operand) (ho : o.op = .buildSlice t 1 #[(0, x)]) (ht : P.underlying t = some (.slice e)) (z : Value) (by_ : Nat) (hi : (P.info? e).map (fun i => (i.zero, i.size, i.bytes)) = some (some z, 1, by_)) (X : Int) (hx : a.eval x = .int .i64 X)
    (h : Stop (∀ v w', Hid (Grew w w') → Hid (OwnC w' w.heap.size e v [.int .i64 X]) → K (a.put o.dst v) w')) : o.wp P a w K Q :=
  ow_build_int t e x ho ht z by_ hi X hx (h _ _ (Grew.alloc w _) (World.ownsRow_lit w #[.int .i64 X] 1 (Nat.le_refl _) (by unfold maxLen; omega) rfl))
end

end Go.Proofs.YtkakihbfhmiabaaGreat
