/-
  Texts of this claim joined: HeldT, Ref12n.
-/
import Derived.Test.YtpmbpklbiocclaaGreatGrAB
import Derived.Test.YtpmbpklbiocclaaGreatGrAQ

/-
  A region that draws its order and ends in one operation z (a store, say) behind which S need not hold: what hangs on S alone is taken first, where z waits for it. Plain; no program is named here.
-/
namespace Go.Proofs.YtpmbpklbiocclaaGreat
open Go.RowKit

section
variable {P : Program} {ops : Array Oper} {Q : Exit → Act → World → Prop} {S : World → Prop} {z : Nat}

def wpAnyT (P : Program) (ops : Array Oper) (Q : Exit → Act → World → Prop) (S : World → Prop) (z : Nat) : Nat → Array Bool → Act → World → Prop
  | 0, listed, a, w => Region.ready .any ops listed = [] ∧ Q .normal a w
  | fuel + 1, listed, a, w => (Region.ready .any ops listed = [] → Q .normal a w) ∧ ∀ i ∈ Region.ready .any ops listed, wpOp P ops Q i (fun a' w' => (i = z ∨ S w') ∧ wpAnyT P ops Q S z fuel (listed.setIfInBounds i true) a' w') a w
theorem wpAny_of_tail : ∀ (fuel : Nat) (listed : Array Bool) (a : Act) (w : World), wpAnyT P ops Q S z fuel listed a w → wpAny P .any ops Q fuel listed a w := by
  intro fuel
  induction fuel with
  | zero => intro listed a w h; exact h
  | succ fuel ih => intro listed a w h; exact ⟨h.1, fun i hi => wpOp_mono (fun a' w' h' => ih _ a' w' h'.2) (h.2 i hi)⟩
def waitsOn (ops : Array Oper) (i j : Nat) : Bool := match ops[j]? with
  | some o => o.after.any fun e => Region.binds .any e && e.on == i
  | none => false
def aheadB (ops : Array Oper) (listed : Array Bool) (z : Nat) : Nat → Nat → Bool
  | 0, _ => false
  | f + 1, i => !(listed.getD i true) && ((i == z) || (List.range ops.size).any fun j => waitsOn ops i j && aheadB ops listed z f j)
theorem not_ready_of_waits {listed : Array Bool} {i j : Nat} (hw : waitsOn ops i j = true) (hi : listed.getD i true = false) : j ∉ Region.ready .any ops listed := by
  intro hj
  obtain ⟨_, o, ho, hall⟩ := mem_ready.1 hj
  unfold waitsOn at hw
  rw [ho] at hw
  obtain ⟨e, he, hb⟩ := Array.any_eq_true'.1 hw
  rw [Bool.and_eq_true, beq_iff_eq] at hb
  have h1 := hall e he hb.1
  rw [hb.2] at h1
  rcases Nat.lt_or_ge i listed.size with h' | h'
  · simp [h'] at hi h1; rw [hi] at h1; cases h1
  · simp [Array.getElem?_eq_none h'] at h1
theorem ahead_step {listed : Array Bool} {j : Nat} (hj : j ∈ Region.ready .any ops listed) : ∀ (f i : Nat), aheadB ops listed z f i = true → j ≠ i → aheadB ops (listed.setIfInBounds j true) z f i = true ∧ j ≠ z := by
  intro f
  induction f with
  | zero => intro i h _; cases h
  | succ f ih =>
    intro i h hne
    unfold aheadB at h
    rw [Bool.and_eq_true, Bool.not_eq_true', Bool.or_eq_true] at h
    have h0 : (listed.setIfInBounds j true).getD i true = false := by rw [getD_set_ne true hne]; exact h.1
    rcases h.2 with h2 | h2
    · have e : i = z := by simpa using h2
      refine ⟨?_, fun e2 => hne (e2.trans e.symm)⟩
      unfold aheadB
      rw [h0, h2]
      rfl
    · rw [List.any_eq_true] at h2
      obtain ⟨k, hk, hkk⟩ := h2
      rw [Bool.and_eq_true] at hkk
      have hjk : j ≠ k := fun e => not_ready_of_waits hkk.1 h.1 (e ▸ hj)
      obtain ⟨h3, h4⟩ := ih k hkk.2 hjk
      refine ⟨?_, h4⟩
      unfold aheadB
      rw [h0, Bool.not_false, Bool.true_and, Bool.or_eq_true]
      exact Or.inr (List.any_eq_true.2 ⟨k, hk, by rw [hkk.1, h3]; rfl⟩)
theorem wpAnyT_first {i : Nat} {oi : Oper} {v : Value} (hi : ops[i]? = some oi) (hsel : ∀ (j : Nat) (o : Oper) cs b, ops[j]? = some o → o.op ≠ .select cs b)
    (hQ : ∀ c a w, Q (.panic c) (a.put oi.dst v) w → Q (.panic c) a w) (F : Nat) : ∀ (fuel : Nat) (listed : Array Bool) (a : Act) (w : World), aheadB ops listed z F i = true →
      (∀ j oj, ops[j]? = some oj → j ≠ i → listed.getD j true = false → (∀ e ∈ oj.after, Region.binds .any e = true → e.on ≠ i) → oi.apart ops oj = true) →
      i ∈ Region.ready .any ops listed → YieldsIf P ops S oi v a → S w → wpAnyT P ops Q S z fuel (listed.setIfInBounds i true) (a.put oi.dst v) w → wpAnyT P ops Q S z (fuel + 1) listed a w := by
  intro fuel
  induction fuel with
  | zero =>
    intro listed a w _ _ hr hy hS H
    refine ⟨fun h => (by rw [h] at hr; cases hr), fun j hj => ?_⟩
    by_cases hji : j = i
    · subst hji
      exact hy.wpOp hi hS ⟨Or.inr hS, H⟩
    · have := ready_mono hj hji
      rw [H.1] at this
      cases this
  | succ fuel ih =>
    intro listed a w ha hfree hr hy hS H
    refine ⟨fun h => (by rw [h] at hr; cases hr), fun j hj => ?_⟩
    by_cases hji : j = i
    · subst hji
      exact hy.wpOp hi hS ⟨Or.inr hS, H⟩
    · obtain ⟨ha2, hjz⟩ := ahead_step hj F i ha hji
      obtain ⟨hjun, oj, hoj, hall⟩ := mem_ready.1 hj
      have hnot : ∀ e ∈ oj.after, Region.binds .any e = true → e.on ≠ i := fun e he hb heq => by
        have h1 := hall e he hb
        have h0 := (mem_ready.1 hr).1
        rw [heq] at h1
        rcases Nat.lt_or_ge i listed.size with h' | h'
        · simp [h'] at h0 h1; rw [h0] at h1; cases h1
        · simp [Array.getElem?_eq_none h'] at h1
      have h2 := wpOp_putIf hoj (hfree j oj hoj hji hjun hnot) (fun cs b => hsel i oi cs b hi) (fun cs b => hsel j oj cs b hoj) hQ hy (H.2 j (ready_mono hj hji))
      have hfree' : ∀ k ok, ops[k]? = some ok → k ≠ i → (listed.setIfInBounds j true).getD k true = false → (∀ e ∈ ok.after, Region.binds .any e = true → e.on ≠ i) → oi.apart ops ok = true := fun k ok hk hki hun hno => by
        refine hfree k ok hk hki ?_ hno
        by_cases hjk : j = k
        · subst hjk; exact hjun
        · rw [getD_set_ne true hjk] at hun; exact hun
      refine wpOp_mono (fun a' w' h3 => ?_) h2
      have hS3 := h3.2.1.resolve_left hjz
      refine ⟨Or.inr hS3, ih (listed.setIfInBounds j true) a' w' ha2 hfree' (ready_mono hr (Ne.symm hji)) h3.1 hS3 ?_⟩
      rw [Array.setIfInBounds_comm _ _ hji]
      exact h3.2.2
end

section
variable {P : Program} {l : List Oper} {Q : Exit → Act → World → Prop} {S : World → Prop} {z : Nat} {listed : List Bool} {n : Nat} {a : Act} {w : World}
def WT (P : Program) (l : List Oper) (Q : Exit → Act → World → Prop) (S : World → Prop) (z : Nat) (listed : List Bool) (n : Nat) (a : Act) (w : World) : Prop :=
  wpAnyT P l.toArray Q S z n listed.toArray a w
theorem WT.start {id : Nat} (z : Nat) (listed : List Bool) (n : Nat) (hl : listed = List.replicate l.length false) (hn : l.length = n) (hm : P.follows .mixedOrders = true) (hS : S w.drew) (h : S w.drew → WT P l Q S z listed n a w.drew) : (Code.region id l.toArray true).wp P Q a w := by
  have h' := h hS
  subst hl; subst hn
  have e : (List.replicate l.length false).toArray = Array.replicate l.toArray.size false := by simp
  unfold WT at h'
  rw [e] at h'
  exact wp_region_any hm (wpAny_of_tail _ _ _ _ (by simpa using h'))
def takesT (l : List Oper) (listed : List Bool) (z i : Nat) : Bool := takes l listed i && aheadB l.toArray listed.toArray z l.length i
theorem WT.take (i : Nat) (o : Oper) (v : Value) (hi : l[i]? = some o) (ht : takesT l listed z i = true) (hQ : ∀ c a w, Q (.panic c) (a.put o.dst v) w → Q (.panic c) a w)
    (hw : Region.wanted o (yielded l.toArray a.tmps) = true) (hS : S w) (hy : ∀ w, S w → (execOp a.eval o).run P w = .ok (.value v) w)
    (h : WT P l Q S z (listed.set i true) n (a.put o.dst v) w) : WT P l Q S z listed (n + 1) a w := by
  simp only [takesT, takes, Bool.and_eq_true] at ht
  have hi' : l.toArray[i]? = some o := by simpa using hi
  refine wpAnyT_first (oi := o) (v := v) hi' (Region.noSelect_spec ht.1.1.1) hQ l.length n _ a w ht.2 (Region.free_spec hi' ht.1.1.2) (by simpa using ht.1.2) (Or.inl ⟨hw, hy⟩) hS ?_
  unfold WT at h
  simpa using h
theorem WT.tk {v : Value} (i : Nat) {o : Oper} (h : WT P l Q S z (listed.set i true) n (a.put o.dst v) w) (hi : l[i]? = some o := by exact rfl) (ht : takesT l listed z i = true := by kernel_rfl) (hQ : ∀ c a w, Q (.panic c) (a.put o.dst v) w → Q (.panic c) a w := by exact fun _ _ _ h => h)
    (hw : Region.wanted o (yielded l.toArray a.tmps) = true := by exact rfl) (hS : S w := by assumption) (hy : ∀ w, S w → (execOp a.eval o).run P w = .ok (.value v) w := by intro w hSw; (try dsimp only at hSw); first | (go_simp; done) | (go_simp; with_reducible rfl)) : WT P l Q S z listed (n + 1) a w :=
  WT.take i o v hi ht hQ hw hS hy h
theorem WT.tv {v : Value} (i : Nat) {o : Oper} (hi : l[i]? = some o) (hy : ∀ w, S w → (execOp a.eval o).run P w = .ok (.value v) w) (h : WT P l Q S z (listed.set i true) n (a.put o.dst v) w) (ht : takesT l listed z i = true := by kernel_rfl) (hQ : ∀ c a w, Q (.panic c) (a.put o.dst v) w → Q (.panic c) a w := by exact fun _ _ _ h => h)
    (hw : Region.wanted o (yielded l.toArray a.tmps) = true := by exact rfl) (hS : S w := by assumption) : WT P l Q S z listed (n + 1) a w :=
  WT.take i o v hi ht hQ hw hS hy h
theorem WT.all {rs : List Nat} (hr : Region.ready .any l.toArray listed.toArray = rs) (hne : rs ≠ [])
    (h : ∀ i ∈ rs, wpOp P l.toArray Q i (fun a' w' => (i = z ∨ S w') ∧ wpAnyT P l.toArray Q S z n (listed.toArray.setIfInBounds i true) a' w') a w) : WT P l Q S z listed (n + 1) a w :=
  ⟨fun h0 => absurd (hr ▸ h0) hne, hr ▸ h⟩
theorem WT.only (i : Nat) (o : Oper) (hi : l[i]? = some o) (hr : Region.ready .any l.toArray listed.toArray = [i]) (hw : Region.wanted o (yielded l.toArray a.tmps) = true)
    (h : ∀ K : Act → World → Prop, (∀ a' w', S w' → WT P l Q S z (listed.set i true) n a' w' → K a' w') → o.wp P a w K Q) : WT P l Q S z listed (n + 1) a w := by
  refine WT.all (rs := [i]) hr (by simp) fun j hj => ?_
  obtain rfl : j = i := by simpa using hj
  have hi' : l.toArray[j]? = some o := by simpa using hi
  unfold Go.wpOp
  simp only [hi', hw, if_true]
  refine Or.inl (h _ fun a' w' h1 h2 => ⟨Or.inr h1, ?_⟩)
  unfold WT at h2
  simpa using h2
theorem WT.last (o : Oper) (hi : l[z]? = some o) (hr : Region.ready .any l.toArray listed.toArray = [z]) (hw : Region.wanted o (yielded l.toArray a.tmps) = true)
    (h : ∀ K : Act → World → Prop, (∀ a' w', WT P l Q S z (listed.set z true) n a' w' → K a' w') → o.wp P a w K Q) : WT P l Q S z listed (n + 1) a w := by
  refine WT.all (rs := [z]) hr (by simp) fun j hj => ?_
  obtain rfl : j = z := by simpa using hj
  have hi' : l.toArray[j]? = some o := by simpa using hi
  unfold Go.wpOp
  simp only [hi', hw, if_true]
  refine Or.inl (h _ fun a' w' h2 => ⟨Or.inl (by first | rfl | trivial), ?_⟩)
  unfold WT at h2
  simpa using h2
theorem WT.two (i j : Nat) (oi oj : Oper) (hi : l[i]? = some oi) (hj : l[j]? = some oj) (hr : Region.ready .any l.toArray listed.toArray = [i, j]) (hwi : Region.wanted oi (yielded l.toArray a.tmps) = true) (hwj : Region.wanted oj (yielded l.toArray a.tmps) = true)
    (h1 : ∀ K : Act → World → Prop, (∀ a' w', S w' → WT P l Q S z (listed.set i true) n a' w' → K a' w') → oi.wp P a w K Q)
    (h2 : ∀ K : Act → World → Prop, (∀ a' w', S w' → WT P l Q S z (listed.set j true) n a' w' → K a' w') → oj.wp P a w K Q) : WT P l Q S z listed (n + 1) a w := by
  refine WT.all (rs := [i, j]) hr (by simp) fun k hk => ?_
  have hi' : l.toArray[i]? = some oi := by simpa using hi
  have hj' : l.toArray[j]? = some oj := by simpa using hj
  have hk' : k = i ∨ k = j := by simpa using hk
  rcases hk' with rfl | rfl
  · unfold Go.wpOp
    simp only [hi', hwi, if_true]
    refine Or.inl (h1 _ fun a' w' g1 g2 => ⟨Or.inr g1, ?_⟩)
    unfold WT at g2
    simpa using g2
  · unfold Go.wpOp
    simp only [hj', hwj, if_true]
    refine Or.inl (h2 _ fun a' w' g1 g2 => ⟨Or.inr g1, ?_⟩)
    unfold WT at g2
    simpa using g2
theorem WT.done (hr : Region.ready .any l.toArray listed.toArray = []) (h : Q .normal a w) : WT P l Q S z listed n a w := by
  unfold WT
  cases n with
  | zero => exact ⟨hr, h⟩
  | succ n => exact ⟨fun _ => h, by rw [hr]; simp⟩
end

end Go.Proofs.YtpmbpklbiocclaaGreat

/-
  The contract of the document's New.
-/
namespace Go.Proofs.YtpmbpklbiocclaaGreat
open Go.RowKit

section
variable {P : Program} {o : Oper} {a : Act} {w : World} {K : Act → World → Prop} {Q : Exit → Act → World → Prop}
theorem ow_make_bytes (lo co : Operand) (t e : TypeId) (ho : o.op = .makeSlice t lo co) (ht : P.underlying t = some (.slice e)) (hi : (P.info? e).map (fun i => (i.zero, i.size, i.bytes)) = some (some (.int .u8 0), 1, 1))
    (kl kc : IntKind) (L C : Int) (n : Nat) (hl : a.eval lo = .int kl L) (hc : a.eval co = .int kc C) (hL : L = n) (hC : C = n) (hn : n ≤ 281474976710656)
    (h : Stop (∀ w', Hid (Grew w w') → Hid (Blk w' w.heap.size e (bcells (zeros n))) → K (a.put o.dst (.slice (some ⟨w.heap.size, 0, none⟩) n n)) w')) : o.wp P a w K Q := by
  subst hL; subst hC
  have hr := run_make_zeros P w t e ht hi kl kc n hn
  unfold Oper.wp execOp
  simp only [ho, Sem.run_bind, Sem.run_pure, Result.andThen_ok, hl, hc, hr]
  exact h _ (Grew.alloc w _) (Blk.new w e _)
theorem run_build_sl (P : Program) (w : World) (t e : TypeId) (ht : P.underlying t = some (.slice e)) (z : Value) (by_ : Nat) (hi : (P.info? e).map (fun i => (i.zero, i.size, i.bytes)) = some (some z, 1, by_)) (A : Option Addr) (n c : Nat) :
    (Instr.buildSlice t 1 #[(0, .slice A n c)]).run P w = .ok (.slice (some ⟨w.heap.size, 0, none⟩) 1 1) (w.alloc (.cells #[.slice A n c] e)) := by
  obtain ⟨i, h1, h2, h3, h4⟩ := info_parts hi
  have hf : Instr.fill (fun i => some (i * 1, 1)) ((Array.range 1).map (z.cells[· % z.cells.size]!)) [(0, .slice A n c)] = some #[.slice A n c] := by
    have hsz : ((Array.range 1).map (z.cells[· % z.cells.size]!)).size = 1 := by simp
    generalize (Array.range 1).map (z.cells[· % z.cells.size]!) = cs at hsz
    obtain ⟨l⟩ := cs
    match l, hsz with
    | [c0], _ => simp [Instr.fill, Value.cells]
  exact run_buildSlice w t e 1 _ _ i z ht h1 h2 (by omega) (by omega) (by rw [h3]; exact hf)
theorem ow_build_sl (t e : TypeId) (x : Operand) (ho : o.op = .buildSlice t 1 #[(0, x)]) (ht : P.underlying t = some (.slice e)) (z : Value) (by_ : Nat) (hi : (P.info? e).map (fun i => (i.zero, i.size, i.bytes)) = some (some z, 1, by_)) (A : Option Addr) (n c : Nat) (hx : a.eval x = .slice A n c)
    (h : Stop (∀ w', Hid (Grew w w') → Hid (Blk w' w.heap.size e #[.slice A n c]) → K (a.put o.dst (.slice (some ⟨w.heap.size, 0, none⟩) 1 1)) w')) : o.wp P a w K Q := by
  unfold Oper.wp execOp
  simp only [ho, hx, Sem.run_bind, List.map_toArray, List.map_cons, List.map_nil, run_build_sl P w t e ht z by_ hi A n c, Result.andThen_ok]
  exact h _ (Grew.alloc w _) (Blk.new w e _)
end
theorem RdL.falses {w : World} {g n : Nat} {e : TypeId} (h : Blk w g e (List.replicate n (.bool false)).toArray) : RdL RdT w (some ⟨g, 0, none⟩) 1 (List.replicate n false) := by
  refine ⟨List.replicate n [.bool false], fun r hr => by rw [List.eq_of_mem_replicate hr]; rfl, fun k hk i hi => ?_, by simp, fun k hk hk' => ?_⟩
  · have hk2 : k < n := by simpa using hk
    obtain rfl : i = 0 := by omega
    refine ⟨_, .bool false, rfl, by simp, ?_⟩
    rw [addr_add0, h.cell]
    simp [hk2]
  · rw [List.getElem_replicate, List.getElem_replicate]
    rfl
theorem RdL.belowT {w w' : World} {B : Nat} {A : Option Addr} {l : List Bool} (h : RdL RdT w A 1 l) (hb : Below B w w') (ha : ∀ ad, A = some ad → ad.block < B) : RdL RdT w' A 1 l := by
  obtain ⟨rows, h1, h2, h3, h4⟩ := h
  refine ⟨rows, h1, fun k hk i hi => ?_, h3, h4⟩
  obtain ⟨ad, x, e, hx, hc⟩ := h2 k hk i hi
  refine ⟨ad, x, e, hx, ?_⟩
  rw [World.cell?_of_block (w := w) (w' := w') (by rw [block_of_add]; exact hb.block _ (ha ad e))]
  exact hc
theorem RdL.nilC (w : World) : RdL RdC w none 5 [] := ⟨[], (fun r h => by cases h), (fun k h => absurd h (by simp)), rfl, (fun k h => absurd h (by simp))⟩
theorem RdL.nilP (p : Nat → Prop) (w : World) : RdL (RdP RdC p) w none 5 [] := ⟨[], (fun r h => by cases h), (fun k h => absurd h (by simp)), rfl, (fun k h => absurd h (by simp))⟩
theorem OwnL.ownB {α : Type} {D : Rds α} {w : World} {B : Nat} {e : TypeId} {N : Nat} {A : Option Addr} {n c : Nat} {l : List α} (h : OwnL D w B e N (.slice A n c) l) (_ : 0 < 1) : ∀ ad, A = some ad → B ≤ ad.block := fun ad e => by
  subst e
  obtain ⟨rows, h1, _⟩ := h
  exact (h1.lt ad.block rfl).1
theorem bytes_blocks {g n c : Nat} (q : Nat) (h : q ∈ blocksOf [Value.slice (some ⟨g, 0, none⟩) n c]) : q = g := by
  obtain ⟨v, hv, hl⟩ := mem_blocksOf.1 h
  rw [List.mem_singleton] at hv
  subst hv
  rw [leads_slice] at hl
  split at hl
  · cases hl
  · injection hl with hl
    exact hl.symm
theorem Tryz.dcBytesN : (Tryz.prog.info? 56).map (fun i => (i.zero, i.size, i.bytes)) = some (some (.slice none 0 0), 1, 24) := by kernel_rfl
theorem Tryz.dcByteN : (Tryz.prog.info? 5).map (fun i => (i.zero, i.size, i.bytes)) = some (some (.int .u8 0), 1, 1) := by kernel_rfl
theorem Tryz.dcBaseSzN : (Tryz.prog.info? 28).map (·.size) = some 1 := by kernel_rfl
set_option maxRecDepth 100000 in
set_option maxHeartbeats 8000000 in
theorem new12_any (p : Nat → Prop) (w : World) (hp : ∀ q, w.heap.size ≤ q → p q) : Calls Tryz.prog 23 #[.int .i64 16] w (RetD p w (DC.new 16)) := by
  have HP := Lib.hid hp
  clear hp
  go_enter Tryz.func23, Tryz.ntmps23
  go_wp2_with (refine wpList_alloc_row rfl _ rfl _ Tryz.dcZero ?_)
  apply Stop.go; intro w1 Hg1 Hb1
  go_wp2_with (refine wpList_make_zero rfl _ _ _ _ rfl Tryz.underlying30 (.bool false) 1 Tryz.dcBool rfl .i64 .i64 _ _ 16 rfl rfl rfl rfl (by decide) (by decide) (List.replicate 16 (Value.bool false)).toArray rfl ?_)
  apply Stop.go; intro w2 Hg2 Hb2
  have K2 := Lib.hid (RdL.falses (n := 16) Hb2.out)
  clear Hb2
  go_wp2_with (refine wpList_alloc_row rfl _ rfl _ Tryz.dcZero ?_)
  apply Stop.go; intro w3 Hg3 Hb3
  have Z := Lib.hid (show w1.heap.size = w.heap.size + 1 ∧ w2.heap.size = w1.heap.size + 1 ∧ w3.heap.size = w2.heap.size + 1 from ⟨Hg1.out.2, Hg2.out.2, Hg3.out.2⟩)
  have Hz3 := Lib.hid (Hb1.out.ext (bt Hg2.out.1 Hg3.out.1))
  have K3 := Lib.hid (K2.out.below Hg3.out.1)
  have W3 := Lib.hid (bt (bt Hg1.out.1 Hg2.out.1) Hg3.out.1)
  obtain ⟨gk, hgk⟩ : ∃ q, q = w1.heap.size := ⟨_, rfl⟩
  obtain ⟨g3, hg3⟩ : ∃ q, q = w2.heap.size := ⟨_, rfl⟩
  rw [← hgk] at K3 Z ⊢
  rw [← hg3] at Hb3 Z ⊢
  clear hgk hg3 Hg1 Hg2 Hg3 Hb1 K2
  go_wp2_with (refine wpList_store_arr rfl _ _ _ rfl _ #[.slice none 0 0, .slice none 0 0, .int .i64 0, .int .i64 (-1), .bool false, .int .i64 0, .slice (some ⟨gk, 0, none⟩) 16 16] rfl rfl _ _ Hb3.out Tryz.dcSize rfl (by simp [Value.oneCell']) ?_)
  apply Stop.go; intro w4 Ho4 Hb4
  have Hz4 := Lib.hid (Hz3.out.only Ho4.out (by have := Z.out; omega))
  have K4 := Lib.hid (K3.out.onlyT Ho4.out (fun _ ad e => by injection e with e; subst e; show gk ≠ g3; have := Z.out; omega))
  have W4 := Lib.hid (bonly W3.out Ho4.out (by have := Z.out; omega))
  have S4 := Lib.hid (show w3.heap.size ≤ w4.heap.size from Nat.le_of_eq Ho4.out.size.symm)
  obtain ⟨B, hB⟩ : ∃ q, q = w3.heap.size := ⟨_, rfl⟩
  rw [← hB] at Z S4
  clear Ho4 Hb3 Hz3 K3 W3 hB
  go_wp2_with fail
  go_loopw [4] (fun i wr => ∃ (k : Nat) (v : Value), k ≤ 16 ∧ i = .int .i64 k ∧ Blk wr g3 32 #[v, .slice none 0 0, .int .i64 0, .int .i64 (-1), .bool false, .int .i64 0, .slice (some ⟨gk, 0, none⟩) 16 16] ∧ Blk wr w.heap.size 32 #[.slice none 0 0, .slice none 0 0, .int .i64 0, .int .i64 0, .bool false, .int .i64 0, .slice none 0 0] ∧ OwnL (RdP RdBs (B ≤ ·)) wr B 56 1 v (List.replicate k (zeros 256)) ∧ RdL RdT wr (some ⟨gk, 0, none⟩) 1 (List.replicate 16 false) ∧ Below w.heap.size w wr ∧ Hid (B ≤ wr.heap.size)) (fun i _ => 16 - (intOf i).toNat)
  case atStart => exact ⟨0, .slice none 0 0, by omega, rfl, Hb4.out, Hz4.out, OwnL.nil_ _ _ _ _ _, K4.out, W4.out, S4⟩
  case round =>
    obtain ⟨k, v, hk, rfl, hc, hz, hv, hkn, hb, HB⟩ := hrel
    have C := Lib.hid hc
    have Zr := Lib.hid hz
    have V := Lib.hid hv
    have KN := Lib.hid hkn
    have W := Lib.hid hb
    clear hc hz hv hkn hb Hb4 Hz4 K4 W4 S4
    by_cases hlt : k < 16
    · have d1 : decide ((k : Int) < 16) = true := by rw [decide_eq_true_eq]; omega
      have hkI : (k : Int) < 16 := by omega
      go_wp2_with fail
      refine WT.start 6 (S := fun w' : World => Blk w' g3 32 #[v, .slice none 0 0, .int .i64 0, .int .i64 (-1), .bool false, .int .i64 0, .slice (some ⟨gk, 0, none⟩) 16 16]) [false, false, false, false, false, false, false] 7 rfl rfl (by kernel_rfl) (C.out.ext (bdrew wr 1)) (fun hSn => ?_)
      obtain ⟨wS, hwS⟩ : ∃ x, wr.drew = x := ⟨_, rfl⟩
      have BS := Lib.hid (bdrew wr 1)
      rw [show wr.drewN 1 = wS from hwS] at BS
      rw [hwS] at hSn ⊢
      clear hwS
      refine WT.tk 0 ?_; simp only [setL]
      refine WT.tv 1 rfl (fun w' hSw => exec_load_cell _ _ rfl _ rfl v (hSw.cell 0) _ Tryz.underlying28 rfl) ?_; simp only [setL]
      refine WT.only 2 _ rfl (by kernel_rfl) rfl (fun K hK => ?_)
      refine ow_make_bytes _ _ _ _ rfl Tryz.underlying56 Tryz.dcByteN .i64 .i64 _ _ 256 rfl rfl rfl rfl (by decide) ?_
      apply Stop.go; intro w6 Hg6 Hb6
      have B6 := Lib.hid (bt BS.out Hg6.out.1)
      have hSn := hSn.ext Hg6.out.1; refine hK _ _ hSn ?_; clear hK; clear K; simp only [setL]
      refine WT.only 3 _ rfl (by kernel_rfl) rfl (fun K hK => ?_)
      refine ow_build_sl _ _ _ rfl Tryz.underlying28 (.slice none 0 0) 24 Tryz.dcBytesN _ _ _ rfl ?_
      apply Stop.go; intro w7 Hg7 Hb7
      have B7 := Lib.hid (bt B6.out Hg7.out.1)
      have V7 := Lib.hid (V.out.ext B7.out)
      have R7 : Hid (RB w7 (some ⟨wS.heap.size, 0, none⟩) (zeros 256)) := Lib.hid ((RB.of_blk0 Hb6.out).below Hg7.out.1)
      have Z7 := Lib.hid (show wS.heap.size < w6.heap.size ∧ B ≤ wS.heap.size ∧ B ≤ w7.heap.size from by have h1 := BS.out.size; have h2 := Hg6.out.2; have h3 := B7.out.size; have h4 := HB.out; omega)
      have hSn := hSn.ext Hg7.out.1; refine hK _ _ hSn ?_; clear hK; clear K; simp only [setL]
      refine WT.only 4 _ rfl (by kernel_rfl) rfl (fun K hK => ?_)
      refine ow_append_L (RdP RdBs (B ≤ ·)) _ _ _ _ rfl Tryz.underlying28 1 24 _ Tryz.dcBytesN rfl (by decide) B v (List.replicate k (zeros 256)) rfl V7.out _ _ rfl Hb7.out rfl (by simp [Value.oneCell']) (zeros 256) ⟨⟨some ⟨wS.heap.size, 0, none⟩, 256, by rw [zeros_len], by rw [zeros_len]; decide, by decide, R7.out⟩, fun q hq => by have := bytes_blocks q hq; have h2 := Z7.out; show B ≤ q; omega⟩ (fun q hq e => by have h0 := bytes_blocks q hq; have h1 := (V.out.lt q e).2; have h2 := BS.out.size; omega) Z7.out.2.2 (by simp; omega) (by simp; omega) ?_
      rw [List.length_replicate]
      apply Stop.go
      intro gL capL wL HL HbL HgL HwL
      have HL2 : Hid (OwnL (RdP RdBs (B ≤ ·)) wL B 56 1 (.slice (some ⟨gL, 0, none⟩) (k + 1) capL) (List.replicate (k + 1) (zeros 256))) := Lib.hid (by rw [List.replicate_succ']; exact HL.out)
      have BL := Lib.hid ((B7.out.mono HB.out).trans HbL.out)
      have CL := Lib.hid (hSn.below HbL.out (by have := Z.out; omega))
      have ZL := Lib.hid (Zr.out.below BL.out (by have := Z.out; omega))
      have KL := Lib.hid (KN.out.belowT BL.out (fun ad e => by injection e with e; subst e; show gk < B; have := Z.out; omega))
      have WL := Lib.hid (W.out.trans (BL.out.mono (by have := Z.out; omega)))
      have SL := Lib.hid (show B ≤ wL.heap.size from Nat.le_trans Z7.out.2.2 HbL.out.size)
      clear HL HbL HgL HwL Hg6 Hb6 Hg7 Hb7 V7
      have hSn := CL.out; refine hK _ _ hSn ?_; clear hK; clear K; simp only [setL]
      refine WT.tk 5 ?_; simp only [setL]
      refine WT.last _ rfl (by kernel_rfl) rfl (fun K hK => ?_)
      refine ow_store_cell _ _ _ rfl Tryz.dcBaseSzN g3 0 rfl (.slice (some ⟨gL, 0, none⟩) (k + 1) capL) rfl rfl rfl _ _ CL.out (by show 0 < 7; omega) ?_
      apply Stop.go; intro w9 Ho9 Hb9
      refine hK _ _ ?_; clear hK; clear K; simp only [setL]; refine WT.done (by kernel_rfl) ?_
      have C9 := Lib.hid (show Blk w9 g3 32 #[.slice (some ⟨gL, 0, none⟩) (k + 1) capL, .slice none 0 0, .int .i64 0, .int .i64 (-1), .bool false, .int .i64 0, .slice (some ⟨gk, 0, none⟩) 16 16] from Hb9.out)
      have Z9 := Lib.hid (ZL.out.only Ho9.out (by have := Z.out; omega))
      have V9 := Lib.hid (HL2.out.onlyP Ho9.out (fun q e => by have h1 := (HL2.out.lt2 q e).1; have h2 := Z.out; omega) (fun q hq => by have h1 : B ≤ q := hq; have h2 := Z.out; omega))
      have K9 := Lib.hid (KL.out.onlyT Ho9.out (fun _ ad e => by injection e with e; subst e; show gk ≠ g3; have := Z.out; omega))
      have W9 := Lib.hid (bonly WL.out Ho9.out (by have := Z.out; omega))
      have S9 := Lib.hid (show B ≤ w9.heap.size from Nat.le_trans SL.out (Nat.le_of_eq Ho9.out.size.symm))
      clear Ho9 Hb9 CL ZL KL WL SL HL2 hSn
      go_wp2_with fail
      go_roundw
      case rel => exact ⟨k + 1, _, by omega, by go_num, C9.out, Z9.out, V9.out, K9.out, W9.out, S9⟩
      case measure => simp [intOf]; omega
    · have d1 : decide ((k : Int) < 16) = false := by rw [decide_eq_false_iff_not]; omega
      obtain rfl : k = 16 := by omega
      clear hlt
      obtain ⟨A', c', rfl, -⟩ := V.out.read
      go_wp2_with (first | refine wpList_load_blk rfl _ _ rfl _ rfl _ _ C.out _ Tryz.underlying32 rfl Tryz.dcSize ?_ | refine wpList_store_arr rfl _ _ _ rfl _ #[.slice A' 16 c', .slice none 0 0, .int .i64 0, .int .i64 (-1), .bool false, .int .i64 0, .slice (some ⟨gk, 0, none⟩) 16 16] rfl rfl _ _ Zr.out Tryz.dcSize rfl (by simp [Value.oneCell']) ?_); apply Stop.go; intro w5 Ho5 Hb5
      go_wp2_with ((with_reducible show bodyPost _ _ _ _ _ _); refine bodyPost_struct rfl _ rfl _ _ Hb5.out _ Tryz.underlying32 rfl Tryz.dcSize rfl ?_)
      apply Stop.go
      have V5 := (V.out.onlyP Ho5.out (fun q e => by have h1 := (V.out.lt2 q e).1; have h2 := Z.out; omega) (fun q hq => by have h1 : B ≤ q := hq; have h2 := Z.out; omega)).reads
      have K5 := KN.out.onlyT Ho5.out (fun _ ad e => by injection e with e; subst e; show gk ≠ _; have := Z.out; omega)
      rw [List.length_replicate] at V5
      have OB := Lib.hid (fun (ad : Addr) (e : A' = some ad) => show p ad.block from HP.out _ (by
        have h1 := V.out.ownB (by decide) ad e
        have h2 := Z.out
        omega))
      exact ⟨_, _, _, _, _, _, _, _, _, rfl, ⟨⟨V5.1, V5.2.1, by omega, V5.2.2.2.ofP, rfl, Nat.le_refl _, by omega, RdL.nilC _, by simp [DC.new], by omega, by omega, K5, fun c hc => by cases hc⟩, V5.2.2.2.monoP (fun q _ hq => HP.out q (by have h1 : B ≤ q := hq; have h2 := Z.out; omega)), RdL.nilP _ _, fun _ => OB.out, fun hl => absurd hl (by decide), fun _ ad e => by injection e with e; subst e; exact HP.out gk (by have h2 := Z.out; omega)⟩, bonly W.out Ho5.out (Nat.le_refl _)⟩

end Go.Proofs.YtpmbpklbiocclaaGreat
