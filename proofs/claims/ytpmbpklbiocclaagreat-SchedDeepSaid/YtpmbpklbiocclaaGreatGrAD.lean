/-
  Texts of this claim joined: FamA, DepA, SimA, DiskA, Kcell.
-/
import Derived.Test.YtpmbpklbiocclaaGreatGrAB
import Derived.Test.YtpmbpklbiocclaaGreatPatO
import Derived.Test.YtpmbpklbiocclaaGreatGrAA

/-
  Lists of numbers of the call's own that grow side by side, by whatever they are told apart: what an append to one leaves of all. Plain; no program is named here.
-/
namespace Go.Proofs.YtpmbpklbiocclaaGreat
open Go.RowKit

def updF {ι β : Type} [DecidableEq ι] (f : ι → β) (i : ι) (x : β) : ι → β := fun j => if j = i then x else f j
theorem updF_same {ι β : Type} [DecidableEq ι] (f : ι → β) (i : ι) (x : β) : updF f i x i = x := if_pos rfl
theorem updF_other {ι β : Type} [DecidableEq ι] (f : ι → β) {i j : ι} (x : β) (h : j ≠ i) : updF f i x j = f j := if_neg h
def HiS (B : Nat) (w w' : World) : Prop := ∀ k, B ≤ k → k < w.heap.size → w'.heap[k]? = w.heap[k]?
theorem HiS.of_only {B g : Nat} {w w' : World} (h : Only w w' g) (hg : g < B) : HiS B w w' := fun k hk _ => h.block k (by omega)
theorem HiS.of_below {B : Nat} {w w' : World} (h : Below w.heap.size w w') : HiS B w w' := fun k _ hl => h.block k hl
theorem HiS.of_grown {B b : Nat} {w w' : World} (h : w.grownBy w' (some b)) (hb : b < B) : HiS B w w' := fun k hk hl => h.block k hl (fun e => by injection e with e; omega)
theorem OwnC.hi {w w' : World} {B : Nat} {e : TypeId} {v : Value} {l : List Value} (h : OwnC w B e v l) (hs : HiS B w w') : OwnC w' B e v l := by
  obtain ⟨hl, h | ⟨k, cap, cur, hv, hbk, hk, h⟩⟩ := h
  · exact ⟨hl, Or.inl h⟩
  · exact ⟨hl, Or.inr ⟨k, cap, cur, hv, hbk, (hs k hbk (Blk.lt hk)).trans hk, h⟩⟩
structure Fam {ι : Type} (w : World) (B : Nat) (e : TypeId) (S : ι → Value) (X : ι → List Int) : Prop where
  own : ∀ i, OwnC w B e (S i) (ivals (X i))
  apart : ∀ i j, i ≠ j → Apart (S i) (S j)
section
variable {ι : Type} {w w' : World} {B : Nat} {e : TypeId} {S : ι → Value} {X : ι → List Int}
theorem Fam.none (w : World) (B : Nat) (e : TypeId) : Fam (ι := ι) w B e (fun _ => .slice none 0 0) (fun _ => []) := ⟨fun _ => OwnC.nil_ w B e, fun _ _ _ => Apart.nil_ _⟩
theorem Fam.hi (h : Fam w B e S X) (hs : HiS B w w') : Fam w' B e S X := ⟨fun i => (h.own i).hi hs, h.apart⟩
theorem Fam.ext (h : Fam w B e S X) (hb : Below w.heap.size w w') : Fam w' B e S X := h.hi (HiS.of_below hb)
theorem Fam.congr {S' : ι → Value} {X' : ι → List Int} (h : Fam w B e S X) (hS : ∀ i, S' i = S i) (hX : ∀ i, X' i = X i) : Fam w B e S' X' := by
  rw [show S' = S from funext hS, show X' = X from funext hX]; exact h
theorem Fam.add [DecidableEq ι] (h : Fam w B e S X) {i : ι} {v : Value} {L : List Int} (ha : Added w w' B (S i) v) (ho : OwnC w' B e v (ivals L)) : Fam w' B e (updF S i v) (updF X i L) where
  own j := by
    by_cases hj : j = i
    · subst hj; rw [updF_same, updF_same]; exact ho
    · rw [updF_other _ _ hj, updF_other _ _ hj]; exact (ha.keep B e (S j) _ (h.own j) (h.apart j i hj)).1
  apart j k hjk := by
    by_cases hj : j = i
    · subst hj
      rw [updF_same, updF_other _ _ (Ne.symm hjk)]
      exact (ha.keep B e (S k) _ (h.own k) (h.apart k j (Ne.symm hjk))).2.symm
    · rw [updF_other _ _ hj]
      by_cases hk : k = i
      · subst hk
        rw [updF_same]
        exact (ha.keep B e (S j) _ (h.own j) (h.apart j k hjk)).2
      · rw [updF_other _ _ hk]; exact h.apart j k hjk
theorem Fam.clear [DecidableEq ι] (h : Fam w B e S X) (i : ι) : Fam w B e (updF S i (.slice Option.none 0 0)) (updF X i []) where
  own j := by
    by_cases hj : j = i
    · subst hj; rw [updF_same, updF_same]; exact OwnC.nil_ _ _ _
    · rw [updF_other _ _ hj, updF_other _ _ hj]; exact h.own j
  apart j k hjk := by
    by_cases hj : j = i
    · subst hj; rw [updF_same]; exact Apart.nil_ _
    · by_cases hk : k = i
      · subst hk; rw [updF_same]; exact (Apart.nil_ _).symm
      · rw [updF_other _ _ hj, updF_other _ _ hk]; exact h.apart j k hjk
end

structure Lies (w w' : World) (v v' : Value) : Prop where
  grown : w.grownBy w' v.ownBlock
  place : v'.ownBlock = v.ownBlock ∨ v'.ownBlock = some w.heap.size
structure Turns {ι : Type} (G : Nat → Prop) (w w' : World) (S S' : ι → Value) : Prop where
  os : w'.os = w.os
  tape : w'.tape = w.tape
  output : w'.output = w.output
  size : w.heap.size ≤ w'.heap.size
  keep : ∀ r, r < w.heap.size → ¬ G r → (∀ i, (S i).ownBlock ≠ some r) → w'.heap[r]? = w.heap[r]? ∧ ∀ i, (S' i).ownBlock ≠ some r
section
variable {ι : Type} {G : Nat → Prop} {w w' w'' : World} {S S' S'' : ι → Value}
theorem Turns.refl (G : Nat → Prop) (w : World) (S : ι → Value) : Turns G w w S S := ⟨rfl, rfl, rfl, Nat.le_refl _, fun _ _ _ h => ⟨rfl, h⟩⟩
theorem Turns.trans (h : Turns G w w' S S') (k : Turns G w' w'' S' S'') : Turns G w w'' S S'' :=
  ⟨k.os.trans h.os, k.tape.trans h.tape, k.output.trans h.output, Nat.le_trans h.size k.size, fun r hr hg hs => by
    obtain ⟨h1, h2⟩ := h.keep r hr hg hs
    obtain ⟨h3, h4⟩ := k.keep r (Nat.lt_of_lt_of_le hr h.size) hg h2
    exact ⟨h3.trans h1, h4⟩⟩
theorem Turns.mono {G' : Nat → Prop} (h : Turns G w w' S S') (hg : ∀ r, r < w.heap.size → G r → G' r) : Turns G' w w' S S' :=
  ⟨h.os, h.tape, h.output, h.size, fun r hr hG hs => h.keep r hr (fun g => hG (hg r hr g)) hs⟩
theorem Turns.of_below (G : Nat → Prop) (S : ι → Value) (h : Below w.heap.size w w') : Turns G w w' S S := ⟨h.os, h.tape, h.output, h.size, fun r hr _ hs => ⟨h.block r hr, hs⟩⟩
theorem Turns.of_only (S : ι → Value) {g : Nat} (h : Only w w' g) (hg : G g) : Turns G w w' S S :=
  ⟨h.os, h.tape, h.output, Nat.le_of_eq h.size.symm, fun r _ hG hs => ⟨h.block r (fun e => hG (e ▸ hg)), hs⟩⟩
theorem Turns.of_grown (S : ι → Value) {g : Nat} (h : w.grownBy w' (some g)) (hg : G g) : Turns G w w' S S :=
  ⟨h.os, h.tape, h.output, h.size, fun r hr hG hs => ⟨h.block r hr (fun e => by injection e with e; exact hG (e ▸ hg)), hs⟩⟩
theorem Turns.of_lies [DecidableEq ι] (G : Nat → Prop) {i : ι} {v : Value} (h : Lies w w' (S i) v) : Turns G w w' S (updF S i v) :=
  ⟨h.grown.os, h.grown.tape, h.grown.output, h.grown.size, fun r hr _ hs => ⟨h.grown.block r hr (fun e => hs i e.symm), fun j => by
    by_cases hj : j = i
    · subst hj
      rw [updF_same]
      rcases h.place with e | e
      · rw [e]; exact hs j
      · rw [e]; intro e2; injection e2 with e2; omega
    · rw [updF_other _ _ hj]; exact hs j⟩⟩
theorem Turns.below {B : Nat} (h : Turns G w w' S S') (hG : ∀ r, G r → B ≤ r) (hS : ∀ i k, (S i).ownBlock = some k → B ≤ k) (hB : B ≤ w.heap.size) : Below B w w' :=
  ⟨h.os, h.tape, h.output, h.size, fun r hr => (h.keep r (by omega) (fun g => by have := hG r g; omega) (fun i e => by have := hS i r e; omega)).1⟩
def NoB (S : ι → Value) (r : Nat) : Prop := ∀ i, (S i).ownBlock ≠ some r
theorem NoB.upd [DecidableEq ι] {r : Nat} {i : ι} {v : Value} (h : NoB S r) (hl : Lies w w' (S i) v) (hr : r < w.heap.size) : NoB (updF S i v) r := fun j => by
  by_cases hj : j = i
  · subst hj
    rw [updF_same]
    rcases hl.place with e | e
    · rw [e]; exact h j
    · rw [e]; intro e2; injection e2 with e2; omega
  · rw [updF_other _ _ hj]; exact h j
theorem NoB.nil [DecidableEq ι] {r : Nat} (h : NoB S r) (i : ι) : NoB (updF S i (.slice none 0 0)) r := fun j => by
  by_cases hj : j = i
  · subst hj; rw [updF_same]; simp [Value.ownBlock]
  · rw [updF_other _ _ hj]; exact h j
theorem Fam.onlyNo {B : Nat} {e : TypeId} {X : ι → List Int} (h : Fam w B e S X) {r : Nat} (hn : NoB S r) (ho : Only w w' r) : Fam w' B e S X := ⟨fun i => by
  obtain ⟨hl, h1 | ⟨k, cap, cur, hv, hbk, hk, h1⟩⟩ := h.own i
  · exact ⟨hl, Or.inl h1⟩
  · refine ⟨hl, Or.inr ⟨k, cap, cur, hv, hbk, Blk.only hk ho (fun e => hn i ?_), h1⟩⟩
    rw [hv, e]; rfl, h.apart⟩
theorem Lies.blk {g : Nat} {t : TypeId} {cs : Array Value} {v v' : Value} (h : Lies w w' v v') (hg : Blk w g t cs) (hn : v.ownBlock ≠ some g) : Blk w' g t cs :=
  (h.grown.block g hg.lt (fun e => hn e.symm)).trans hg
theorem Fam.lt {B : Nat} {e : TypeId} {X : ι → List Int} (h : Fam w B e S X) (i : ι) : ∀ k, (S i).ownBlock = some k → B ≤ k ∧ k < w.heap.size := (h.own i).lt
end

theorem Fam.no {ι : Type} {w : World} {B : Nat} {e : TypeId} {S : ι → Value} {X : ι → List Int} (h : Fam w B e S X) {r : Nat} (hr : r < B ∨ w.heap.size ≤ r) : NoB S r := fun i e => by
  have := h.lt i r e
  omega
def vc (n : Nat) (S : Nat → Value) : Array Value := ((List.range n).map S).toArray
theorem vc_size (n : Nat) (S : Nat → Value) : (vc n S).size = n := by simp [vc]
theorem vc_get {n k : Nat} (S : Nat → Value) (h : k < n) : (vc n S)[k]? = some (S k) := by simp [vc, h]
theorem vc_rep (n : Nat) (z : Value) : (List.replicate n z).toArray = vc n (fun _ => z) := by
  apply Array.ext_getElem?
  intro i
  by_cases hi : i < n
  · rw [vc_get _ hi]; simp [hi]
  · rw [Array.getElem?_eq_none (by simp; omega), Array.getElem?_eq_none (by rw [vc_size]; omega)]
theorem vc_set (n : Nat) (S : Nat → Value) (k : Nat) (v : Value) : (vc n S).setIfInBounds k v = vc n (updF S k v) := by
  apply Array.ext_getElem?
  intro i
  rw [Array.getElem?_setIfInBounds, vc_size]
  by_cases hi : i < n
  · rw [vc_get _ hi, vc_get _ hi]
    by_cases h : k = i
    · subst h; rw [if_pos rfl, if_pos hi, updF_same]
    · rw [if_neg h, updF_other _ _ (Ne.symm h)]
  · rw [Array.getElem?_eq_none (by rw [vc_size]; omega), Array.getElem?_eq_none (by rw [vc_size]; omega)]
    by_cases h : k = i
    · rw [if_pos h, if_neg (by omega)]
    · rw [if_neg h]
theorem vc_congr {n : Nat} {S T : Nat → Value} (e : ∀ k, k < n → S k = T k) : vc n S = vc n T := by
  apply Array.ext_getElem?
  intro i
  by_cases hi : i < n
  · rw [vc_get _ hi, vc_get _ hi, e i hi]
  · rw [Array.getElem?_eq_none (by rw [vc_size]; omega), Array.getElem?_eq_none (by rw [vc_size]; omega)]

section
variable {P : Program} {ops : Array Oper} {rest : List Oper} {o : Oper} {a : Act} {w : World} {K : Act → World → Prop} {Q : Exit → Act → World → Prop}
theorem ow_append_int (s x : Operand) (t e : TypeId) (ho : o.op = .call { callee := .builtin .append, args := #[s, x], argTypes := #[t, t] })
    (ht : P.underlying t = some (.slice e)) (z : Value) (by_ : Nat) (hi : (P.info? e).map (fun i => (i.zero, i.size, i.bytes)) = some (some z, 1, by_)) (hz : z.cells.size = 1)
    (B : Nat) (v : Value) (l : List Int) (hs : a.eval s = v) (hown : OwnC w B e v (ivals l)) (X : Int) (g0 : Nat) (hx : a.eval x = .slice (some ⟨g0, 0, none⟩) 1 1) (e0 : TypeId) (hg : Blk w g0 e0 #[.int .i64 X])
    (hB : B ≤ w.heap.size) (hlen : l.length + 1 ≤ maxLen) (hby : (l.length + 1) * by_ ≤ 140737488355328)
    (h : Stop (∀ v' w', Hid (OwnC w' B e v' (ivals (l ++ [X]))) → Hid (Added w w' B v v') → Hid (Lies w w' v v') → K (a.put o.dst v') w')) : o.wp P a w K Q := by
  obtain ⟨v', w', hr, h1, h2, h3⟩ := run_append_one P w t o.type e ht z by_ hi hz B v (ivals l) hown (.int .i64 X) rfl ⟨g0, 0, none⟩ 1 (hg.cell 0) hB (by rw [ivals_len]; exact hlen) (by rw [ivals_len]; exact hby)
  unfold Oper.wp execOp
  simp only [ho, resolve, invoke, builtin, Sem.run_bind, Sem.run_pure, Result.andThen_ok, List.map_toArray, List.map_cons, List.map_nil, hs, hx, hr]
  rw [ivals_snoc] at h1
  refine h v' w' h1 ⟨?_, fun B' e' u m hu hap => ⟨?_, fun k hk => ?_⟩⟩ ⟨h2, h3⟩
  · refine (Below.refl B w).grown h2 hB ?_
    intro k hk
    exact (hown.lt k hk).1
  · refine World.ownsRow.kept hu h2 ?_
    cases hb : u.ownBlock with
    | none => exact Or.inl rfl
    | some k => exact Or.inr fun e => hap k hb e.symm
  · have hlt := (hu.lt k hk).2
    rcases h3 with h3 | h3 <;> rw [h3]
    · exact hap k hk
    · simp
      omega
theorem wpList_append_int (hgd : Region.wanted o (yielded ops a.tmps) = true) (s x : Operand) (t e : TypeId) (ho : o.op = .call { callee := .builtin .append, args := #[s, x], argTypes := #[t, t] })
    (ht : P.underlying t = some (.slice e)) (z : Value) (by_ : Nat) (hi : (P.info? e).map (fun i => (i.zero, i.size, i.bytes)) = some (some z, 1, by_)) (hz : z.cells.size = 1)
    (B : Nat) (v : Value) (l : List Int) (hs : a.eval s = v) (hown : OwnC w B e v (ivals l)) (X : Int) (g0 : Nat) (hx : a.eval x = .slice (some ⟨g0, 0, none⟩) 1 1) (e0 : TypeId) (hg : Blk w g0 e0 #[.int .i64 X])
    (hB : B ≤ w.heap.size) (hlen : l.length + 1 ≤ maxLen) (hby : (l.length + 1) * by_ ≤ 140737488355328)
    (h : Stop (∀ v' w', Hid (OwnC w' B e v' (ivals (l ++ [X]))) → Hid (Added w w' B v v') → Hid (Lies w w' v v') → wpList P ops Q rest (a.put o.dst v') w')) : wpList P ops Q (o :: rest) a w :=
  wpList_wanted hgd fun _ hK => ow_append_int s x t e ho ht z by_ hi hz B v l hs hown X g0 hx e0 hg hB hlen hby (fun v' w' h1 h2 h3 => hK _ _ (h v' w' h1 h2 h3))
end

end Go.Proofs.YtpmbpklbiocclaaGreat

/-
  Changes of which each waits for some that are noted when it is made: what is ready by these is what is ready by the document's words; in whatever such order they are laid, the image is the document's. Plain; no program is named here.
-/
namespace Go.Proofs.YtpmbpklbiocclaaGreat

theorem may_pw {l : List Cg} {b : Int} (hm : mayN b l = true) : l.Pairwise fun c d => c.id < d.id := by
  induction l generalizing b with
  | nil => exact List.Pairwise.nil
  | cons c l ih =>
    obtain ⟨h1, h2⟩ := mayN_cons.1 hm
    exact List.pairwise_cons.2 ⟨mayN_gt h2, ih h2⟩
theorem may_right {l : List Cg} {b : Int} (hm : mayN b l = true) : ∀ c ∈ l, c.p.right = true ∧ 1 ≤ c.id - b := by
  induction l generalizing b with
  | nil => intro c hc; cases hc
  | cons d l ih =>
    obtain ⟨h1, h2⟩ := mayN_cons.1 hm
    have h3 := Cg.may_iff.1 h1
    intro c hc
    rcases List.mem_cons.1 hc with rfl | hc
    · exact ⟨h3.2.2.1, by omega⟩
    · have := ih h2 c hc; exact ⟨this.1, by omega⟩
def idsC (l : List Cg) : List Int := l.map (·.id)
theorem idsC_mem {l : List Cg} {i : Int} : i ∈ idsC l ↔ ∃ c ∈ l, c.id = i := by unfold idsC; rw [List.mem_map]
theorem idsC_has {l : List Cg} {i : Int} : i ∈ idsC l ↔ hasId l i = true := by rw [idsC_mem, hasId_iff]
theorem idsC_rise {l : List Cg} (hm : mayC l = true) : RiseI (idsC l) := by
  unfold idsC RiseI
  rw [List.pairwise_map]
  exact may_pw hm
theorem ready_iff {l : List Cg} {b : Int} (hm : mayC l = true) {c : Cg} (hc : c ∈ l) : c.id ∈ readyC l b ↔ c.block = b ∧ ∀ d ∈ l, d.id < c.id → keepsB d c = true → d.id ∈ readyC l b := by
  have hpw := may_pw hm
  constructor
  · intro h
    obtain ⟨p, c', q, h1, h2, h3, h4⟩ := readyC_spec hm _ h
    have e : c' = c := may_id hm (by rw [h1]; simp) hc h2
    subst e
    refine ⟨h3, fun d hd hlt hk => h4 d ?_ hk⟩
    rw [h1] at hd hpw
    rcases List.mem_append.1 hd with hd | hd
    · exact hd
    · rcases List.mem_cons.1 hd with rfl | hd
      · omega
      · have := (List.pairwise_cons.1 (List.pairwise_append.1 hpw).2.1).1 d hd
        omega
  · rintro ⟨h1, h2⟩
    obtain ⟨p, q, hl⟩ := List.append_of_mem hc
    refine readyC_full hm hl h1 fun d hd hk => h2 d (by rw [hl]; simp [hd]) ?_ hk
    rw [hl] at hpw
    exact (List.pairwise_append.1 hpw).2.2 d hd c (by simp)
def Cl (ids : List Int) (dep : Int → Int → Bool) (K : Int → Prop) : Prop := ∀ j, K j → ∀ i ∈ ids, dep i j = true → K i
def depW (W : Int → List Int) (i j : Int) : Bool := (W j).contains i
theorem depW_iff {W : Int → List Int} {i j : Int} : depW W i j = true ↔ i ∈ W j := by unfold depW; rw [List.contains_iff_mem]
structure Dep (l : List Cg) (cg : Int → Cg) (W : Int → List Int) : Prop where
  cg : ∀ c ∈ l, cg c.id = c
  lt : ∀ c ∈ l, ∀ i ∈ W c.id, i < c.id
  sub : ∀ c ∈ l, ∀ i ∈ idsC l, i ∈ W c.id → ∃ d ∈ l, d.id = i ∧ keepsB d c = true
  sup : ∀ c ∈ l, ∀ d ∈ l, d.id < c.id → keepsB d c = true → ∀ K, Cl (idsC l) (depW W) K → K c.id → K d.id
section
variable {l : List Cg} {cg : Int → Cg} {W : Int → List Int} {b : Int} {L : List Int}
theorem Dep.blk (h : Dep l cg W) {j : Int} (hj : j ∈ idsC l) : ∃ c ∈ l, c.id = j ∧ cg j = c := by
  obtain ⟨c, hc, rfl⟩ := idsC_mem.1 hj
  exact ⟨c, hc, rfl, h.cg c hc⟩
theorem Kahn.closed {ids : List Int} {dep : Int → Int → Bool} {blk : Int → Int} (hK : Kahn ids dep blk b L) : Cl ids dep (· ∈ L) := fun j hj i hi hd => (hK.iff (hK.mem j hj).1 (hK.mem j hj).2).1 hj i hi hd
theorem Kahn.head {ids : List Int} {dep : Int → Int → Bool} {blk : Int → Int} (hK : Kahn ids dep blk b L) (q : Nat) : Cl ids dep (· ∈ L.take q) := fun j hj i hi hd => by
  obtain ⟨k, hk, e⟩ := List.getElem_of_mem hj
  rw [List.length_take] at hk
  rw [List.getElem_take] at e
  rw [← e] at hd
  have h1 := hK.ord k (by omega) i hi hd
  obtain ⟨m, hm, e2⟩ := List.getElem_of_mem h1
  rw [List.length_take] at hm
  rw [List.getElem_take] at e2
  rw [← e2]
  exact List.mem_take_iff_getElem.2 ⟨m, by omega, rfl⟩
theorem Dep.ready (h : Dep l cg W) (hm : mayC l = true) (hK : Kahn (idsC l) (depW W) (fun j => (cg j).block) b L) : ∀ j, j ∈ L ↔ j ∈ readyC l b := by
  have key : ∀ n : Nat, ∀ c ∈ l, c.id.toNat < n → (c.id ∈ L ↔ c.id ∈ readyC l b) := by
    intro n
    induction n with
    | zero => intro c _ h; omega
    | succ n ih =>
      intro c hc hn
      have hlt : ∀ d ∈ l, d.id < c.id → d.id.toNat < n := fun d hd hdc => by
        have := (may_right hm d hd).2
        omega
      have hid : c.id ∈ idsC l := idsC_mem.2 ⟨c, hc, rfl⟩
      rw [ready_iff hm hc]
      constructor
      · intro hj
        refine ⟨?_, fun d hd hdc hk => ?_⟩
        · have h1 := (hK.mem _ hj).2
          simp only [h.cg c hc] at h1
          exact h1
        · exact (ih d hd (hlt d hd hdc)).1 (h.sup c hc d hd hdc hk _ hK.closed hj)
      · rintro ⟨h1, h2⟩
        refine (hK.iff hid (by simp only [h.cg c hc]; exact h1)).2 fun i hi hdep => ?_
        have hiw := depW_iff.1 hdep
        obtain ⟨d, hd, rfl, hk⟩ := h.sub c hc i hi hiw
        have hdc := h.lt c hc _ hiw
        exact (ih d hd (hlt d hd hdc)).2 (h2 d hd hdc hk)
  intro j
  constructor
  · intro hj
    obtain ⟨c, hc, rfl⟩ := idsC_mem.1 (hK.mem j hj).1
    exact (key _ c hc (Nat.lt_succ_self _)).1 hj
  · intro hj
    obtain ⟨c, hc, rfl⟩ := idsC_mem.1 (show j ∈ idsC l from readyC_sub.subset hj)
    exact (key _ c hc (Nat.lt_succ_self _)).2 hj

def lastAt (t : Nat) : List Pt → Option Pt
  | [] => none
  | p :: ps => match lastAt t ps with
    | some q => some q
    | none => if p.has t then some p else none
theorem lastAt_cons (t : Nat) (p : Pt) (ps : List Pt) : lastAt t (p :: ps) = match lastAt t ps with
    | some q => some q
    | none => if p.has t then some p else none := rfl
theorem layAll_get {t : Nat} : ∀ (ps : List Pt) {L : List UInt8}, L.length = 256 → (layAll L ps)[t]? = match lastAt t ps with
    | some p => p.data[t - p.lo]?
    | none => L[t]? := by
  intro ps
  induction ps with
  | nil => intro L _; rfl
  | cons p ps ih =>
    intro L hL
    show (layAll (layP L p) ps)[t]? = _
    rw [ih (layP_len p hL), lastAt_cons]
    cases lastAt t ps with
    | some q => rfl
    | none =>
      simp only
      rw [layP_get p hL]
      by_cases hp : p.has t = true
      · rw [if_pos hp, if_pos hp]
      · rw [if_neg hp, if_neg hp]
theorem lastAt_none {t : Nat} : ∀ {ps : List Pt}, (∀ p ∈ ps, p.has t = false) → lastAt t ps = none := by
  intro ps
  induction ps with
  | nil => intro _; rfl
  | cons p ps ih =>
    intro h
    rw [lastAt_cons, ih fun q hq => h q (List.mem_cons_of_mem _ hq)]
    simp only
    rw [h p (by simp)]
    rfl
theorem lastAt_some {t : Nat} : ∀ {ps : List Pt} {k : Nat} (hk : k < ps.length), ps[k].has t = true → (∀ j (hj : j < ps.length), k < j → ps[j].has t = false) → lastAt t ps = some ps[k] := by
  intro ps
  induction ps with
  | nil => intro k hk; cases hk
  | cons p ps ih =>
    intro k hk hp ha
    rw [lastAt_cons]
    cases k with
    | zero =>
      rw [lastAt_none fun q hq => by
        obtain ⟨j, hj, rfl⟩ := List.getElem_of_mem hq
        exact ha (j + 1) (by simpa using hj) (Nat.succ_pos _)]
      simp only [List.getElem_cons_zero] at hp ⊢
      rw [if_pos hp]
    | succ k =>
      simp only [List.length_cons] at hk
      have hp' : ps[k].has t = true := hp
      rw [ih (k := k) (by omega) hp' fun j hj hkj => ha (j + 1) (by simpa using hj) (by omega)]
      rfl
theorem max_has {t : Nat} : ∀ (ps : List Pt), (∀ p ∈ ps, p.has t = false) ∨ ∃ k, ∃ hk : k < ps.length, ps[k].has t = true ∧ ∀ j (hj : j < ps.length), k < j → ps[j].has t = false := by
  intro ps
  induction ps with
  | nil => exact Or.inl fun p hp => by cases hp
  | cons p ps ih =>
    rcases ih with h | ⟨k, hk, h1, h2⟩
    · cases hp : p.has t
      · exact Or.inl fun q hq => by
          rcases List.mem_cons.1 hq with rfl | hq
          · exact hp
          · exact h q hq
      · refine Or.inr ⟨0, by simp, hp, fun j hj hlt => ?_⟩
        obtain ⟨m, rfl⟩ : ∃ m, j = m + 1 := ⟨j - 1, by omega⟩
        exact h _ (List.getElem_mem _)
    · refine Or.inr ⟨k + 1, by simpa using hk, h1, fun j hj hlt => ?_⟩
      obtain ⟨m, rfl⟩ : ∃ m, j = m + 1 := ⟨j - 1, by omega⟩
      exact h2 m (by simpa using hj) (by omega)
theorem layAll_same {ps qs : List Pt} {L : List UInt8} (hL : L.length = 256) (h : ∀ t, lastAt t ps = lastAt t qs) : layAll L ps = layAll L qs := by
  apply List.ext_getElem?
  intro t
  rw [layAll_get ps hL, layAll_get qs hL, h]
theorem Dep.image (h : Dep l cg W) (hm : mayC l = true) (hK : Kahn (idsC l) (depW W) (fun j => (cg j).block) b L) {B : List UInt8} (hB : B.length = 256) : layAll B (L.map fun j => (cg j).p) = imageC B l b := by
  have hr := h.ready hm hK
  have hmem : ∀ c, c ∈ doneC l b ↔ c ∈ l ∧ c.id ∈ L := fun c => by
    unfold doneC ofC
    rw [List.mem_filter, List.mem_filter, List.contains_iff_mem, hr, decide_eq_true_eq]
    constructor
    · rintro ⟨⟨h1, h2⟩, h3⟩; exact ⟨h1, h3⟩
    · rintro ⟨h1, h2⟩; exact ⟨⟨h1, ((ready_iff hm h1).1 h2).1⟩, h2⟩
  have hpw : (doneC l b).Pairwise fun c d => c.id < d.id := List.Pairwise.sublist (List.filter_sublist.trans List.filter_sublist) (may_pw hm)
  unfold imageC laidC
  refine layAll_same hB fun t => ?_
  rcases max_has (t := t) ((doneC l b).map (·.p)) with hno | ⟨k, hk, h1, h2⟩
  · rw [lastAt_none hno, lastAt_none fun p hp => ?_]
    obtain ⟨j, hj, rfl⟩ := List.mem_map.1 hp
    obtain ⟨c, hc, rfl, hcg⟩ := h.blk (hK.mem j hj).1
    rw [hcg]
    exact hno _ (List.mem_map.2 ⟨c, (hmem c).2 ⟨hc, hj⟩, rfl⟩)
  · rw [lastAt_some hk h1 h2]
    have hkd : k < (doneC l b).length := by simpa using hk
    obtain ⟨c, hce⟩ : ∃ c, (doneC l b)[k] = c := ⟨_, rfl⟩
    have hcm := (hmem c).1 (by rw [← hce]; exact List.getElem_mem hkd)
    obtain ⟨q, hq, hqe⟩ := List.getElem_of_mem hcm.2
    rw [List.getElem_map, hce] at h1 ⊢
    have hqm : q < (L.map fun j => (cg j).p).length := by simpa using hq
    have e : (L.map fun j => (cg j).p)[q] = c.p := by rw [List.getElem_map, hqe, h.cg c hcm.1]
    rw [← e]
    refine lastAt_some hqm (by rw [e]; exact h1) fun j hj hqj => ?_
    rw [List.getElem_map]
    have hjl : j < L.length := by simpa using hj
    obtain ⟨r, hr1, hr2, hr3⟩ := h.blk (hK.mem L[j] (List.getElem_mem hjl)).1
    rw [hr3]
    cases hrt : r.p.has t
    · rfl
    · exfalso
      have hrL : r.id ∈ L := by rw [hr2]; exact List.getElem_mem hjl
      obtain ⟨m, hmd, hme⟩ := List.getElem_of_mem ((hmem r).2 ⟨hr1, hrL⟩)
      have hmk : ¬ k < m := fun hlt => by
        have h3 := h2 m (by simpa using hmd) hlt
        rw [List.getElem_map, hme, hrt] at h3
        cases h3
      have hcr : L[q] = L[j] → False := fun hh => by
        have := (List.getElem_inj (hK.nd)).1 hh
        omega
      have hne : m ≠ k := fun hh => by
        subst hh
        rw [hce] at hme
        exact hcr (by rw [hqe, hme, hr2])
      have hlt : r.id < c.id := by
        have := List.pairwise_iff_getElem.1 hpw m k hmd hkd (by omega)
        rw [hme, hce] at this
        exact this
      have hblk : r.block = c.block := by
        have g1 := (hK.mem _ hrL).2
        have g2 := (hK.mem _ hcm.2).2
        simp only [h.cg r hr1, h.cg c hcm.1] at g1 g2
        rw [g1, g2]
      have hkp : keepsB r c = true := by
        unfold keepsB
        rw [Bool.or_eq_true, Bool.and_eq_true, decide_eq_true_eq]
        exact Or.inl ⟨hblk, meetP_iff.2 ⟨t, hrt, h1⟩⟩
      have h3 := h.sup c hcm.1 r hr1 hlt hkp _ (hK.head (q + 1)) (by
        rw [← hqe]
        exact List.mem_take_iff_getElem.2 ⟨q, by omega, rfl⟩)
      rw [hr2] at h3
      obtain ⟨m2, hm2, e2⟩ := List.mem_take_iff_getElem.1 h3
      have := (List.getElem_inj (hK.nd)).1 e2
      omega
end

structure LatOk (l : List Cg) (W : Int → List Int) (k : Int) (lat : List Int) : Prop where
  near : ∀ t, t < 256 → ∀ c ∈ l, c.block = k → c.p.has t = true → lat.getD t 0 ∈ idsC l ∧ ∀ K, Cl (idsC l) (depW W) K → K (lat.getD t 0) → K c.id
  has : ∀ t, t < 256 → lat.getD t 0 ∈ idsC l → ∃ d ∈ l, d.id = lat.getD t 0 ∧ d.block = k ∧ d.p.has t = true
section
variable {l l' : List Cg} {cg : Int → Cg} {W : Int → List Int} {b : Int} {L : List Int}
theorem Cl.more (hL : Cl (idsC l) (depW W) (· ∈ L)) (hl : ∀ i, i ∈ idsC l' ↔ i ∈ idsC l ∧ i ∉ L) {K : Int → Prop} (h : Cl (idsC l') (depW W) K) : Cl (idsC l) (depW W) fun j => K j ∨ j ∈ L := fun j hj i hi hd => by
  by_cases hiL : i ∈ L
  · exact Or.inr hiL
  · rcases hj with hj | hj
    · exact Or.inl (h j hj i ((hl i).2 ⟨hi, hiL⟩) hd)
    · exact Or.inr (hL j hj i hi hd)
theorem idsC_fewer (hl : ∀ c, c ∈ l' ↔ c ∈ l ∧ c.id ∉ L) (i : Int) : i ∈ idsC l' ↔ i ∈ idsC l ∧ i ∉ L := by
  rw [idsC_mem, idsC_mem]
  constructor
  · rintro ⟨c, hc, rfl⟩; exact ⟨⟨c, ((hl c).1 hc).1, rfl⟩, ((hl c).1 hc).2⟩
  · rintro ⟨⟨c, hc, rfl⟩, hn⟩; exact ⟨c, (hl c).2 ⟨hc, hn⟩, rfl⟩
theorem Dep.fewer (h : Dep l cg W) (hL : Cl (idsC l) (depW W) (· ∈ L)) (hl : ∀ c, c ∈ l' ↔ c ∈ l ∧ c.id ∉ L) : Dep l' cg W where
  cg c hc := h.cg c ((hl c).1 hc).1
  lt c hc := h.lt c ((hl c).1 hc).1
  sub c hc i hi hw := by
    obtain ⟨hi1, hi2⟩ := (idsC_fewer hl i).1 hi
    obtain ⟨d, hd, rfl, hk⟩ := h.sub c ((hl c).1 hc).1 i hi1 hw
    exact ⟨d, (hl d).2 ⟨hd, hi2⟩, rfl, hk⟩
  sup c hc d hd hlt hk K hK hc2 := by
    have h1 := h.sup c ((hl c).1 hc).1 d ((hl d).1 hd).1 hlt hk _ (Cl.more hL (idsC_fewer hl) hK) (Or.inl hc2)
    exact h1.resolve_right ((hl d).1 hd).2
theorem LatOk.fewer {k : Int} {lat : List Int} (h : LatOk l W k lat) (hL : Cl (idsC l) (depW W) (· ∈ L)) (hl : ∀ c, c ∈ l' ↔ c ∈ l ∧ c.id ∉ L) : LatOk l' W k lat where
  near t ht c hc hb hp := by
    obtain ⟨hc1, hc2⟩ := (hl c).1 hc
    obtain ⟨h1, h2⟩ := h.near t ht c hc1 hb hp
    refine ⟨(idsC_fewer hl _).2 ⟨h1, fun hx => hc2 (h2 _ hL hx)⟩, fun K hK hx => ?_⟩
    exact (h2 _ (Cl.more hL (idsC_fewer hl) hK) (Or.inl hx)).resolve_right hc2
  has t ht hx := by
    obtain ⟨hi1, hi2⟩ := (idsC_fewer hl _).1 hx
    obtain ⟨d, hd, h1, h2⟩ := h.has t ht hi1
    exact ⟨d, (hl d).2 ⟨hd, by rw [h1]; exact hi2⟩, h1, h2⟩
variable {c : Cg} {A : List Int} {lat : List Int}
theorem idsC_snoc (i : Int) : i ∈ idsC (l ++ [c]) ↔ i ∈ idsC l ∨ i = c.id := by unfold idsC; simp
theorem Cl.less (hn : ∀ d ∈ l, d.id < c.id) {K : Int → Prop} (h : Cl (idsC (l ++ [c])) (depW (updF W c.id A)) K) : Cl (idsC l) (depW W) fun j => K j ∧ j ≠ c.id := fun j hj i hi hd => by
  refine ⟨h j hj.1 i ((idsC_snoc i).2 (Or.inl hi)) ?_, fun e => ?_⟩
  · rw [depW_iff] at hd ⊢
    rw [updF_other _ _ hj.2]
    exact hd
  · obtain ⟨d, hd2, e2⟩ := idsC_mem.1 hi
    have := hn d hd2
    omega
theorem Dep.more (h : Dep l cg W) (hn : ∀ d ∈ l, d.id < c.id) (hlat : LatOk l W c.block lat) (hA : ∀ i, i ∈ A ↔ i ∈ idsC l ∧ (i ∈ c.needs ∨ ∃ t, c.p.has t = true ∧ lat.getD t 0 = i)) : Dep (l ++ [c]) (updF cg c.id c) (updF W c.id A) where
  cg d hd := by
    rcases List.mem_append.1 hd with hd | hd
    · rw [updF_other _ _ (by have := hn d hd; omega)]; exact h.cg d hd
    · rw [List.mem_singleton] at hd; subst hd; exact updF_same _ _ _
  lt d hd i hi := by
    rcases List.mem_append.1 hd with hd | hd
    · rw [updF_other _ _ (by have := hn d hd; omega)] at hi; exact h.lt d hd i hi
    · rw [List.mem_singleton] at hd; subst hd
      rw [updF_same] at hi
      obtain ⟨e, he, rfl⟩ := idsC_mem.1 ((hA i).1 hi).1
      exact hn e he
  sub d hd i hi hw := by
    rcases List.mem_append.1 hd with hd | hd
    · rw [updF_other _ _ (by have := hn d hd; omega)] at hw
      rcases (idsC_snoc i).1 hi with hi | hi
      · obtain ⟨e, he, h1, h2⟩ := h.sub d hd i hi hw
        exact ⟨e, by simp [he], h1, h2⟩
      · have h1 := h.lt d hd i hw
        have h2 := hn d hd
        omega
    · rw [List.mem_singleton] at hd; subst hd
      rw [updF_same] at hw
      obtain ⟨h1, h2⟩ := (hA i).1 hw
      rcases h2 with h2 | ⟨t, ht, h2⟩
      · obtain ⟨e, he, rfl⟩ := idsC_mem.1 h1
        refine ⟨e, by simp [he], rfl, ?_⟩
        unfold keepsB
        rw [Bool.or_eq_true, List.contains_iff_mem]
        exact Or.inr h2
      · rw [← h2] at h1
        obtain ⟨e, he, e1, e2, e3⟩ := hlat.has t (Pt.has_lt ht) h1
        refine ⟨e, by simp [he], e1.trans h2, ?_⟩
        unfold keepsB
        rw [Bool.or_eq_true, Bool.and_eq_true, decide_eq_true_eq]
        exact Or.inl ⟨e2, meetP_iff.2 ⟨t, e3, ht⟩⟩
  sup d hd e he hlt hk K hK hd2 := by
    have hK2 := Cl.less hn hK
    rcases List.mem_append.1 hd with hd | hd
    · rcases List.mem_append.1 he with he | he
      · exact (h.sup d hd e he hlt hk _ hK2 ⟨hd2, by have := hn d hd; omega⟩).1
      · have h1 := hn d hd
        rw [List.mem_singleton] at he; subst he
        omega
    · rw [List.mem_singleton] at hd; subst hd
      rcases List.mem_append.1 he with he | he
      · have hin : ∀ i, i ∈ A → K i := fun i hi => hK _ hd2 i ((idsC_snoc i).2 (Or.inl ((hA i).1 hi).1)) (by rw [depW_iff, updF_same]; exact hi)
        unfold keepsB at hk
        rw [Bool.or_eq_true, Bool.and_eq_true, decide_eq_true_eq, List.contains_iff_mem] at hk
        rcases hk with ⟨hb, hmt⟩ | hk
        · obtain ⟨t, t1, t2⟩ := meetP_iff.1 hmt
          obtain ⟨q1, q2⟩ := hlat.near t (Pt.has_lt t1) e he hb t1
          obtain ⟨f, hf, hfe⟩ := idsC_mem.1 q1
          exact (q2 _ hK2 ⟨hin _ ((hA _).2 ⟨q1, Or.inr ⟨t, t2, rfl⟩⟩), by rw [← hfe]; have := hn f hf; omega⟩).1
        · exact hin _ ((hA _).2 ⟨idsC_mem.2 ⟨e, he, rfl⟩, Or.inl hk⟩)
      · rw [List.mem_singleton] at he; subst he; omega
theorem LatOk.more_same (hlat : LatOk l W c.block lat) (hn : ∀ d ∈ l, d.id < c.id) (hlt : ∀ t, lat.getD t 0 < c.id) (hA : ∀ i, i ∈ A ↔ i ∈ idsC l ∧ (i ∈ c.needs ∨ ∃ t, c.p.has t = true ∧ lat.getD t 0 = i)) {lat' : List Int} (hl : ∀ t, t < 256 → lat'.getD t 0 = if c.p.has t then c.id else lat.getD t 0) :
    LatOk (l ++ [c]) (updF W c.id A) c.block lat' where
  near t ht d hd hb hp := by
    rw [hl t ht]
    by_cases hc : c.p.has t = true
    · rw [if_pos hc]
      refine ⟨(idsC_snoc _).2 (Or.inr rfl), fun K hK hc2 => ?_⟩
      rcases List.mem_append.1 hd with hd | hd
      · have hK2 := Cl.less hn hK
        obtain ⟨q1, q2⟩ := hlat.near t ht d hd hb hp
        have h1 : K (lat.getD t 0) := hK _ hc2 _ ((idsC_snoc _).2 (Or.inl q1)) (by rw [depW_iff, updF_same]; exact (hA _).2 ⟨q1, Or.inr ⟨t, hc, rfl⟩⟩)
        exact (q2 _ hK2 ⟨h1, by have := hlt t; omega⟩).1
      · rw [List.mem_singleton] at hd; subst hd; exact hc2
    · rw [if_neg hc]
      rcases List.mem_append.1 hd with hd | hd
      · obtain ⟨q1, q2⟩ := hlat.near t ht d hd hb hp
        refine ⟨(idsC_snoc _).2 (Or.inl q1), fun K hK hc2 => (q2 _ (Cl.less hn hK) ⟨hc2, by have := hlt t; omega⟩).1⟩
      · rw [List.mem_singleton] at hd; subst hd; exact absurd hp hc
  has t ht hx := by
    rw [hl t ht] at hx ⊢
    by_cases hc : c.p.has t = true
    · rw [if_pos hc]; exact ⟨c, by simp, rfl, rfl, hc⟩
    · rw [if_neg hc] at hx ⊢
      rcases (idsC_snoc _).1 hx with hx | hx
      · obtain ⟨d, hd, h1⟩ := hlat.has t ht hx
        exact ⟨d, by simp [hd], h1⟩
      · have := hlt t; omega
theorem LatOk.more_other {k : Int} (hlat : LatOk l W k lat) (hk : k ≠ c.block) (hn : ∀ d ∈ l, d.id < c.id) (hlt : ∀ t, lat.getD t 0 < c.id) : LatOk (l ++ [c]) (updF W c.id A) k lat where
  near t ht d hd hb hp := by
    rcases List.mem_append.1 hd with hd | hd
    · obtain ⟨q1, q2⟩ := hlat.near t ht d hd hb hp
      refine ⟨(idsC_snoc _).2 (Or.inl q1), fun K hK hc2 => (q2 _ (Cl.less hn hK) ⟨hc2, by have := hlt t; omega⟩).1⟩
    · rw [List.mem_singleton] at hd; subst hd; exact absurd hb.symm hk
  has t ht hx := by
    rcases (idsC_snoc _).1 hx with hx | hx
    · obtain ⟨d, hd, h1⟩ := hlat.has t ht hx
      exact ⟨d, by simp [hd], h1⟩
    · have := hlt t; omega
end

end Go.Proofs.YtpmbpklbiocclaaGreat

/-
  Numbers of which each waits for some: one more comes, some are done. Plain; no program is named here.
-/
namespace Go.Proofs.YtpmbpklbiocclaaGreat

theorem same_len {A B : List Int} (hA : A.Nodup) (hB : B.Nodup) (h : ∀ x, x ∈ A ↔ x ∈ B) : A.length = B.length :=
  Nat.le_antisymm (nodup_len hA fun x hx => (h x).1 hx) (nodup_len hB fun x hx => (h x).2 hx)
section
variable {ids : List Int} {W : Int → List Int} {n : Int} {A : List Int}
theorem bN_more (hn : ∀ i ∈ ids, i < n) (_hW : ∀ j ∈ ids, ∀ i ∈ W j, i < j) (_hA : ∀ i ∈ A, i ∈ ids) {i : Int} (_hi : i ∈ ids) : bN (ids ++ [n]) (depW (updF W n A)) i = if i ∈ A then bN ids (depW W) i ++ [n] else bN ids (depW W) i := by
  unfold bN
  rw [List.filter_append]
  have e : ids.filter (fun j => depW (updF W n A) i j) = ids.filter fun j => depW W i j := List.filter_congr fun j hj => by
    unfold depW
    rw [updF_other _ _ (by have := hn j hj; omega)]
  rw [e]
  by_cases h : i ∈ A
  · rw [if_pos h, List.filter_cons_of_pos (by unfold depW; rw [updF_same, List.contains_iff_mem]; exact h)]
    rfl
  · rw [if_neg h, List.filter_cons_of_neg (by unfold depW; rw [updF_same, List.contains_iff_mem]; exact h)]
    simp
theorem bN_new (hn : ∀ i ∈ ids, i < n) (hW : ∀ j ∈ ids, ∀ i ∈ W j, i < j) (hA : ∀ i ∈ A, i ∈ ids) : bN (ids ++ [n]) (depW (updF W n A)) n = [] := by
  unfold bN
  rw [List.filter_eq_nil_iff]
  intro j hj hd
  have hd := depW_iff.1 hd
  rcases List.mem_append.1 hj with hj | hj
  · rw [updF_other _ _ (by have := hn j hj; omega)] at hd
    have := hW j hj n hd
    have := hn j hj
    omega
  · rw [List.mem_singleton] at hj
    subst hj
    rw [updF_same] at hd
    have := hn _ (hA _ hd)
    omega
theorem wN_more (hn : ∀ i ∈ ids, i < n) (hW : ∀ j ∈ ids, ∀ i ∈ W j, i < j) {j : Int} (hj : j ∈ ids) : wN (ids ++ [n]) (depW (updF W n A)) j = wN ids (depW W) j := by
  unfold wN
  rw [List.filter_append, List.length_append]
  have hjn : j ≠ n := by have := hn j hj; omega
  have e1 : ids.filter (fun i => depW (updF W n A) i j) = ids.filter fun i => depW W i j := List.filter_congr fun i hi => by
    unfold depW
    rw [updF_other _ _ hjn]
  have e2 : [n].filter (fun i => depW (updF W n A) i j) = [] := by
    rw [List.filter_eq_nil_iff]
    intro i hi hd
    rw [List.mem_singleton] at hi
    subst hi
    have hd := depW_iff.1 hd
    rw [updF_other _ _ hjn] at hd
    have := hW j hj _ hd
    have := hn j hj
    omega
  rw [e1, e2]
  rfl
theorem wN_new (hi : ids.Nodup) (hn : ∀ i ∈ ids, i < n) (hA : ∀ i ∈ A, i ∈ ids) (hAn : A.Nodup) : wN (ids ++ [n]) (depW (updF W n A)) n = A.length := by
  unfold wN
  have hnd : (ids ++ [n]).Nodup := List.nodup_append.2 ⟨hi, by simp, fun a ha b hb e => by
    rw [List.mem_singleton] at hb
    subst hb; subst e
    have := hn _ ha
    omega⟩
  refine same_len (nodup_filter hnd _) hAn fun x => ?_
  rw [List.mem_filter, depW_iff, updF_same]
  exact ⟨fun h => h.2, fun h => ⟨List.mem_append.2 (Or.inl (hA x h)), h⟩⟩
theorem wN_fewer {dep : Int → Int → Bool} {ids' L : List Int} (hi : ids.Nodup) (hi' : ids'.Nodup) (hL : L.Nodup) (hLs : ∀ x ∈ L, x ∈ ids) (h : ∀ i, i ∈ ids' ↔ i ∈ ids ∧ i ∉ L) (j : Int) : wN ids dep j = wN ids' dep j + mN dep L j := by
  unfold wN mN
  rw [← List.length_append]
  refine same_len (nodup_filter hi _) (List.nodup_append.2 ⟨nodup_filter hi' _, nodup_filter hL _, fun a ha b hb e => ?_⟩) fun x => ?_
  · subst e
    exact ((h a).1 (List.mem_filter.1 ha).1).2 (List.mem_filter.1 hb).1
  · rw [List.mem_append, List.mem_filter, List.mem_filter, List.mem_filter, h]
    constructor
    · rintro ⟨h1, h2⟩
      by_cases hx : x ∈ L
      · exact Or.inr ⟨hx, h2⟩
      · exact Or.inl ⟨⟨h1, hx⟩, h2⟩
    · rintro (⟨⟨h1, _⟩, h2⟩ | ⟨h1, h2⟩)
      · exact ⟨h1, h2⟩
      · exact ⟨hLs x h1, h2⟩
theorem wN_zero {dep : Int → Int → Bool} {j : Int} : wN ids dep j = 0 ↔ ∀ i ∈ ids, dep i j = false := by
  unfold wN
  rw [List.length_eq_zero_iff, List.filter_eq_nil_iff]
  exact ⟨fun h i hi => by simpa using h i hi, fun h i hi => by rw [h i hi]; simp⟩
theorem bN_fewer {dep : Int → Int → Bool} {ids' L : List Int} (hr : ids' = ids.filter fun i => decide (i ∉ L)) (hc : Cl ids dep (· ∈ L)) {i : Int} (hi : i ∈ ids) (hL : i ∉ L) : bN ids' dep i = bN ids dep i := by
  subst hr
  unfold bN
  rw [List.filter_filter]
  refine List.filter_congr fun j hj => ?_
  by_cases hd : dep i j = true
  · have hjL : j ∉ L := fun hh => hL (hc j hh i hi hd)
    simp [hd, hjL]
  · simp [hd]
end
theorem idsC_left {l : List Cg} {b : Int} {L : List Int} (h : ∀ j, j ∈ L ↔ j ∈ readyC l b) : idsC (leftC l b) = (idsC l).filter fun i => decide (i ∉ L) := by
  unfold idsC leftC withoutC
  rw [List.filter_map]
  congr 1
  refine List.filter_congr fun c _ => ?_
  show (!(readyC l b).contains c.id) = decide (c.id ∉ L)
  rw [Bool.eq_iff_iff, decide_eq_true_eq, h, Bool.not_eq_true', ← Bool.not_eq_true, List.contains_iff_mem]
theorem leftC_mem {l : List Cg} {b : Int} {L : List Int} (h : ∀ j, j ∈ L ↔ j ∈ readyC l b) (c : Cg) : c ∈ leftC l b ↔ c ∈ l ∧ c.id ∉ L := by
  unfold leftC withoutC
  rw [List.mem_filter, h, Bool.not_eq_true', ← Bool.not_eq_true, List.contains_iff_mem]
theorem ofC_count {l : List Cg} {b : Int} {L : List Int} (hm : mayC l = true) (hn : L.Nodup) (h : ∀ j, j ∈ L ↔ j ∈ readyC l b) : (ofC (leftC l b) b).length + L.length = (ofC l b).length := by
  have e : L.length = (idsC (doneC l b)).length := by
    refine same_len hn ?_ fun x => ?_
    · have h1 : RiseI (idsC (doneC l b)) := by
        unfold idsC RiseI
        rw [List.pairwise_map]
        exact List.Pairwise.sublist (List.filter_sublist.trans List.filter_sublist) (may_pw hm)
      exact h1.nodup
    · rw [h, idsC_mem]
      constructor
      · intro hx
        obtain ⟨c, hc, rfl⟩ := idsC_mem.1 (show x ∈ idsC l from readyC_sub.subset hx)
        refine ⟨c, ?_, rfl⟩
        unfold doneC ofC
        rw [List.mem_filter, List.mem_filter, List.contains_iff_mem, decide_eq_true_eq]
        exact ⟨⟨hc, ((ready_iff hm hc).1 hx).1⟩, hx⟩
      · rintro ⟨c, hc, rfl⟩
        unfold doneC at hc
        rw [List.mem_filter, List.contains_iff_mem] at hc
        exact hc.2
  rw [ofC_left, e]
  unfold idsC restC doneC
  rw [List.length_map]
  have key : ∀ (f : Cg → Bool) (l : List Cg), (l.filter fun c => !f c).length + (l.filter f).length = l.length := by
    intro f l
    induction l with
    | nil => rfl
    | cons c l ih =>
      cases hf : f c
      · rw [List.filter_cons_of_pos (by simp [hf]), List.filter_cons_of_neg (by simp [hf])]
        simp only [List.length_cons]; omega
      · rw [List.filter_cons_of_neg (by simp [hf]), List.filter_cons_of_pos (by simp [hf])]
        simp only [List.length_cons]; omega
  exact key _ _
theorem viewC_none {L : List UInt8} {l : List Cg} {k : Int} (h : ∀ c ∈ l, c.block ≠ k) : viewC L l k = L := by
  unfold viewC
  split
  · have e : ofC l k = [] := by
      unfold ofC
      rw [List.filter_eq_nil_iff]
      intro c hc hd
      exact h c hc (by simpa using hd)
    rw [e]
    rfl
  · rfl
theorem ofC_none {l : List Cg} {k : Int} (h : ∀ c ∈ l, c.block ≠ k) : ofC l k = [] := by
  unfold ofC
  rw [List.filter_eq_nil_iff]
  intro c hc hd
  exact h c hc (by simpa using hd)
theorem ofC_snoc (l : List Cg) (c : Cg) (k : Int) : ofC (l ++ [c]) k = if c.block = k then ofC l k ++ [c] else ofC l k := by
  unfold ofC
  rw [List.filter_append]
  by_cases h : c.block = k
  · rw [if_pos h, List.filter_cons_of_pos (by simpa using h)]; rfl
  · rw [if_neg h, List.filter_cons_of_neg (by simpa using h)]; simp
theorem viewC_snoc {l : List Cg} {c : Cg} (L : List UInt8) (hm : mayC l = true) (hm2 : mayC (l ++ [c]) = true) (k : Int) : viewC L (l ++ [c]) k = if c.block = k then layP (viewC L l k) c.p else viewC L l k := by
  unfold viewC
  rw [if_pos hm, if_pos hm2, ofC_snoc]
  split
  · rw [laidC_append]
    rfl
  · rfl

theorem DC.uptoGo_nil (n : Nat) {x : DC} (id : Int) (h : x.list = []) : DC.uptoGo n x id = (x, 0) := by
  cases n with
  | zero => rfl
  | succ n => unfold DC.uptoGo; rw [h]
theorem DC.uptoGo_cons (n : Nat) {x : DC} (id : Int) {c : Cg} {t : List Cg} (h : x.list = c :: t) : DC.uptoGo (n + 1) x id = if c.id ≤ id then (if x.flushE c.block = 0 then DC.uptoGo n (x.flush c.block) id else (x.flush c.block, x.flushE c.block)) else (x, 0) := by
  conv => lhs; unfold DC.uptoGo
  rw [h]
theorem DC.flush_less {x : DC} (hk : x.Ok) {c : Cg} {t : List Cg} (hl : x.list = c :: t) (hE : x.flushE c.block = 0) : (x.flush c.block).list.length ≤ t.length := by
  have hm : mayC (c :: t) = true := by rw [← hl]; exact hk.may
  obtain ⟨r, hr⟩ := readyC_first hm
  have hne : readyC x.list c.block ≠ [] := by rw [hl, hr]; simp
  have hst : x.stuck = false := by
    unfold DC.flushE at hE
    rw [if_neg hne] at hE
    cases hs : x.stuck
    · rfl
    · rw [hs] at hE; simp at hE
  have h2 := left_shorter hk.may hne
  unfold DC.flush
  rw [if_neg hne, hst]
  show (leftC x.list c.block).length ≤ t.length
  rw [hl] at h2 ⊢
  simp only [List.length_cons] at h2
  omega
theorem DC.uptoGo_two : ∀ (n m : Nat) {z : DC} (_ : z.Ok) (id : Int), z.list.length ≤ n → z.list.length ≤ m → DC.uptoGo n z id = DC.uptoGo m z id := by
  intro n
  induction n with
  | zero =>
    intro m z _ id h _
    have e : z.list = [] := List.eq_nil_of_length_eq_zero (by omega)
    rw [DC.uptoGo_nil _ _ e, DC.uptoGo_nil _ _ e]
  | succ n ih =>
    intro m z hk id h1 h2
    cases hl : z.list with
    | nil => rw [DC.uptoGo_nil _ _ hl, DC.uptoGo_nil _ _ hl]
    | cons c t =>
      rw [hl] at h1 h2
      simp only [List.length_cons] at h1 h2
      obtain ⟨k, rfl⟩ : ∃ k, m = k + 1 := ⟨m - 1, by omega⟩
      rw [DC.uptoGo_cons _ _ hl, DC.uptoGo_cons _ _ hl]
      split
      · split
        · rename_i hE
          have := DC.flush_less hk hl hE
          exact ih k (DC.flush_ok hk _) id (by omega) (by omega)
        · rfl
      · rfl
theorem DC.upto_step {x : DC} (hk : x.Ok) {id : Int} {c : Cg} {t : List Cg} (hl : x.list = c :: t) (hi : c.id ≤ id) : x.upto id = if x.flushE c.block = 0 then (x.flush c.block).upto id else (x.flush c.block, x.flushE c.block) := by
  have e : x.upto id = DC.uptoGo (t.length + 1) x id := by
    unfold DC.upto
    rw [hl, List.length_cons]
  rw [e, DC.uptoGo_cons _ _ hl, if_pos hi]
  by_cases hE : x.flushE c.block = 0
  · rw [if_pos hE, if_pos hE]
    exact DC.uptoGo_two _ _ (DC.flush_ok hk _) id (DC.flush_less hk hl hE) (Nat.le_refl _)
  · rw [if_neg hE, if_neg hE]
theorem DC.upto_end {x : DC} {id : Int} (h : ∀ c t, x.list = c :: t → ¬ c.id ≤ id) : x.upto id = (x, 0) := by
  cases hl : x.list with
  | nil => exact DC.uptoGo_nil _ _ hl
  | cons c t =>
    have e : x.upto id = DC.uptoGo (t.length + 1) x id := by
      unfold DC.upto
      rw [hl, List.length_cons]
    rw [e, DC.uptoGo_cons _ _ hl, if_neg (h c t hl)]

end Go.Proofs.YtpmbpklbiocclaaGreat

/-
  Rows of blocks of 256 bytes in memory: one that is loaded, stored, made, appended. Plain; no program is named here.
-/
namespace Go.Proofs.YtpmbpklbiocclaaGreat
open Go.RowKit

def Bks (L : List (List UInt8)) : Prop := ∀ x ∈ L, x.length = 256
theorem Bks.cons {x : List UInt8} {L : List (List UInt8)} (h : Bks (x :: L)) : x.length = 256 ∧ Bks L := ⟨h x (by simp), fun y hy => h y (List.mem_cons_of_mem _ hy)⟩
theorem Bks.get {L : List (List UInt8)} (h : Bks L) {k : Nat} (hk : k < L.length) : L[k].length = 256 := h _ (List.getElem_mem hk)
theorem Bks.set {L : List (List UInt8)} (h : Bks L) (k : Nat) {d : List UInt8} (hd : d.length = 256) : Bks (L.set k d) := fun x hx => by
  rcases List.mem_or_eq_of_mem_set hx with hx | rfl
  · exact h x hx
  · exact hd
theorem Bks.snoc {L : List (List UInt8)} (h : Bks L) {d : List UInt8} (hd : d.length = 256) : Bks (L ++ [d]) := fun x hx => by
  rw [List.mem_append, List.mem_singleton] at hx
  rcases hx with hx | rfl
  · exact h x hx
  · exact hd
theorem Bks.nil_ : Bks [] := fun x hx => by simp at hx
theorem Bks.same (n : Nat) {d : List UInt8} (hd : d.length = 256) : Bks (List.replicate n d) := fun x hx => by rw [(List.mem_replicate.1 hx).2]; exact hd
theorem flat_len {L : List (List UInt8)} (h : Bks L) : L.flatten.length = L.length * 256 := by
  induction L with
  | nil => rfl
  | cons x L ih =>
    obtain ⟨h1, h2⟩ := h.cons
    rw [List.flatten_cons, List.length_append, ih h2, h1, List.length_cons]
    omega
theorem flat_cut {L : List (List UInt8)} (h : Bks L) {k : Nat} (hk : k < L.length) : (L.flatten.drop (k * 256)).take 256 = L[k] := by
  induction L generalizing k with
  | nil => simp at hk
  | cons x L ih =>
    obtain ⟨h1, h2⟩ := h.cons
    rw [List.flatten_cons]
    cases k with
    | zero =>
      rw [Nat.zero_mul, List.drop_zero, List.take_append_of_le_length (by omega), List.take_of_length_le (by omega)]
      rfl
    | succ k =>
      have hk' : k < L.length := by simpa using hk
      rw [show (k + 1) * 256 = x.length + k * 256 by omega, List.drop_append]
      rw [show x.length + k * 256 - x.length = k * 256 by omega, List.drop_of_length_le (by omega), List.nil_append, ih h2 hk']
      rfl
theorem flat_get {L : List (List UInt8)} (h : Bks L) {k i : Nat} (hk : k < L.length) (hi : i < 256) : L.flatten[k * 256 + i]? = L[k][i]? := by
  rw [← flat_cut h hk, List.getElem?_take_of_lt hi, List.getElem?_drop]
theorem flat_set {L : List (List UInt8)} (h : Bks L) {k : Nat} (hk : k < L.length) {d : List UInt8} (hd : d.length = 256) : splice L.flatten (k * 256) d = (L.set k d).flatten := by
  induction L generalizing k with
  | nil => simp at hk
  | cons x L ih =>
    obtain ⟨h1, h2⟩ := h.cons
    cases k with
    | zero =>
      unfold splice
      rw [Nat.zero_mul, List.take_zero, Nat.zero_add, hd, List.flatten_cons, List.set_cons_zero, List.flatten_cons, List.nil_append, List.drop_append, List.drop_of_length_le (by omega), h1]
      rfl
    | succ k =>
      have hk' : k < L.length := by simpa using hk
      rw [List.set_cons_succ, List.flatten_cons, List.flatten_cons, ← ih h2 hk']
      unfold splice
      rw [show (k + 1) * 256 = x.length + k * 256 by omega, List.take_append, List.drop_append]
      rw [show x.length + k * 256 - x.length = k * 256 by omega, show x.length + k * 256 + d.length - x.length = k * 256 + d.length by omega, List.take_of_length_le (show x.length ≤ x.length + k * 256 by omega), List.drop_of_length_le (show x.length ≤ x.length + k * 256 + d.length by omega)]
      simp [List.append_assoc]

def RK (w : World) (A : Option Addr) (L : List (List UInt8)) : Prop := ∀ k (h : k < L.length) i (hi : i < 256), ∃ ad x, A = some ad ∧ L[k][i]? = some x ∧ w.cell? (ad.add (k * 256 + i)) = some (.int .u8 (x.toNat : Int))
theorem RK.below {w w' : World} {A : Option Addr} {L : List (List UInt8)} (h : RK w A L) (hb : Below w.heap.size w w') : RK w' A L := fun k hk i hi => by
  obtain ⟨ad, x, e, hx, hc⟩ := h k hk i hi
  exact ⟨ad, x, e, hx, by rw [hb.cell (block_lt_of_cell hc), hc]⟩
theorem RK.of_blk {w : World} {g : Nat} {t : TypeId} {L : List (List UInt8)} (hL : Bks L) (h : Blk w g t (bcells L.flatten)) : RK w (some ⟨g, 0, none⟩) L := fun k hk i hi => by
  have hil : i < L[k].length := by rw [hL.get hk]; exact hi
  refine ⟨_, L[k][i], rfl, List.getElem?_eq_getElem hil, ?_⟩
  rw [addr_add0, h.cell, bcells_get, flat_get hL hk hi, List.getElem?_eq_getElem hil]
  rfl
theorem RK.bytes {w : World} {A : Option Addr} {L : List (List UInt8)} (hL : Bks L) (h : RK w A L) : RB w A L.flatten := fun j hj => by
  rw [flat_len hL] at hj
  have hk : j / 256 < L.length := by omega
  obtain ⟨ad, x, e, hx, hc⟩ := h (j / 256) hk (j % 256) (by omega)
  refine ⟨ad, e, ?_⟩
  have hjj : j / 256 * 256 + j % 256 = j := by omega
  rw [hjj] at hc
  rw [hc]
  have h2 := flat_get hL hk (show j % 256 < 256 by omega)
  rw [hjj, hx, List.getElem?_eq_getElem (by rw [flat_len hL]; exact hj)] at h2
  injection h2 with h2
  rw [h2]

section
variable {P : Program} {ops : Array Oper} {rest : List Oper} {o : Oper} {a : Act} {w : World} {K : Act → World → Prop} {Q : Exit → Act → World → Prop}

theorem run_loadVar_bk (P : Program) (w : World) (ty : TypeId) (d : TypeDesc) (hu : P.underlying ty = some d) (hd : (match d with | .struct _ | .array _ _ => true | _ => false) = true) (hs : (P.info? ty).map (·.size) = some 256) (ad : Addr) (k : Nat) (L : List (List UInt8)) (hL : Bks L) (hk : k < L.length) (hr : RK w (some ad) L) :
    (loadVar ty (ad.add (k * 256))).run P w = .ok (.agg (bcells L[k])) w := by
  have hlen : (L[k].map fun x : UInt8 => Value.int .u8 (x.toNat : Int)).length = 256 := by rw [List.length_map, hL.get hk]
  have hl := run_loadCells_list (P := P) w (ad.add (k * 256)) (L[k].map fun x => Value.int .u8 (x.toNat : Int)) (fun j v hj => by
    rw [List.getElem?_map] at hj
    obtain ⟨x, hx, rfl⟩ := Option.map_eq_some_iff.1 hj
    have hj' : j < 256 := by rw [← hL.get hk]; exact (List.getElem?_eq_some_iff.1 hx).1
    obtain ⟨ad', x', e, hx', hc⟩ := hr k hk j hj'
    injection e with e
    subst e
    rw [hx] at hx'
    injection hx' with hx'
    rw [add_of_add, hc, hx'])
  rw [hlen] at hl
  obtain ⟨i, hq, hsz⟩ := Option.map_eq_some_iff.1 hs
  have hagg : (isAgg ty).run P w = .ok true w := by
    unfold isAgg
    rw [Sem.run_bind, run_underlying hu w]
    cases d <;> simp_all
  simp [loadVar, Sem.run_bind, hagg, sizeOf, typeInfo, hq, hsz, hl, bcells]
theorem exec_load_bk {o : Oper} (t : TypeId) (x : Operand) (ho : o.op = .load t x) (ad : Addr) (k : Nat) (hx : a.eval x = .pointer (some (ad.add (k * 256)))) (L : List (List UInt8)) (hL : Bks L) (hk : k < L.length) (hr : RK w (some ad) L)
    (d : TypeDesc) (hu : P.underlying t = some d) (hd : (match d with | .struct _ | .array _ _ => true | _ => false) = true) (hs : (P.info? t).map (·.size) = some 256) : (execOp a.eval o).run P w = .ok (.value (.agg (bcells L[k]))) w := by
  unfold execOp
  simp only [ho, hx, Instr.loadAt, Instr.sureAddr, Sem.run_bind, Sem.run_pure, Result.andThen_ok, run_loadVar_bk P w t d hu hd hs ad k L hL hk hr]

theorem run_storeVar_bk (P : Program) (w : World) (ty : TypeId) (hs : (P.info? ty).map (·.size) = some 256) (g k : Nat) (t : TypeId) (L : List (List UInt8)) (hL : Bks L) (hk : k < L.length) (hg : Blk w g t (bcells L.flatten)) (d : List UInt8) (hd : d.length = 256) :
    (storeVar ty ⟨g, k * 256, none⟩ (.agg (bcells d))).run P w = .ok () (w.setRow g (bcells (L.set k d).flatten)) := by
  have hfl := flat_len hL
  have hst := run_storeCells_at P g (k * 256) t (d.map fun x : UInt8 => Value.int .u8 (x.toNat : Int)) 0 (bcells L.flatten) w hg (by rw [bcells_size, List.length_map, hd, hfl]; omega) (by
    intro v hv
    obtain ⟨x, _, rfl⟩ := List.mem_map.1 hv
    rfl)
  have e : (List.take (k * 256 + 0) (bcells L.flatten).toList ++ (d.map fun x : UInt8 => Value.int .u8 (x.toNat : Int)) ++ List.drop (k * 256 + 0 + (d.map fun x : UInt8 => Value.int .u8 (x.toNat : Int)).length) (bcells L.flatten).toList).toArray = bcells (L.set k d).flatten := by
    rw [← flat_set hL hk hd]
    simp only [bcells, splice, Nat.add_zero, List.length_map, List.map_append, List.map_take, List.map_drop]
  rw [e] at hst
  obtain ⟨i, hq, hsz⟩ := Option.map_eq_some_iff.1 hs
  have hcs : (Value.agg (bcells d)).cells = bcells d := rfl
  have hz : (bcells d).size = 256 := by rw [bcells_size, hd]
  have htl : (bcells d).toList = d.map fun x : UInt8 => Value.int .u8 (x.toNat : Int) := rfl
  simp [storeVar, sizeOf, typeInfo, hq, hsz, hcs, hz, htl, hst]
theorem ow_store_bk (ty : TypeId) (x y : Operand) (ho : o.op = .store ty x y) (hs : (P.info? ty).map (·.size) = some 256)
    (g k : Nat) (hx : a.eval x = .pointer (some ⟨g, k * 256, none⟩)) (d : List UInt8) (hy : a.eval y = .agg (bcells d)) (hd : d.length = 256) (t : TypeId) (L : List (List UInt8)) (hL : Bks L) (hk : k < L.length) (hg : Blk w g t (bcells L.flatten))
    (h : Stop (∀ w', Hid (Only w w' g) → Hid (Blk w' g t (bcells (L.set k d).flatten)) → K (a.put o.dst undef) w')) : o.wp P a w K Q := by
  unfold Oper.wp execOp
  simp only [ho, hx, hy, Instr.storeAt, Instr.sureAddr, Sem.run_bind, Sem.run_pure, Result.andThen_ok, run_storeVar_bk P w ty hs g k t L hL hk hg d hd]
  exact h _ (Only.setRow hg _) (hg.setRow _)
theorem wpList_store_bk (hgd : Region.wanted o (yielded ops a.tmps) = true) (ty : TypeId) (x y : Operand) (ho : o.op = .store ty x y) (hs : (P.info? ty).map (·.size) = some 256)
    (g k : Nat) (hx : a.eval x = .pointer (some ⟨g, k * 256, none⟩)) (d : List UInt8) (hy : a.eval y = .agg (bcells d)) (hd : d.length = 256) (t : TypeId) (L : List (List UInt8)) (hL : Bks L) (hk : k < L.length) (hg : Blk w g t (bcells L.flatten))
    (h : Stop (∀ w', Hid (Only w w' g) → Hid (Blk w' g t (bcells (L.set k d).flatten)) → wpList P ops Q rest (a.put o.dst undef) w')) : wpList P ops Q (o :: rest) a w :=
  wpList_wanted hgd fun _ hK => ow_store_bk ty x y ho hs g k hx d hy hd t L hL hk hg (fun w' h1 h2 => hK _ _ (h w' h1 h2))

theorem run_make_bk (P : Program) (w : World) (t e : TypeId) (ht : P.underlying t = some (.slice e)) (hi : (P.info? e).map (fun i => (i.zero, i.size, i.bytes)) = some (some (.agg (bcells (zeros 256))), 256, 256)) (kl kc : IntKind) (n : Nat) (hn : n ≤ 1099511627776) :
    (Instr.makeSlice t (.int kl n) (.int kc n)).run P w = .ok (.slice (some ⟨w.heap.size, 0, none⟩) n n) (w.alloc (.cells (bcells (List.replicate n (zeros 256)).flatten) e)) := by
  obtain ⟨i, h1, h2, h3, h4⟩ := info_parts hi
  have hr := run_make (P := P) w t e i _ ht h1 h2 kl kc n n (by omega) (by omega) (by rw [h4]; omega) (by omega)
  have hb : Bks (List.replicate n (zeros 256)) := Bks.same n (zeros_len 256)
  have hfl := flat_len hb
  rw [List.length_replicate] at hfl
  have e1 : madeCells (Value.agg (bcells (zeros 256))).cells ((n : Int).toNat * i.size) = bcells (List.replicate n (zeros 256)).flatten := by
    rw [h3, Int.toNat_natCast]
    apply Array.ext_getElem?
    intro j
    have hcs : (Value.agg (bcells (zeros 256))).cells = bcells (zeros 256) := rfl
    have hz : (bcells (zeros 256)).size = 256 := by rw [bcells_size, zeros_len]
    rw [bcells_get]
    by_cases hj : j < n * 256
    · have hk : j / 256 < (List.replicate n (zeros 256)).length := by rw [List.length_replicate]; omega
      have h5 := flat_get hb hk (show j % 256 < 256 by omega)
      rw [show j / 256 * 256 + j % 256 = j by omega] at h5
      rw [h5]
      have h6 : (bcells (zeros 256))[j % 256]! = Value.int .u8 0 := by
        have h7 : (bcells (zeros 256))[j % 256]? = some (.int .u8 0) := by rw [bcells_get, zeros, List.getElem?_replicate, if_pos (by omega)]; rfl
        rw [getElem!_def, h7]
      have h8 : (List.replicate n (zeros 256))[j / 256]'hk = zeros 256 := List.getElem_replicate hk
      have h9 : (zeros 256)[j % 256]? = some 0 := by rw [zeros, List.getElem?_replicate, if_pos (by omega)]
      rw [h8, h9, hcs]
      generalize bcells (zeros 256) = cs at h6 hz ⊢
      unfold madeCells
      rw [Array.getElem?_map, Array.getElem?_range, if_pos hj, hz]
      exact congrArg some h6
    · rw [List.getElem?_eq_none (by rw [hfl]; omega)]
      simp [madeCells, hj]
  rw [e1] at hr
  simpa using hr
theorem wpList_make_bk (hgd : Region.wanted o (yielded ops a.tmps) = true) (lo co : Operand) (t e : TypeId) (ho : o.op = .makeSlice t lo co) (ht : P.underlying t = some (.slice e)) (hi : (P.info? e).map (fun i => (i.zero, i.size, i.bytes)) = some (some (.agg (bcells (zeros 256))), 256, 256))
    (kl kc : IntKind) (X C : Int) (n : Nat) (hl : a.eval lo = .int kl X) (hc : a.eval co = .int kc C) (hX : X = n) (hC : C = n) (hn : n ≤ 1099511627776)
    (h : Stop (∀ w', Hid (Grew w w') → Hid (Blk w' w.heap.size e (bcells (List.replicate n (zeros 256)).flatten)) → wpList P ops Q rest (a.put o.dst (.slice (some ⟨w.heap.size, 0, none⟩) n n)) w')) : wpList P ops Q (o :: rest) a w := by
  refine wpList_wanted hgd fun K hK => ?_
  subst hX; subst hC
  have hr := run_make_bk P w t e ht hi kl kc n hn
  unfold Oper.wp execOp
  simp only [ho, Sem.run_bind, Sem.run_pure, Result.andThen_ok, hl, hc, hr]
  exact hK _ _ (h _ (Grew.alloc w _) (Blk.new w e _))
end

def OwnK (w : World) (B : Nat) (e : TypeId) (v : Value) (L : List (List UInt8)) : Prop := Bks L ∧ w.ownsRow B e 256 v L.length (L.flatten.map fun x => Value.int .u8 (x.toNat : Int))
theorem OwnK.nil_ (w : World) (B : Nat) (e : TypeId) : OwnK w B e (.slice none 0 0) [] := ⟨Bks.nil_, World.ownsRow_nil w B e 256⟩
theorem OwnK.lt {w : World} {B : Nat} {e : TypeId} {v : Value} {L : List (List UInt8)} (h : OwnK w B e v L) : ∀ k, v.ownBlock = some k → B ≤ k ∧ k < w.heap.size := World.ownsRow.lt h.2
theorem OwnK.ext {w w' : World} {B : Nat} {e : TypeId} {v : Value} {L : List (List UInt8)} (h : OwnK w B e v L) (hb : Below w.heap.size w w') : OwnK w' B e v L := by
  obtain ⟨hL, hl, h | ⟨g, cap, cur, hv, hbg, hg, h⟩⟩ := h
  · exact ⟨hL, hl, Or.inl h⟩
  · exact ⟨hL, hl, Or.inr ⟨g, cap, cur, hv, hbg, Blk.ext hg hb, h⟩⟩
theorem OwnK.read {w : World} {B : Nat} {e : TypeId} {v : Value} {L : List (List UInt8)} (h : OwnK w B e v L) : ∃ A c, v = .slice A L.length c ∧ L.length ≤ c ∧ c ≤ maxLen ∧ RK w A L := by
  obtain ⟨hL, hl, h | ⟨g, cap, cur, hv, hb, hg, hn, hc, hs, ht⟩⟩ := h
  · refine ⟨none, 0, by rw [h.1, h.2], by omega, by unfold maxLen; omega, fun k hk => ?_⟩
    have := h.2
    omega
  · refine ⟨_, cap, hv, hn, hc, fun k hk i hi => ?_⟩
    have hil : i < L[k].length := by rw [hL.get hk]; exact hi
    refine ⟨_, L[k][i], rfl, List.getElem?_eq_getElem hil, ?_⟩
    have h2 : (cur.toList.take (L.length * 256))[k * 256 + i]? = (L.flatten.map fun x => Value.int .u8 (x.toNat : Int))[k * 256 + i]? := by rw [ht]
    rw [List.getElem?_take_of_lt (by omega), List.getElem?_map, flat_get hL hk hi, List.getElem?_eq_getElem hil] at h2
    rw [addr_add0, cell_of_row w g _ cur e (0, 0) hg]
    simpa using h2

section
variable {P : Program} {ops : Array Oper} {rest : List Oper} {o : Oper} {a : Act} {w : World} {K : Act → World → Prop} {Q : Exit → Act → World → Prop}
end

end Go.Proofs.YtpmbpklbiocclaaGreat

/-
  The cells of a known block of a cache: two blocks of bytes, two cells, a row of numbers; a part of it is loaded, or stored. Plain; no program is named here.
-/
namespace Go.Proofs.YtpmbpklbiocclaaGreat
open Go.RowKit

def bvl (l : List UInt8) : List Value := l.map fun x => .int .u8 (x.toNat : Int)
theorem bvl_len (l : List UInt8) : (bvl l).length = l.length := by simp [bvl]
theorem bcells_bvl (l : List UInt8) : bcells l = (bvl l).toArray := rfl
def kc (base view : List UInt8) (d : Int) (f : Value) (lat : List Int) : List Value := bvl base ++ (bvl view ++ (.int .i64 d :: f :: ivals lat))
section
variable {base view : List UInt8} {d : Int} {f : Value} {lat : List Int}
theorem kc_len (h1 : base.length = 256) (h2 : view.length = 256) (h3 : lat.length = 256) : (kc base view d f lat).length = 770 := by
  simp only [kc, List.length_append, List.length_cons, bvl_len, ivals_len, h1, h2, h3]
theorem kc_base (h1 : base.length = 256) (j : Nat) (hj : j < 256) : (kc base view d f lat)[0 + j]? = (bvl base)[j]? := by
  unfold kc
  rw [Nat.zero_add, List.getElem?_append_left (by rw [bvl_len]; omega)]
theorem kc_view (h1 : base.length = 256) (h2 : view.length = 256) (j : Nat) (hj : j < 256) : (kc base view d f lat)[256 + j]? = (bvl view)[j]? := by
  unfold kc
  rw [List.getElem?_append_right (by rw [bvl_len]; omega), bvl_len, h1, show 256 + j - 256 = j by omega, List.getElem?_append_left (by rw [bvl_len]; omega)]
theorem kc_past (h1 : base.length = 256) (h2 : view.length = 256) (j : Nat) : (kc base view d f lat)[512 + j]? = (.int .i64 d :: f :: ivals lat : List Value)[j]? := by
  unfold kc
  rw [List.getElem?_append_right (by rw [bvl_len]; omega), bvl_len, h1, List.getElem?_append_right (by rw [bvl_len]; omega), bvl_len, h2, show 512 + j - 256 - 256 = j by omega]
theorem kc_dirty (h1 : base.length = 256) (h2 : view.length = 256) : (kc base view d f lat)[512]? = some (.int .i64 d) := kc_past h1 h2 0
theorem kc_free (h1 : base.length = 256) (h2 : view.length = 256) : (kc base view d f lat)[513]? = some f := kc_past h1 h2 1
theorem kc_lat (h1 : base.length = 256) (h2 : view.length = 256) (j : Nat) : (kc base view d f lat)[514 + j]? = (ivals lat)[j]? := by
  have h := kc_past (d := d) (f := f) (lat := lat) h1 h2 (2 + j)
  rw [show 512 + (2 + j) = 514 + j by omega] at h
  rw [h, show 2 + j = j + 1 + 1 by omega]
  rfl
theorem kc_setPast (h1 : base.length = 256) (h2 : view.length = 256) (j : Nat) (v : Value) : (kc base view d f lat).set (512 + j) v = bvl base ++ (bvl view ++ (.int .i64 d :: f :: ivals lat : List Value).set j v) := by
  unfold kc
  rw [List.set_append, if_neg (by rw [bvl_len]; omega), bvl_len, h1, List.set_append, if_neg (by rw [bvl_len]; omega), bvl_len, h2, show 512 + j - 256 - 256 = j by omega]
theorem kc_setDirty (h1 : base.length = 256) (h2 : view.length = 256) (d' : Int) : (kc base view d f lat).set 512 (.int .i64 d') = kc base view d' f lat := kc_setPast h1 h2 0 _
theorem kc_setFree (h1 : base.length = 256) (h2 : view.length = 256) (f' : Value) : (kc base view d f lat).set 513 f' = kc base view d f' lat := kc_setPast h1 h2 1 _
theorem ivals_set (l : List Int) (j : Nat) (x : Int) : (ivals l).set j (.int .i64 x) = ivals (l.set j x) := by
  unfold ivals
  rw [List.map_set]
theorem kc_setLat (h1 : base.length = 256) (h2 : view.length = 256) (j : Nat) (x : Int) : (kc base view d f lat).set (514 + j) (.int .i64 x) = kc base view d f (lat.set j x) := by
  have h := kc_setPast (d := d) (f := f) (lat := lat) h1 h2 (2 + j) (.int .i64 x)
  rw [show 512 + (2 + j) = 514 + j by omega] at h
  rw [h, show 2 + j = j + 1 + 1 by omega]
  unfold kc
  simp only [List.set_cons_succ, ivals_set]
theorem kc_toBase (h1 : base.length = 256) (b : List UInt8) (hb : b.length = 256) : (kc base view d f lat).take 0 ++ bvl b ++ (kc base view d f lat).drop (0 + (bvl b).length) = kc b view d f lat := by
  unfold kc
  rw [bvl_len, hb, List.take_zero, List.nil_append, Nat.zero_add, List.drop_append_of_le_length (by rw [bvl_len]; omega), List.drop_of_length_le (by rw [bvl_len]; omega), List.nil_append]
theorem kc_toView (h1 : base.length = 256) (h2 : view.length = 256) (b : List UInt8) (hb : b.length = 256) : (kc base view d f lat).take 256 ++ bvl b ++ (kc base view d f lat).drop (256 + (bvl b).length) = kc base b d f lat := by
  unfold kc
  have e : (bvl base).length = 256 := by rw [bvl_len, h1]
  rw [bvl_len, hb, List.take_append_of_le_length (by omega), List.take_of_length_le (by omega), List.append_assoc, List.drop_append, List.drop_of_length_le (by omega), List.nil_append, e, List.drop_append_of_le_length (by rw [bvl_len]; omega), List.drop_of_length_le (by rw [bvl_len]; omega), List.nil_append]
end

section
variable {P : Program} {ops : Array Oper} {rest : List Oper} {o : Oper} {a : Act} {w : World} {K : Act → World → Prop} {Q : Exit → Act → World → Prop}
theorem run_loadVar_part (P : Program) (w : World) (ty : TypeId) (d : TypeDesc) (hu : P.underlying ty = some d) (hd : (match d with | .struct _ | .array _ _ => true | _ => false) = true) (l : List Value) (hs : (P.info? ty).map (·.size) = some l.length) (g off : Nat) (T : TypeId) (cs : List Value) (hg : Blk w g T cs.toArray)
    (hl : ∀ j, j < l.length → cs[off + j]? = l[j]?) : (loadVar ty ⟨g, off, none⟩).run P w = .ok (.agg l.toArray) w := by
  have hrun : (loadCells ⟨g, off, none⟩ l.length).run P w = .ok l.toArray w := run_loadCells_list (P := P) w ⟨g, off, none⟩ l (fun j v hv => by
    have hj : j < l.length := (List.getElem?_eq_some_iff.1 hv).1
    have e : (⟨g, off, none⟩ : Addr).add j = ⟨g, off + j, none⟩ := by unfold Addr.add; split <;> simp_all
    rw [e, hg.cell, ← hv, ← hl j hj]
    simp)
  obtain ⟨i, hq, hsz⟩ := Option.map_eq_some_iff.1 hs
  have hagg : (isAgg ty).run P w = .ok true w := by
    unfold isAgg
    rw [Sem.run_bind, run_underlying hu w]
    cases d <;> simp_all
  simp [loadVar, Sem.run_bind, hagg, sizeOf, typeInfo, hq, hsz, hrun]
theorem exec_load_part {o : Oper} (t : TypeId) (x : Operand) (ho : o.op = .load t x) (g off : Nat) (hx : a.eval x = .pointer (some ⟨g, off, none⟩)) (l : List Value) (T : TypeId) (cs : List Value) (hg : Blk w g T cs.toArray) (hl : ∀ j, j < l.length → cs[off + j]? = l[j]?)
    (d : TypeDesc) (hu : P.underlying t = some d) (hd : (match d with | .struct _ | .array _ _ => true | _ => false) = true) (hs : (P.info? t).map (·.size) = some l.length) : (execOp a.eval o).run P w = .ok (.value (.agg l.toArray)) w := by
  unfold execOp
  simp only [ho, hx, Instr.loadAt, Instr.sureAddr, Sem.run_bind, Sem.run_pure, Result.andThen_ok, run_loadVar_part P w t d hu hd l hs g off T cs hg hl]
theorem wpList_load_part (hgd : Region.wanted o (yielded ops a.tmps) = true) (t : TypeId) (x : Operand) (ho : o.op = .load t x) (g off : Nat) (hx : a.eval x = .pointer (some ⟨g, off, none⟩)) (l : List Value) (T : TypeId) (cs : List Value) (hg : Blk w g T cs.toArray) (hl : ∀ j, j < l.length → cs[off + j]? = l[j]?)
    (d : TypeDesc) (hu : P.underlying t = some d) (hd : (match d with | .struct _ | .array _ _ => true | _ => false) = true) (hs : (P.info? t).map (·.size) = some l.length) (u : Value) (hq : Value.agg l.toArray = u) (h : wpList P ops Q rest (a.put o.dst u) w) : wpList P ops Q (o :: rest) a w := by
  refine wpList_wanted hgd fun K hK => ?_
  unfold Oper.wp
  rw [exec_load_part t x ho g off hx l T cs hg hl d hu hd hs, hq]
  exact hK _ _ h
theorem run_storeVar_part (P : Program) (w : World) (ty : TypeId) (l : List Value) (hs : (P.info? ty).map (·.size) = some l.length) (g off : Nat) (T : TypeId) (cs : List Value) (hg : Blk w g T cs.toArray) (h1 : ∀ v ∈ l, v.oneCell' = true) (hb : off + l.length ≤ cs.length) :
    (storeVar ty ⟨g, off, none⟩ (.agg l.toArray)).run P w = .ok () (w.setRow g (cs.take off ++ l ++ cs.drop (off + l.length)).toArray) := by
  have hst := run_storeCells_at P g off T l 0 cs.toArray w hg (by simpa using hb) h1
  obtain ⟨i, hq, hsz⟩ := Option.map_eq_some_iff.1 hs
  have hcs : (Value.agg l.toArray).cells = l.toArray := rfl
  simp only [Nat.add_zero] at hst
  simp [storeVar, sizeOf, typeInfo, hq, hsz, hcs, hst]
theorem ow_store_part (ty : TypeId) (x y : Operand) (ho : o.op = .store ty x y) (l : List Value) (hs : (P.info? ty).map (·.size) = some l.length)
    (g off : Nat) (hx : a.eval x = .pointer (some ⟨g, off, none⟩)) (hy : a.eval y = .agg l.toArray) (T : TypeId) (cs : List Value) (hg : Blk w g T cs.toArray) (h1 : ∀ v ∈ l, v.oneCell' = true) (hb : off + l.length ≤ cs.length) (ds : List Value) (hd : cs.take off ++ l ++ cs.drop (off + l.length) = ds)
    (h : Stop (∀ w', Hid (Only w w' g) → Hid (Blk w' g T ds.toArray) → K (a.put o.dst undef) w')) : o.wp P a w K Q := by
  subst hd
  unfold Oper.wp execOp
  simp only [ho, hx, hy, Instr.storeAt, Instr.sureAddr, Sem.run_bind, Sem.run_pure, Result.andThen_ok, run_storeVar_part P w ty l hs g off T cs hg h1 hb]
  exact h _ (Only.setRow hg _) (hg.setRow _)
theorem wpList_store_part (hgd : Region.wanted o (yielded ops a.tmps) = true) (ty : TypeId) (x y : Operand) (ho : o.op = .store ty x y) (l : List Value) (hs : (P.info? ty).map (·.size) = some l.length)
    (g off : Nat) (hx : a.eval x = .pointer (some ⟨g, off, none⟩)) (hy : a.eval y = .agg l.toArray) (T : TypeId) (cs : List Value) (hg : Blk w g T cs.toArray) (h1 : ∀ v ∈ l, v.oneCell' = true) (hb : off + l.length ≤ cs.length) (ds : List Value) (hd : cs.take off ++ l ++ cs.drop (off + l.length) = ds)
    (h : Stop (∀ w', Hid (Only w w' g) → Hid (Blk w' g T ds.toArray) → wpList P ops Q rest (a.put o.dst undef) w')) : wpList P ops Q (o :: rest) a w :=
  wpList_wanted hgd fun _ hK => ow_store_part ty x y ho l hs g off hx hy T cs hg h1 hb ds hd (fun w' h1 h2 => hK _ _ (h w' h1 h2))
theorem bvl_one (l : List UInt8) : ∀ v ∈ bvl l, v.oneCell' = true := fun v hv => by
  obtain ⟨x, _, rfl⟩ := List.mem_map.1 hv
  rfl
end

end Go.Proofs.YtpmbpklbiocclaaGreat
