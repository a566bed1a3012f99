/-
  Texts of this claim joined: Tre3, Name3A, Str, AppY.
-/
import Derived.Test.YtkakihbfhmiabaaGreatTre1
import Derived.Test.YtkakihbfhmiabaaGreatMapZ
import Derived.Test.YtkakihbfhmiabaaGreatGrAU
import Derived.BigQuiet
import Derived.Deep.QuietTactic
import Derived.Test.YtkakihbfhmiabaaGreatGrAE
import Derived.Test.YtkakihbfhmiabaaGreatRows
import Derived.Test.YtkakihbfhmiabaaGreatGrAC
import Derived.Test.YtkakihbfhmiabaaGreatGrAS

/-
  Contracts of package tree: places, Paths.
-/
namespace Go.Proofs.YtkakihbfhmiabaaGreat
open Go.RowKit
set_option maxRecDepth 10000

/-- Where the first of each number stands, as a map: of the first k nodes; of all but those that are gone. -/
def fstM (t : List Nd) (i : Int) : Option Value := (fstI t i).map fun k => Value.int .i64 (k : Int)
def lftM (t : List Nd) (gone : List Int) (i : Int) : Option Value := (leftP t gone i).map fun k => Value.int .i64 (k : Int)
theorem lftM_nil (t : List Nd) : lftM t [] = fstM t := by
  funext i
  unfold lftM leftP fstM
  rw [if_neg (by simp)]
theorem lftM_gone (t : List Nd) (gone : List Int) (i : Int) : updM (lftM t gone) i none = lftM t (gone ++ [i]) := by
  funext j
  unfold updM lftM leftP
  by_cases hj : j = i
  · rw [if_pos hj, if_pos (by simp [hj])]; rfl
  · rw [if_neg hj]
    by_cases hg : j ∈ gone
    · rw [if_pos hg, if_pos (by simp [hg])]
    · rw [if_neg hg, if_neg (by simp [hg, hj])]
theorem fstI_take {t : List Nd} {k : Nat} {n : Nd} (h : t[k]? = some n) (i : Int) : fstI (t.take (k + 1)) i = match fstI (t.take k) i with
    | some j => some j
    | none => if n.ino = i then some k else none := by
  obtain ⟨hk, rfl⟩ := List.getElem?_eq_some_iff.1 h
  have hl : (t.take k).length = k := by rw [List.length_take]; omega
  rw [List.take_succ_eq_append_getElem hk]
  cases hf : fstI (t.take k) i with
  | some j =>
    obtain ⟨m, hm, e⟩ := fstI_at hf
    have hj : j < k := by have := fstI_lt hf; omega
    refine fstI_of (n := m) (by rw [List.getElem?_append_left (by omega)]; exact hm) e fun q hq m' hm' => ?_
    rw [List.getElem?_append_left (by omega)] at hm'
    exact fstI_first hf q hq m' hm'
  | none =>
    simp only
    have hn := fstI_none.1 hf
    by_cases hi : t[k].ino = i
    · rw [if_pos hi]
      refine fstI_of (n := t[k]) (by rw [List.getElem?_append_right (by omega)]; simp [hl]) hi fun q hq m' hm' => ?_
      rw [List.getElem?_append_left (by omega)] at hm'
      exact hn m' (List.mem_of_getElem? hm')
    · rw [if_neg hi, fstI_none]
      intro m hm
      rcases List.mem_append.1 hm with hm | hm
      · exact hn m hm
      · rw [List.mem_singleton] at hm
        rw [hm]
        exact hi
theorem fstM_old {t : List Nd} {k : Nat} {n : Nd} (h : t[k]? = some n) (hs : (fstM (t.take k) n.ino).isSome = true) : fstM (t.take (k + 1)) = fstM (t.take k) := by
  funext i
  unfold fstM at hs ⊢
  rw [fstI_take h]
  cases hf : fstI (t.take k) i with
  | some j => rfl
  | none =>
    simp only
    by_cases hi : n.ino = i
    · rw [hi, hf] at hs; cases hs
    · rw [if_neg hi]
theorem fstM_new {t : List Nd} {k : Nat} {n : Nd} (h : t[k]? = some n) (hs : (fstM (t.take k) n.ino).isSome = false) : fstM (t.take (k + 1)) = updM (fstM (t.take k)) n.ino (some (.int .i64 (k : Int))) := by
  funext i
  unfold updM fstM at *
  rw [fstI_take h]
  by_cases hi : i = n.ino
  · rw [if_pos hi]
    cases hf : fstI (t.take k) i with
    | some j => rw [← hi, hf] at hs; cases hs
    | none => simp only; rw [if_pos hi.symm]; rfl
  · rw [if_neg hi]
    cases hf : fstI (t.take k) i with
    | some j => rfl
    | none => simp only; rw [if_neg (fun e => hi e.symm)]
/-- Ways as rows. -/
def wrow (q : Nat × ByteArray) : List Value := [.int .i64 (q.1 : Int), .string q.2]
def wrows (l : List (Nat × ByteArray)) : List (List Value) := l.map wrow
theorem wrows_len (l : List (Nat × ByteArray)) : (wrows l).length = l.length := by simp [wrows]
theorem wrows_at {l : List (Nat × ByteArray)} {k : Nat} {q : Nat × ByteArray} (h : l[k]? = some q) : (wrows l)[k]? = some (wrow q) := by unfold wrows; rw [List.getElem?_map, h]; rfl
theorem wrows_snoc (l : List (Nat × ByteArray)) (q : Nat × ByteArray) : wrows (l ++ [q]) = wrows l ++ [wrow q] := by simp [wrows]

theorem Tryz.zeroInt25 : (Tryz.prog.info? 3).map (·.zero) = some (some (.int .i64 0)) := by kernel_rfl
set_option maxHeartbeats 1600000 in
theorem tplaces_any (A : Option Addr) (n cap : Nat) (t : List Nd) (hn : t.length = n) (hm : n ≤ 4096) (hwf : ∀ x ∈ t, (Lit.int .i64 x.ino).wf = true) (w : World) (hr : RdL RdN w A 7 t) :
    Calls Tryz.prog 29 #[.slice A n cap] w fun e w' => ∃ b, e = .returned (.map (some b)) ∧ w.heap.size ≤ b ∧ MapZ (.int .i64 0) w' Tryz.prog 3 b n (lftM t []) ∧ Below w.heap.size w w' := by
  have Hn := Lib.hid hn
  have HR := Lib.hid hr
  have HWf := Lib.hid hwf
  clear hn hr hwf
  rw [lftM_nil]
  go_enter Tryz.func29, Tryz.ntmps29
  go_wp2_with (refine wpList_makeZ (zv := .int .i64 0) rfl _ rfl 3 ?_)
  apply Stop.go; intro w1 Hg1 HM1
  have Hb := Lib.hid (show w.heap.size < w1.heap.size by have := Hg1.out.2; omega)
  have E1 := Lib.hid Hg1.out.1
  clear Hg1
  obtain ⟨b, HBd⟩ : ∃ b, Hid (w.heap.size = b) := ⟨_, Lib.hid rfl⟩
  rw [HBd.out] at HM1 Hb ⊢
  go_wp2_with fail
  go_loopw [11] (fun z wr => ∃ k : Nat, k ≤ n ∧ z = .int .i64 k ∧ Hid (MapZ (.int .i64 0) wr Tryz.prog 3 b k (fstM (t.take k))) ∧ Hid (Below w.heap.size w wr)) (fun z _ => n - (intOf z).toNat)
  case atStart => exact ⟨0, Nat.zero_le _, rfl, Lib.hid (by rw [show fstM (t.take 0) = fun _ => none from rfl]; exact HM1.out), E1⟩
  case round =>
    obtain ⟨k, hk, rfl, HM, E⟩ := hrel
    by_cases hlt : k < n
    · have d1 : decide ((k : Int) < (n : Int)) = true := by simp; omega
      have p0 : (0 : Int) ≤ (k : Int) := by omega
      have p1 : (k : Int) < (n : Int) := by omega
      obtain ⟨nd, hnd⟩ : ∃ nd, t[k]? = some nd := ⟨_, List.getElem?_eq_getElem (by rw [Hn.out]; exact hlt)⟩
      obtain ⟨ad, x, rfl, hx, hc⟩ := (HR.out.below E.out).node hnd
      have HRw := Lib.hid hc
      have HI := Lib.hid hx.ino
      have HNd := Lib.hid hnd
      have HW := Lib.hid (HWf.out nd (List.mem_of_getElem? hnd))
      clear hc hx hnd
      go_wp2_with (first | refine wpList_load_cells rfl _ _ rfl (ad.add (k * 7)) rfl _ Tryz.underlying51 (nrow x) Tryz.ndSize HRw.out ?_ | refine wpList_alloc_row rfl _ rfl _ Tryz.ndZero ?_)
      apply Stop.go; intro w2 Hg2 Hb2
      go_wp2_with (refine wpList_store_arr rfl _ _ _ rfl _ (ncells x) rfl rfl _ _ Hb2.out Tryz.ndSize rfl (ncells_one x) ?_)
      apply Stop.go; intro w3 Ho3 Hb3
      have c0 : w3.cell? ⟨wr.heap.size, 0, none⟩ = some (.int .i64 nd.ino) := by
        rw [← HI.out]
        exact Hb3.out.cell 0
      have D3 := Lib.hid (bonly Hg2.out.1 Ho3.out (Nat.le_refl _))
      have E3 := Lib.hid (bt E.out D3.out)
      have HM3 := Lib.hid (HM.out.ext D3.out)
      clear Hg2 Hb2 Ho3 Hb3 D3 HRw E HM
      generalize wr.heap.size = gn at *
      obtain ⟨r, hr⟩ : ∃ r, (fstM (t.take k) nd.ino).isSome = r := ⟨_, rfl⟩
      have HRs := Lib.hid hr
      clear hr
      obtain ⟨u, Hu⟩ : ∃ u, Hid ((fstM (t.take k) nd.ino).getD (.int .i64 0) = u) := ⟨_, Lib.hid rfl⟩
      cases r
      · have HMn := Lib.hid (fstM_new HNd.out HRs.out)
        go_wp2_with (first | refine wpList_lookZ_ok rfl _ _ _ rfl _ _ Tryz.underlying3 Tryz.underlying70 Tryz.zeroInt25 rfl HM3.out nd.ino rfl HW.out u Hu.out false HRs.out ?_ | refine wpList_mapZ_store rfl _ _ _ _ rfl _ _ Tryz.underlying3 Tryz.underlying70 rfl HM3.out (by unfold maxLen; omega) nd.ino rfl HW.out _ rfl ?_)
        apply Stop.go; intro w4 HM4 Hg4
        rw [← HMn.out] at HM4
        have E4 := Lib.hid (E3.out.grown Hg4.out E3.out.size (fun j hj => by
          injection hj with hj
          rw [← hj, ← HBd.out]
          exact Nat.le_refl _))
        go_wp2_with fail
        go_roundw
        case rel => exact ⟨k + 1, by omega, by go_num, HM4, E4⟩
        case measure => simp [intOf]; omega
      · have HMo := Lib.hid (fstM_old HNd.out HRs.out)
        go_wp2_with (refine wpList_lookZ_ok rfl _ _ _ rfl _ _ Tryz.underlying3 Tryz.underlying70 Tryz.zeroInt25 rfl HM3.out nd.ino rfl HW.out u Hu.out true HRs.out ?_)
        go_roundw
        case rel => exact ⟨k + 1, by omega, by go_num, Lib.hid (by rw [HMo.out]; exact HM3.out.mono (by omega)), E3⟩
        case measure => simp [intOf]; omega
    · obtain rfl : k = n := by omega
      have d1 : decide ((k : Int) < (k : Int)) = false := by simp
      have HT := Lib.hid (show t.take k = t by rw [← Hn.out, List.take_length])
      rw [HT.out] at HM
      go_wp2_with fail
      go_ret
      exact ⟨_, rfl, Nat.le_of_eq HBd.out, HM.out, E.out⟩

end Go.Proofs.YtkakihbfhmiabaaGreat

/-
  The document's way of sorting, plain: the least of those that stand behind what is sorted already. No program is named here.
-/
namespace Go.Proofs.YtkakihbfhmiabaaGreat
open Go.RowKit

def noText : ByteArray := ⟨#[]⟩
/-- Is x behind the first k of L? -/
def aboveB (L : List ByteArray) (k : Nat) (x : ByteArray) : Bool := k == 0 || ltS (L.getD (k - 1) noText) x
/-- s is the least of the first j of l that stand behind the first k of L, if there is one (b). -/
structure BestS (L l : List ByteArray) (k j : Nat) (b : Bool) (s : ByteArray) : Prop where
  some_in : b = true → s ∈ l.take j ∧ aboveB L k s = true ∧ ∀ x ∈ l.take j, aboveB L k x = true → ltS x s = false
  none_in : b = false → ∀ x ∈ l.take j, aboveB L k x = false
section
variable {L l : List ByteArray} {k j : Nat} {b : Bool} {s : ByteArray}
theorem BestS.start (L l : List ByteArray) (k : Nat) (s : ByteArray) : BestS L l k 0 false s := ⟨fun h => (by cases h), fun _ x hx => (by simp at hx)⟩
theorem mem_take_succ {x : ByteArray} (hj : j < l.length) : x ∈ l.take (j + 1) ↔ x ∈ l.take j ∨ x = l[j] := by
  rw [List.take_succ_eq_append_getElem hj, List.mem_append, List.mem_singleton]
theorem BestS.skip (h : BestS L l k j b s) (hj : j < l.length) (ha : aboveB L k l[j] = false) : BestS L l k (j + 1) b s := by
  refine ⟨fun hb => ?_, fun hb x hx => ?_⟩
  · obtain ⟨h1, h2, h3⟩ := h.some_in hb
    refine ⟨(mem_take_succ hj).2 (Or.inl h1), h2, fun x hx hax => ?_⟩
    rcases (mem_take_succ hj).1 hx with hx | rfl
    · exact h3 x hx hax
    · rw [ha] at hax
      cases hax
  · rcases (mem_take_succ hj).1 hx with hx | rfl
    · exact h.none_in hb x hx
    · exact ha
theorem BestS.takes (h : BestS L l k j b s) (hj : j < l.length) (ha : aboveB L k l[j] = true) (hl : b = false ∨ ltS l[j] s = true) : BestS L l k (j + 1) true l[j] := by
  refine ⟨fun _ => ⟨(mem_take_succ hj).2 (Or.inr rfl), ha, fun x hx hax => ?_⟩, fun hb => (by cases hb)⟩
  rcases (mem_take_succ hj).1 hx with hx | rfl
  · cases hb : b with
    | false =>
      rw [h.none_in hb x hx] at hax
      cases hax
    | true =>
      rcases hl with hl | hl
      · rw [hb] at hl
        cases hl
      · cases hx2 : ltS x l[j] with
        | false => rfl
        | true =>
          have h1 := (h.some_in hb).2.2 x hx hax
          rw [ltS_trans hx2 hl] at h1
          cases h1
  · exact ltS_irrefl _
theorem BestS.stays (h : BestS L l k j true s) (hj : j < l.length) (hl : ltS l[j] s = false) : BestS L l k (j + 1) true s := by
  obtain ⟨h1, h2, h3⟩ := h.some_in rfl
  refine ⟨fun _ => ⟨(mem_take_succ hj).2 (Or.inl h1), h2, fun x hx hax => ?_⟩, fun hb => (by cases hb)⟩
  rcases (mem_take_succ hj).1 hx with hx | rfl
  · exact h3 x hx hax
  · exact hl
theorem BestS.in_ (h : BestS L l k j true s) : s ∈ l := List.mem_of_mem_take (h.some_in rfl).1

theorem above_next {L : List ByteArray} (hr : RiseS L) (k : Nat) (hk : k < L.length) : aboveB L k L[k] = true := by
  unfold aboveB
  by_cases h0 : k = 0
  · simp [h0]
  · have h1 : ltS L[k - 1] L[k] = true := List.pairwise_iff_getElem.1 hr (k - 1) k (by omega) hk (by omega)
    have h2 : L.getD (k - 1) noText = L[k - 1] := by simp [List.getD, show k - 1 < L.length by omega]
    rw [h2, h1]
    simp
theorem above_at {L : List ByteArray} (hr : RiseS L) (k i : Nat) (hi : i < L.length) (hk : k ≤ L.length) (h : aboveB L k L[i] = true) : k ≤ i := by
  apply Classical.byContradiction
  intro hlt
  unfold aboveB at h
  have h0 : (k == 0) = false := by simp; omega
  have h2 : L.getD (k - 1) noText = L[k - 1] := by simp [List.getD, show k - 1 < L.length by omega]
  rw [h0, h2, Bool.false_or] at h
  by_cases e : i = k - 1
  · subst e
    rw [ltS_irrefl] at h
    cases h
  · have h1 : ltS L[i] L[k - 1] = true := List.pairwise_iff_getElem.1 hr i (k - 1) hi (by omega) (by omega)
    rw [ltS_asymm h1] at h
    cases h
theorem BestS.none_all (h : BestS (sortS l) l k l.length false s) : (sortS l).take k = sortS l := by
  apply List.take_of_length_le
  apply Classical.byContradiction
  intro hlt
  have hk2 : k < (sortS l).length := by omega
  have h1 := above_next (sortS_rises l) k hk2
  have h2 := h.none_in rfl (sortS l)[k] (by rw [List.take_of_length_le (Nat.le_refl _)]; exact (sortS_mem l _).1 (List.getElem_mem hk2))
  rw [h1] at h2
  cases h2
theorem BestS.some_next (h : BestS (sortS l) l k l.length true s) (hk : k ≤ (sortS l).length) : k < (sortS l).length ∧ (sortS l).take (k + 1) = (sortS l).take k ++ [s] := by
  obtain ⟨h1, h2, h3⟩ := h.some_in rfl
  rw [List.take_of_length_le (Nat.le_refl _)] at h1
  obtain ⟨i, hi, e⟩ := List.mem_iff_getElem.1 ((sortS_mem l s).2 h1)
  have hki := above_at (sortS_rises l) k i hi hk (by rw [e]; exact h2)
  have hk2 : k < (sortS l).length := by omega
  have h4 := h3 (sortS l)[k] (by rw [List.take_of_length_le (Nat.le_refl _)]; exact (sortS_mem l _).1 (List.getElem_mem hk2)) (above_next (sortS_rises l) k hk2)
  have h5 : k = i := by
    apply Classical.byContradiction
    intro hne
    have h6 : ltS (sortS l)[k] (sortS l)[i] = true := List.pairwise_iff_getElem.1 (sortS_rises l) k i hk2 hi (by omega)
    rw [e, h4] at h6
    cases h6
  subst h5
  exact ⟨hk2, by rw [List.take_succ_eq_append_getElem hk2, e]⟩
end

/-! Where a text stands among others. -/
def placeN (l : List ByteArray) (s : ByteArray) : Nat := Lib.bsGo (fun t => Op.bytesLess (l.getD t s).toList s.toList) l.length 0 l.length
def nplaceB (l : List ByteArray) (s : ByteArray) : Bool := decide (placeN l s < l.length ∧ l.getD (placeN l s) s = s)
theorem placeN_le (l : List ByteArray) (s : ByteArray) : placeN l s ≤ l.length := bsGo_le _ _ _ _ (Nat.zero_le _)
theorem place_fewer {l : List ByteArray} (s : ByteArray) (h : RiseS l) : placeN l s = fewerN l s ∧ nplaceB l s = inB l s := by
  obtain ⟨h1, h2⟩ := place_rises s h l.length rfl
  refine ⟨h1, ?_⟩
  unfold nplaceB placeN
  rw [h1]
  exact h2

end Go.Proofs.YtkakihbfhmiabaaGreat

/-
  What the program's types say of texts.
-/
namespace Go.Proofs.YtkakihbfhmiabaaGreat
open Go.RowKit

theorem Tryz.stringInfo : (Tryz.prog.info? 9).map (fun i => (i.zero, i.size, i.bytes)) = some (some (.string ⟨#[]⟩), 1, 16) := by kernel_rfl

end Go.Proofs.YtkakihbfhmiabaaGreat

/-
  Bytes appended to bytes of the call's own, none too; % of two counts in a region gone through in order. Plain; no program is named here.
-/
namespace Go.Proofs.YtkakihbfhmiabaaGreat
open Go.RowKit

def bvalsY (l : List UInt8) : List Value := l.map fun x => Value.int .u8 (x.toNat : Int)
theorem bvalsY_len (l : List UInt8) : (bvalsY l).length = l.length := by simp [bvalsY]
theorem OwnB.toC {w : World} {B : Nat} {e : TypeId} {v : Value} {l : List UInt8} (h : OwnB w B e v l) : OwnC w B e v (bvalsY l) := by
  unfold OwnC
  rw [bvalsY_len]
  exact h
theorem OwnC.toB {w : World} {B : Nat} {e : TypeId} {v : Value} {l : List UInt8} (h : OwnC w B e v (bvalsY l)) : OwnB w B e v l := by
  unfold OwnC at h
  rw [bvalsY_len] at h
  exact h
theorem RB.toC {w : World} {A : Option Addr} {l : List UInt8} (h : RB w A l) : RC w A (bvalsY l) := fun k hk => by
  have hk' : k < l.length := by rwa [bvalsY_len] at hk
  obtain ⟨ad, e, hc⟩ := h k hk'
  refine ⟨ad, e, ?_⟩
  rw [hc]
  simp [bvalsY]
/-- A literal without elements. -/
theorem OwnB.empty (w : World) (e : TypeId) : OwnB (w.alloc (.cells #[] e)) w.heap.size e (.slice (some ⟨w.heap.size, 0, none⟩) 0 0) [] :=
  ⟨rfl, Or.inr ⟨w.heap.size, 0, #[], rfl, Nat.le_refl _, heap_alloc_new w _, Nat.le_refl _, by unfold maxLen; omega, rfl, rfl⟩⟩
section
variable {P : Program} {ops : Array Oper} {rest : List Oper} {o : Oper} {a : Act} {w : World} {K : Act → World → Prop} {Q : Exit → Act → World → Prop}
theorem wpList_append_ownY (hgd : Region.wanted o (yielded ops a.tmps) = true) (s x : Operand) (t e : TypeId) (ho : o.op = .call { callee := .builtin .append, args := #[s, x], argTypes := #[t, t] })
    (ht : P.underlying t = some (.slice e)) (hi : (P.info? e).map (fun i => (i.zero, i.size, i.bytes)) = some (some (.int .u8 0), 1, 1))
    (B : Nat) (v : Value) (l : List UInt8) (hs : a.eval s = v) (hown : OwnB w B e v l) (hB : B ≤ w.heap.size) (A : Option Addr) (m c' : Nat) (l' : List UInt8) (hx : a.eval x = .slice A m c') (hm : l'.length = m) (hr' : RB w A l') (hlen : l.length + m ≤ 140737488355328)
    (h : Stop (∀ v' w', Hid (OwnB w' B e v' (l ++ l')) → Hid (Below B w w') → wpList P ops Q rest (a.put o.dst v') w')) : wpList P ops Q (o :: rest) a w := by
  obtain ⟨v', w', hrun, r1, r2⟩ := run_append_many P w t o.type e ht (.int .u8 0) 1 hi rfl B v (bvalsY l) hown.toC A m c' (bvalsY l') (by rw [bvalsY_len]; exact hm) hr'.toC (oneCell_bytes l') hB (by rw [bvalsY_len]; unfold maxLen; omega) (by rw [bvalsY_len]; omega)
  refine wpList_wanted hgd fun K hK => ?_
  unfold Oper.wp execOp
  simp only [ho, resolve, invoke, builtin, Sem.run_bind, Sem.run_pure, Result.andThen_ok, List.map_toArray, List.map_cons, List.map_nil, hs, hx, hrun]
  refine hK _ _ (h v' w' ?_ ((Below.refl _ _).grown r2 hB (fun k hk => (World.ownsRow.lt hown k hk).1)))
  refine OwnC.toB ?_
  have e1 : bvalsY l ++ bvalsY l' = bvalsY (l ++ l') := by unfold bvalsY; rw [List.map_append]
  rw [e1] at r1
  exact r1
theorem wpList_rem_nat (hgd : Region.wanted o (yielded ops a.tmps) = true) (t t' : TypeId) (x y : Operand) (ho : o.op = .binOp .rem t x y t') (i M : Nat) (hx : a.eval x = .int .i64 i) (hy : a.eval y = .int .i64 M) (hM : 0 < M) (hi : i < 9223372036854775808)
    (h : wpList P ops Q rest (a.put o.dst (.int .i64 ((i % M : Nat) : Int))) w) : wpList P ops Q (o :: rest) a w := by
  have m1 : (M : Int) ≠ 0 := by omega
  have i1 : Int.tmod (i : Int) (M : Int) = ((i % M : Nat) : Int) := by rw [Int.tmod_eq_emod_of_nonneg (by omega)]; rfl
  have i2 : IntKind.i64.wrap ((i % M : Nat) : Int) = ((i % M : Nat) : Int) := IntWalk.i64_in _ (by have := Nat.mod_le i M; omega)
  have he : (execOp a.eval o).run P w = .ok (.value (.int .i64 ((i % M : Nat) : Int))) w := by
    unfold execOp
    simp only [ho, hx, hy]
    go_simp
    omega
  refine wpList_wanted hgd fun K hK => ?_
  unfold Oper.wp
  rw [he]
  exact hK _ _ h
end

end Go.Proofs.YtkakihbfhmiabaaGreat
