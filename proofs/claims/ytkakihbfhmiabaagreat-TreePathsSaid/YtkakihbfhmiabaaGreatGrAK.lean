/-
  Texts of this claim joined: Row, Open, OpenP, StepA, BksO.
-/
import Derived.Test.YtkakihbfhmiabaaGreatRows
import Derived.Test.YtkakihbfhmiabaaGreatGrAA
import Derived.ProofKit
import Derived.Carry
import Derived.OpenShut
import Derived.ChangeSame
import Derived.SizedLaws
import Derived.Test.YtkakihbfhmiabaaGreatGrAC
import Derived.Test.YtkakihbfhmiabaaGreatGrAB
import Derived.Lib.SmallJoins
import Derived.Deep.Slices
import Derived.Deep.Strs
import Derived.Great.BuildSlice
import Derived.Great.FillDense

/-
  The step from a walk to a row, for laws: whatever the arguments are that can be read, the call answers true and leaves what was there.
-/
namespace Go.Proofs.YtkakihbfhmiabaaGreat
open Go.ChangeShapes Go.WideShapes Go.ChangeAt Go.RowKit

theorem Tryz.own : ownKnob Tryz.prog.godebug = none := by kernel_rfl
theorem Tryz.laidOut : laidOutB Tryz.prog = true := by kernel_rfl

section
variable {H : Type} {enc : TypeId × Value → H} {P : Program}

theorem trodAll_below (hl : laidOutB P = true) {W W' : World} (hb : Below W.heap.size W W') {sp : Nat → Bool} : ∀ {ts : List TypeId} {vs : List Value} {ds : List (DataW H)} {ps : List MemPlace},
    (∀ t ∈ ts, P.readableRec t = true ∧ t < P.types.size) → DataW.TrodAll enc P W 0 (fun _ => true) true ts vs ds ps → (∀ p ∈ ps, p.block < W.heap.size) → (∀ p ∈ ps, sp p.block = true) → DataW.TrodAll enc P W' 0 sp true ts vs ds ps := by
  intro ts
  induction ts with
  | nil =>
    intro vs ds ps _ h _ _
    obtain ⟨rfl, rfl, rfl⟩ := trodAll_nil h
    exact trodAll_mk0
  | cons t ts ih =>
    intro vs ds ps hts h hlt hsp
    obtain ⟨v, vs', d, ds', p, q, rfl, rfl, rfl, hd, hrest⟩ := trodAll_cons h
    refine trodAll_cons_mk (WideElems.Trod_stays hl (hts t (by simp)).1 (hts t (by simp)).2 hd (fun x hx => hb.same (hlt x (by simp [hx]))) (fun x hx => hsp x (by simp [hx]))) ?_
    exact ih (fun u hu => hts u (by simp [hu])) hrest (fun x hx => hlt x (by simp [hx])) (fun x hx => hsp x (by simp [hx]))

theorem law_post {f : Func} {s : ChangeSpec} {apart fresh handsOn again : Bool} {W W' : World} {args : Array Value} {ds gs : List (DataW H)} {before : List MemPlace} {tb : TypeId}
    (hl : laidOutB P = true) (hts : ∀ t ∈ f.params.toList, P.readableRec t = true ∧ t < P.types.size) (hvars : s.vars = []) (hr : f.resultTypes = #[tb]) (hbt : P.underlying tb = some .bool)
    (hfn : s.fn H (ds ++ gs) = { results := [.lit (.bool true)], args := ds })
    (hW : DataW.Whole enc P f.params.toList s.vars apart W args.toList ds gs before) (hb : Below W.heap.size W W') : s.post enc P f apart fresh handsOn again W args (.bool true) W' := by
  have hW' := hW
  obtain ⟨pa, pv, hA, hV, rfl, hz, hn⟩ := hW
  have hV' := hV
  rw [hvars] at hV'
  obtain ⟨rfl, rfl⟩ := trodVars_none hV'
  have hlt : ∀ p ∈ pa ++ [], p.block < W.heap.size := fun p hp => hW'.lt p hp
  have hold : ∀ p ∈ pa ++ [], (fun b => decide (b < W.heap.size)) p.block = true := fun p hp => by simpa using hlt p hp
  have hargs : ∀ sp : Nat → Bool, (∀ p ∈ pa ++ [], sp p.block = true) → DataW.TrodAll enc P W' 0 sp true f.params.toList args.toList (s.fn H (ds ++ [])).args pa := fun sp hsp => by
    rw [hfn]
    exact trodAll_below hl hb hts hA (fun p hp => hlt p (by simpa using hp)) (fun p hp => hsp p (by simpa using hp))
  have hres : ∀ (b : Nat) (sp : Nat → Bool) (hd : Bool), DataW.TrodAll enc P W' b sp hd f.resultTypes.toList ((Value.bool true).resultList f.resultTypes.size) (s.fn H (ds ++ [])).results [] := fun b sp hd => by
    rw [hfn, hr]
    exact trodAll_mk1 (shut_bool hbt true)
  have hvs : ∀ sp : Nat → Bool, (∀ p ∈ pa ++ [], sp p.block = true) → DataW.TrodVars enc P W' sp s.vars (s.fn H (ds ++ [])).vars [] := fun sp _ => by
    rw [hfn, hvars]
    rfl
  refine ⟨ds, [], pa ++ [], [], pa, [], hW', hres _ _ _, hargs _ hold, hvs _ hold, World.keptBut_mono (fun p hp => ⟨hp, ?_⟩) (hb.frame (· ∈ pa ++ [])), fun _ => ?_⟩
  · exact Or.inr (by simpa using hp)
  · refine ⟨ok_one hr rfl (okWide_bool_mk hbt true), _, _, ([] ++ pa) ++ [], ⟨[] ++ pa, [], trodAll_append (hargs _ (fun _ _ => rfl)) (hres _ _ _), hvs _ (fun _ _ => rfl), rfl, ?_, ?_⟩, ?_⟩
    · intro b off hp
      have hin : MemPlace.cell b off ∈ pa ++ [] := by simpa using hp
      rw [hb.frozen (hlt _ hin)]
      exact hz b off hin
    · intro ha
      simpa using hn ha
    · intro p hp _
      simpa using hp

/-- A slice of bytes that came in, and what its datum is. -/
theorem open_bytes_at {w : World} {base fuel : Nat} {t e : TypeId} {cs : List Value} {x : DataW H × List MemPlace} {spare : Nat → Bool} {held : Bool} (ht : P.underlying t = some (.slice e)) (he : P.underlying e = some (.int .u8)) (hc : P.cellsOf e = 1)
    (hf : DataW.trod enc P w base spare held fuel t cs = some x) :
    ∃ (A : Option Addr) (n c : Nat) (l : List UInt8), cs = [.slice A n c] ∧ l.length = n ∧ n ≤ c ∧ c ≤ maxLen ∧ RB w A l ∧ ((x.1 = .nil ∧ n = 0) ∨ ∃ es sp, x.1 = .slice es sp ∧ es.length = n) := by
  rcases open_ints ht he hc hf with ⟨hcs, hx⟩ | ⟨a, n, c, zs, hcs, _, hl, hm, hz, hx, hcell, hw⟩
  · exact ⟨none, 0, 0, [], hcs, rfl, by omega, by unfold maxLen; omega, RB.nil_ _ _, Or.inl ⟨by rw [hx], rfl⟩⟩
  · have hnz : n ≤ zs.length := by rw [hz]; split <;> omega
    refine ⟨some a, n, c, (zs.take n).map fun z => UInt8.ofNat z.toNat, hcs, by simp; omega, hl, hm, fun k hk => ?_, Or.inr ⟨_, _, by rw [hx], by simp [lits]; omega⟩⟩
    have hk' : k < n := by simp at hk; omega
    refine ⟨a, rfl, ?_⟩
    have hkz : k < zs.length := by omega
    rw [hcell k hkz]
    have hwk := hw zs[k] (List.getElem_mem hkz)
    have hb := bounds_u8 hwk
    have e1 : zs.getD k 0 = zs[k] := by simp [List.getD, hkz]
    rw [e1]
    congr 2
    simp
    omega
theorem open_bytes {w : World} {base : Nat} {r : Reach} {b0 : Nat} {t e : TypeId} {v : Value} {d : DataW H} {ps : List MemPlace} {spare : Nat → Bool} {held : Bool} (ht : P.underlying t = some (.slice e)) (he : P.underlying e = some (.int .u8)) (hc : P.cellsOf e = 1)
    (hv : Value.okWide P w r b0 t v) (h : DataW.Trod enc P w base spare held t v d ps) :
    ∃ (A : Option Addr) (n c : Nat) (l : List UInt8), v = .slice A n c ∧ l.length = n ∧ n ≤ c ∧ c ≤ maxLen ∧ RB w A l := by
  obtain ⟨a0, n, c, rfl⟩ := okWide_slice ht hv
  obtain ⟨fuel, hf⟩ := h
  obtain ⟨A, n', c', l, hcs, h1, h2, h3, h4, _⟩ := open_bytes_at ht he hc hf
  simp [Value.cells] at hcs
  obtain ⟨rfl, rfl, rfl⟩ := hcs
  exact ⟨_, _, _, l, rfl, h1, h2, h3, h4⟩
/-- An array of two slices of bytes. -/
theorem open_bytes2 {w : World} {base : Nat} {r : Reach} {b0 : Nat} {t s e : TypeId} {v : Value} {d : DataW H} {ps : List MemPlace} {spare : Nat → Bool} {held : Bool} (ht : P.underlying t = some (.array 2 s)) (hs : P.underlying s = some (.slice e)) (he : P.underlying e = some (.int .u8)) (hc : P.cellsOf e = 1) (hcs : P.cellsOf s = 1) (hct : P.cellsOf t = 2)
    (hv : Value.okWide P w r b0 t v) (h : DataW.Trod enc P w base spare held t v d ps) :
    ∃ (A0 : Option Addr) (n0 c0 : Nat) (l0 : List UInt8) (A1 : Option Addr) (n1 c1 : Nat) (l1 : List UInt8) (x0 x1 : DataW H), v = .agg #[.slice A0 n0 c0, .slice A1 n1 c1] ∧ d = .agg [x0, x1] ∧
      (l0.length = n0 ∧ n0 ≤ c0 ∧ c0 ≤ maxLen ∧ RB w A0 l0 ∧ ((x0 = .nil ∧ n0 = 0) ∨ ∃ es sp, x0 = .slice es sp ∧ es.length = n0)) ∧
      (l1.length = n1 ∧ n1 ≤ c1 ∧ c1 ≤ maxLen ∧ RB w A1 l1 ∧ ((x1 = .nil ∧ n1 = 0) ∨ ∃ es sp, x1 = .slice es sp ∧ es.length = n1)) := by
  unfold Value.okWide at hv
  rw [ht] at hv
  obtain ⟨cs, rfl, hsz, _⟩ := hv
  rw [hct] at hsz
  obtain ⟨fuel, hf⟩ := h
  obtain ⟨xs, m, _, hx, hlen, hxl, hg⟩ := DataW.trod_array ht hf
  obtain ⟨l⟩ := cs
  match l, hsz with
  | [u0, u1], _ =>
  match xs, hxl with
  | [y0, y1], _ =>
    have g0 := hg 0 (by omega)
    have g1 := hg 1 (by omega)
    rw [hcs] at g0 g1
    simp [Value.cells] at g0 g1
    obtain ⟨A0, n0, c0, l0, e0, h0⟩ := open_bytes_at hs he hc g0
    obtain ⟨A1, n1, c1, l1, e1, h1⟩ := open_bytes_at hs he hc g1
    simp at e0 e1
    subst e0; subst e1
    simp only [Prod.mk.injEq] at hx
    exact ⟨A0, n0, c0, l0, A1, n1, c1, l1, y0.1, y1.1, rfl, hx.1, h0, h1⟩

/-- An array of integers, by value. -/
theorem open_int_array {w : World} {base : Nat} {r : Reach} {b0 : Nat} {t e : TypeId} {n : Nat} {k : IntKind} {v : Value} {d : DataW H} {ps : List MemPlace} {spare : Nat → Bool} {held : Bool} (ht : P.underlying t = some (.array n e)) (he : P.underlying e = some (.int k)) (hc : P.cellsOf e = 1) (hct : P.cellsOf t = n)
    (hv : Value.okWide P w r b0 t v) (h : DataW.Trod enc P w base spare held t v d ps) :
    ∃ zs : List Int, v = .agg (zs.map (Value.int k)).toArray ∧ zs.length = n ∧ ∀ z ∈ zs, (Lit.int k z).wf = true := by
  unfold Value.okWide at hv
  rw [ht] at hv
  obtain ⟨cs, rfl, hsz, _⟩ := hv
  obtain ⟨fuel, hf⟩ := h
  obtain ⟨xs, m, _, _, hlen, hxl, hg⟩ := DataW.trod_array ht hf
  have hcl : cs.toList.length = n := by simpa [Value.cells, hct] using hlen
  have key : ∀ i (hi : i < n), ∃ z, cs.toList[i]'(by omega) = .int k z ∧ (Lit.int k z).wf = true := by
    intro i hi
    have h1 := hg i hi
    rw [hc, Nat.mul_one] at h1
    have e1 : ((Value.agg cs).cells.toList.drop i).take 1 = [cs.toList[i]'(by omega)] := by
      show ((cs.toList).drop i).take 1 = _
      rw [List.drop_eq_getElem_cons (by omega)]
      rfl
    rw [e1, List.getElem?_eq_getElem (by omega)] at h1
    obtain ⟨z, hz, _, hw⟩ := DataW.trod_int he h1
    simp at hz
    exact ⟨z, by simpa using hz, hw⟩
  have hint : ∀ v ∈ cs.toList, ∃ z, v = .int k z ∧ (Lit.int k z).wf = true := by
    intro v hv
    obtain ⟨i, hi, rfl⟩ := List.getElem_of_mem hv
    exact key i (by omega)
  have hmap : ∀ (l : List Value), (∀ v ∈ l, ∃ z, v = .int k z ∧ (Lit.int k z).wf = true) → ∃ zs : List Int, l = zs.map (Value.int k) ∧ ∀ z ∈ zs, (Lit.int k z).wf = true := by
    intro l
    induction l with
    | nil => intro _; exact ⟨[], rfl, by simp⟩
    | cons v l ih =>
      intro hl
      obtain ⟨z, rfl, hw⟩ := hl v (by simp)
      obtain ⟨zs, rfl, hws⟩ := ih (fun u hu => hl u (by simp [hu]))
      exact ⟨z :: zs, rfl, by simpa using ⟨hw, hws⟩⟩
  obtain ⟨zs, hzs, hw⟩ := hmap _ hint
  refine ⟨zs, ?_, by rw [← hcl, hzs]; simp, hw⟩
  congr 1
  rw [← hzs]
end

theorem bcells_of_ints (zs : List Int) (hw : ∀ z ∈ zs, (Lit.int .u8 z).wf = true) : (zs.map (Value.int .u8)).toArray = bcells (zs.map fun z => UInt8.ofNat z.toNat) := by
  unfold bcells
  congr 1
  rw [List.map_map]
  apply List.map_congr_left
  intro z hz
  have hb := bounds_u8 (hw z hz)
  simp only [Function.comp_apply]
  congr 1
  simp
  omega
/-- An array of bytes, by value. -/
theorem open_byte_array {H : Type} {enc : TypeId × Value → H} {P : Program} {w : World} {base : Nat} {r : Reach} {b0 : Nat} {t e : TypeId} {n : Nat} {v : Value} {d : DataW H} {ps : List MemPlace} {spare : Nat → Bool} {held : Bool} (ht : P.underlying t = some (.array n e)) (he : P.underlying e = some (.int .u8)) (hc : P.cellsOf e = 1) (hct : P.cellsOf t = n)
    (hv : Value.okWide P w r b0 t v) (h : DataW.Trod enc P w base spare held t v d ps) : ∃ L : List UInt8, v = .agg (bcells L) ∧ L.length = n := by
  obtain ⟨zs, rfl, hz, hw⟩ := open_int_array ht he hc hct hv h
  exact ⟨_, by rw [bcells_of_ints zs hw], by simpa using hz⟩
theorem list_two {α : Type} {l : List α} (h : l.length = 2) : ∃ a b, l = [a, b] := by
  match l, h with
  | [a, b], _ => exact ⟨a, b, rfl⟩
theorem list_three {α : Type} {l : List α} (h : l.length = 3) : ∃ a b c, l = [a, b, c] := by
  match l, h with
  | [a, b, c], _ => exact ⟨a, b, c, rfl⟩

end Go.Proofs.YtkakihbfhmiabaaGreat

/-
  What a row asks of the parameters' types, whatever their number; a list of texts that came in.
-/
namespace Go.Proofs.YtkakihbfhmiabaaGreat
open Go.ChangeShapes Go.WideShapes Go.ChangeAt Go.RowKit

theorem readable_all {P : Program} {f : Func} (h : (f.params.toList.all fun t => P.readableRec t && decide (t < P.types.size)) = true) : ∀ t ∈ f.params.toList, P.readableRec t = true ∧ t < P.types.size := fun t ht => by
  have := List.all_eq_true.1 h t ht
  simpa using this

section
variable {H : Type} {enc : TypeId × Value → H} {P : Program}
/-- A slice of texts that came in. -/
theorem open_texts {w : World} {base : Nat} {r : Reach} {b0 : Nat} {t e : TypeId} {v : Value} {d : DataW H} {ps : List MemPlace} {spare : Nat → Bool} {held : Bool} (ht : P.underlying t = some (.slice e)) (he : P.underlying e = some .string) (hc : P.cellsOf e = 1)
    (hv : Value.okWide P w r b0 t v) (h : DataW.Trod enc P w base spare held t v d ps) :
    ∃ (A : Option Addr) (n c : Nat) (l : List ByteArray), v = .slice A n c ∧ l.length = n ∧ n ≤ c ∧ c ≤ maxLen ∧ RC w A (svals l) ∧ ∀ s ∈ l, s.size ≤ maxLen := by
  obtain ⟨a0, n, c, rfl⟩ := okWide_slice ht hv
  obtain ⟨fuel, hf⟩ := h
  rcases open_strings ht he hc hf with ⟨hcs, _⟩ | ⟨a, n', c', ss, hcs, _, hl, hm, hlen, _, hcell, hs⟩
  · simp [Value.cells] at hcs
    obtain ⟨rfl, rfl, rfl⟩ := hcs
    exact ⟨none, 0, 0, [], rfl, rfl, by omega, by unfold maxLen; omega, RC.nil_ _ _, by simp⟩
  · simp [Value.cells] at hcs
    obtain ⟨rfl, rfl, rfl⟩ := hcs
    have hnl : n ≤ ss.length := by rw [hlen]; split <;> omega
    refine ⟨some a, n, c, ss.take n, rfl, by simp; omega, hl, hm, fun k hk => ⟨a, rfl, ?_⟩, fun s h => hs s (List.mem_of_mem_take h)⟩
    have hk' : k < n := by simp [svals] at hk; omega
    rw [hcell k (by omega)]
    simp [svals, List.getD, show k < ss.length by omega]
end

end Go.Proofs.YtkakihbfhmiabaaGreat

/-
  Structs of a number and a slice of bytes that came in, and slices of these. Plain; no program is named here.
-/
namespace Go.Proofs.YtkakihbfhmiabaaGreat
open Go.ChangeShapes Go.WideShapes Go.ChangeAt Go.RowKit

/-- Two cells that read as a number and a slice of these bytes. -/
structure RP (w : World) (v0 v1 : Value) (p : Pt) : Prop where
  num : v0 = .int .i64 p.at_
  lo : -9223372036854775808 ≤ p.at_
  hi : p.at_ < 9223372036854775808
  bytes : ∃ A c, v1 = .slice A p.data.length c ∧ p.data.length ≤ c ∧ c ≤ maxLen ∧ RB w A p.data
theorem RP.below {w w' : World} {v0 v1 : Value} {p : Pt} (h : RP w v0 v1 p) (hb : Below w.heap.size w w') : RP w' v0 v1 p := by
  obtain ⟨A, c, e, h1, h2, h3⟩ := h.bytes
  exact ⟨h.num, h.lo, h.hi, A, c, e, h1, h2, h3.below hb⟩
/-- A slice with this address reads as these numbers and bytes. -/
def RPL (w : World) (A : Option Addr) (l : List Pt) : Prop :=
  ∀ k (h : k < l.length), ∃ ad v0 v1, A = some ad ∧ w.cell? (ad.add (k * 2)) = some v0 ∧ w.cell? (ad.add (k * 2 + 1)) = some v1 ∧ RP w v0 v1 l[k]
theorem RPL.below {w w' : World} {A : Option Addr} {l : List Pt} (h : RPL w A l) (hb : Below w.heap.size w w') : RPL w' A l := fun k hk => by
  obtain ⟨ad, v0, v1, e, h0, h1, hp⟩ := h k hk
  exact ⟨ad, v0, v1, e, by rw [hb.cell (block_lt_of_cell h0), h0], by rw [hb.cell (block_lt_of_cell h1), h1], hp.below hb⟩

section
variable {H : Type} {enc : TypeId × Value → H} {P : Program}
theorem open_patch_at {w : World} {base fuel : Nat} {s e : TypeId} {f0 f1 : Field} {spare : Nat → Bool} {held : Bool} {c0 c1 : Value} {x : DataW H × List MemPlace}
    (hs : P.underlying s = some (.struct #[f0, f1])) (h0 : P.underlying f0.type = some (.int .i64)) (k0 : P.cellsOf f0.type = 1) (h1 : P.underlying f1.type = some (.slice e)) (k1 : P.cellsOf f1.type = 1) (he : P.underlying e = some (.int .u8)) (hc : P.cellsOf e = 1)
    (o0 : f0.offset = 0) (o1 : f1.offset = 1)
    (h : DataW.trod enc P w base spare held fuel s [c0, c1] = some x) : ∃ p, RP w c0 c1 p := by
  obtain ⟨y0, y1, n, hx, _, g0, g1⟩ := trod_struct2 hs h
  rw [o0, k0] at g0
  rw [o1, k1] at g1
  simp at g0 g1
  obtain ⟨z, e0, -, wz⟩ := DataW.trod_int h0 g0
  obtain ⟨A, m, c, l, e1, hl, hm, hcm, hr, _⟩ := open_bytes_at h1 he hc g1
  simp at e0 e1
  subst e0; subst e1; subst hl
  have bz := bounds_i64 wz
  exact ⟨⟨z, l⟩, rfl, bz.1, by show z < _; omega, A, c, rfl, hm, hcm, hr⟩
/-- A struct of a number and a slice of bytes, by value. -/
theorem open_patch {w : World} {base : Nat} {r : Reach} {b0 : Nat} {s e : TypeId} {f0 f1 : Field} {v : Value} {d : DataW H} {ps : List MemPlace} {spare : Nat → Bool} {held : Bool}
    (hs : P.underlying s = some (.struct #[f0, f1])) (hC : P.cellsOf s = 2) (h0 : P.underlying f0.type = some (.int .i64)) (k0 : P.cellsOf f0.type = 1) (h1 : P.underlying f1.type = some (.slice e)) (k1 : P.cellsOf f1.type = 1) (he : P.underlying e = some (.int .u8)) (hc : P.cellsOf e = 1)
    (o0 : f0.offset = 0) (o1 : f1.offset = 1) (hv : Value.okWide P w r b0 s v) (h : DataW.Trod enc P w base spare held s v d ps) : ∃ v0 v1 p, v = .agg #[v0, v1] ∧ RP w v0 v1 p := by
  obtain ⟨cs, rfl, hsz⟩ := okWide_struct hs hv
  rw [hC] at hsz
  obtain ⟨l⟩ := cs
  match l, hsz with
  | [c0, c1], _ =>
    obtain ⟨fuel, hf⟩ := h
    obtain ⟨p, hp⟩ := open_patch_at (c0 := c0) (c1 := c1) hs h0 k0 h1 k1 he hc o0 o1 (by simpa [Value.cells] using hf)
    exact ⟨c0, c1, p, rfl, hp⟩
/-- A slice of such structs. -/
theorem open_patches {w : World} {base : Nat} {r : Reach} {b0 : Nat} {t s e : TypeId} {f0 f1 : Field} {v : Value} {d : DataW H} {ps : List MemPlace} {held : Bool} (ht : P.underlying t = some (.slice s))
    (hs : P.underlying s = some (.struct #[f0, f1])) (hC : P.cellsOf s = 2) (h0 : P.underlying f0.type = some (.int .i64)) (k0 : P.cellsOf f0.type = 1) (h1 : P.underlying f1.type = some (.slice e)) (k1 : P.cellsOf f1.type = 1) (he : P.underlying e = some (.int .u8)) (hc : P.cellsOf e = 1)
    (o0 : f0.offset = 0) (o1 : f1.offset = 1) (hv : Value.okWide P w r b0 t v) (h : DataW.Trod enc P w base (fun _ => true) held t v d ps) :
    ∃ (A : Option Addr) (n c : Nat) (l : List Pt), v = .slice A n c ∧ l.length = n ∧ n ≤ c ∧ c ≤ maxLen ∧ RPL w A l := by
  obtain ⟨a0, n, c, rfl⟩ := okWide_slice ht hv
  obtain ⟨fuel, hf⟩ := h
  rcases Go.Deep.open_slice ht hf with ⟨hcs, _⟩ | ⟨a, n', c', m, k, D, Pl, hcs, _, hl, hm, hmm, _, hx⟩
  · simp [Value.cells] at hcs
    obtain ⟨rfl, rfl, rfl⟩ := hcs
    exact ⟨none, 0, 0, [], rfl, rfl, by omega, by unfold maxLen; omega, fun k hk => absurd hk (by simp)⟩
  · simp only [if_true] at hmm
    simp [Value.cells] at hcs
    obtain ⟨rfl, rfl, rfl⟩ := hcs
    rw [hC] at hx
    have hall : ∀ i, i < m → ∃ p : Pt, ∃ v0 v1, w.cell? (a.add (i * 2)) = some v0 ∧ w.cell? (a.add (i * 2 + 1)) = some v1 ∧ RP w v0 v1 p := fun i hi => by
      obtain ⟨cs', g1, g2⟩ := hx i hi
      obtain ⟨_, hlen, hg⟩ := World.cells?_some g1
      match cs', hlen with
      | [c0, c1], _ =>
        obtain ⟨p, hp⟩ := open_patch_at (c0 := c0) (c1 := c1) hs h0 k0 h1 k1 he hc o0 o1 g2
        have e0 := hg 0 (by omega)
        have e1 := hg 1 (by omega)
        rw [add_of_add] at e0 e1
        exact ⟨p, c0, c1, by simpa using e0, by simpa using e1, hp⟩
    obtain ⟨B, hB⟩ := Go.Deep.choose_lt (α := Pt) (p := fun i p => ∃ v0 v1, w.cell? (a.add (i * 2)) = some v0 ∧ w.cell? (a.add (i * 2 + 1)) = some v1 ∧ RP w v0 v1 p) hall
    refine ⟨some a, n, c, (List.range n).map B, rfl, by simp, hl, hm, fun j hj => ?_⟩
    have hj' : j < n := by simpa using hj
    obtain ⟨v0, v1, g0, g1, hp⟩ := hB j (by omega)
    exact ⟨a, v0, v1, rfl, g0, g1, by simpa using hp⟩
end

end Go.Proofs.YtkakihbfhmiabaaGreat

/-
  Structs of two numbers and a byte that came in, and slices of these; a struct of one-cell fields that is loaded. Plain; no program is named here.
-/
namespace Go.Proofs.YtkakihbfhmiabaaGreat
open Go.ChangeShapes Go.WideShapes Go.ChangeAt Go.RowKit

/-- Two numbers and a byte. -/
structure St3 where
  do_ : Int
  no : Int
  b : UInt8
instance : Inhabited St3 := ⟨⟨0, 0, 0⟩⟩
/-- Three cells that read as such. -/
structure R3 (v0 v1 v2 : Value) (s : St3) : Prop where
  e0 : v0 = .int .i64 s.do_
  e1 : v1 = .int .i64 s.no
  e2 : v2 = .int .u8 (s.b.toNat : Int)
  lo0 : -9223372036854775808 ≤ s.do_
  hi0 : s.do_ < 9223372036854775808
  lo1 : -9223372036854775808 ≤ s.no
  hi1 : s.no < 9223372036854775808
/-- A slice with this address reads as these. -/
def R3L (w : World) (A : Option Addr) (l : List St3) : Prop :=
  ∀ k (h : k < l.length), ∃ ad v0 v1 v2, A = some ad ∧ w.cell? (ad.add (k * 3)) = some v0 ∧ w.cell? (ad.add (k * 3 + 1)) = some v1 ∧ w.cell? (ad.add (k * 3 + 2)) = some v2 ∧ R3 v0 v1 v2 l[k]
theorem R3L.below {w w' : World} {A : Option Addr} {l : List St3} (h : R3L w A l) (hb : Below w.heap.size w w') : R3L w' A l := fun k hk => by
  obtain ⟨ad, v0, v1, v2, e, h0, h1, h2, hp⟩ := h k hk
  exact ⟨ad, v0, v1, v2, e, by rw [hb.cell (block_lt_of_cell h0), h0], by rw [hb.cell (block_lt_of_cell h1), h1], by rw [hb.cell (block_lt_of_cell h2), h2], hp⟩

section
variable {H : Type} {enc : TypeId × Value → H} {P : Program}
theorem open_step_at {w : World} {base fuel : Nat} {s : TypeId} {f0 f1 f2 : Field} {spare : Nat → Bool} {held : Bool} {c0 c1 c2 : Value} {x : DataW H × List MemPlace}
    (hs : P.underlying s = some (.struct #[f0, f1, f2])) (h0 : P.underlying f0.type = some (.int .i64)) (k0 : P.cellsOf f0.type = 1) (h1 : P.underlying f1.type = some (.int .i64)) (k1 : P.cellsOf f1.type = 1) (h2 : P.underlying f2.type = some (.int .u8)) (k2 : P.cellsOf f2.type = 1)
    (o0 : f0.offset = 0) (o1 : f1.offset = 1) (o2 : f2.offset = 2)
    (h : DataW.trod enc P w base spare held fuel s [c0, c1, c2] = some x) : ∃ p, R3 c0 c1 c2 p := by
  obtain ⟨y0, y1, y2, n, hx, _, g0, g1, g2⟩ := Go.Deep.trod_struct3 hs h
  rw [o0, k0] at g0
  rw [o1, k1] at g1
  rw [o2, k2] at g2
  simp at g0 g1 g2
  obtain ⟨z0, e0, -, w0⟩ := DataW.trod_int h0 g0
  obtain ⟨z1, e1, -, w1⟩ := DataW.trod_int h1 g1
  obtain ⟨z2, e2, -, w2⟩ := DataW.trod_int h2 g2
  simp at e0 e1 e2
  subst e0; subst e1; subst e2
  have b0 := bounds_i64 w0
  have b1 := bounds_i64 w1
  have b2 := bounds_u8 w2
  refine ⟨⟨z0, z1, UInt8.ofNat z2.toNat⟩, rfl, rfl, ?_, b0.1, ?_, b1.1, ?_⟩
  · congr 1
    simp
    omega
  · show z0 < _; omega
  · show z1 < _; omega
/-- A slice of such structs. -/
theorem open_steps {w : World} {base : Nat} {r : Reach} {b0 : Nat} {t s : TypeId} {f0 f1 f2 : Field} {v : Value} {d : DataW H} {ps : List MemPlace} {held : Bool} (ht : P.underlying t = some (.slice s))
    (hs : P.underlying s = some (.struct #[f0, f1, f2])) (hC : P.cellsOf s = 3) (h0 : P.underlying f0.type = some (.int .i64)) (k0 : P.cellsOf f0.type = 1) (h1 : P.underlying f1.type = some (.int .i64)) (k1 : P.cellsOf f1.type = 1) (h2 : P.underlying f2.type = some (.int .u8)) (k2 : P.cellsOf f2.type = 1)
    (o0 : f0.offset = 0) (o1 : f1.offset = 1) (o2 : f2.offset = 2) (hv : Value.okWide P w r b0 t v) (h : DataW.Trod enc P w base (fun _ => true) held t v d ps) :
    ∃ (A : Option Addr) (n c : Nat) (l : List St3), v = .slice A n c ∧ l.length = n ∧ n ≤ c ∧ c ≤ maxLen ∧ R3L w A l := by
  obtain ⟨a0, n, c, rfl⟩ := okWide_slice ht hv
  obtain ⟨fuel, hf⟩ := h
  rcases Go.Deep.open_slice ht hf with ⟨hcs, _⟩ | ⟨a, n', c', m, k, D, Pl, hcs, _, hl, hm, hmm, _, hx⟩
  · simp [Value.cells] at hcs
    obtain ⟨rfl, rfl, rfl⟩ := hcs
    exact ⟨none, 0, 0, [], rfl, rfl, by omega, by unfold maxLen; omega, fun k hk => absurd hk (by simp)⟩
  · simp only [if_true] at hmm
    simp [Value.cells] at hcs
    obtain ⟨rfl, rfl, rfl⟩ := hcs
    rw [hC] at hx
    have hall : ∀ i, i < m → ∃ p : St3, ∃ v0 v1 v2, w.cell? (a.add (i * 3)) = some v0 ∧ w.cell? (a.add (i * 3 + 1)) = some v1 ∧ w.cell? (a.add (i * 3 + 2)) = some v2 ∧ R3 v0 v1 v2 p := fun i hi => by
      obtain ⟨cs', g1, g2⟩ := hx i hi
      obtain ⟨_, hlen, hg⟩ := World.cells?_some g1
      match cs', hlen with
      | [c0, c1, c2], _ =>
        obtain ⟨p, hp⟩ := open_step_at (c0 := c0) (c1 := c1) (c2 := c2) hs h0 k0 h1 k1 h2 k2 o0 o1 o2 g2
        have e0 := hg 0 (by omega)
        have e1 := hg 1 (by omega)
        have e2 := hg 2 (by omega)
        rw [add_of_add] at e0 e1 e2
        exact ⟨p, c0, c1, c2, by simpa using e0, by simpa using e1, by simpa using e2, hp⟩
    obtain ⟨B, hB⟩ := Go.Deep.choose_lt (α := St3) (p := fun i p => ∃ v0 v1 v2, w.cell? (a.add (i * 3)) = some v0 ∧ w.cell? (a.add (i * 3 + 1)) = some v1 ∧ w.cell? (a.add (i * 3 + 2)) = some v2 ∧ R3 v0 v1 v2 p) hall
    refine ⟨some a, n, c, (List.range n).map B, rfl, by simp, hl, hm, fun j hj => ?_⟩
    have hj' : j < n := by simpa using hj
    obtain ⟨v0, v1, v2, g0, g1, g2, hp⟩ := hB j (by omega)
    exact ⟨a, v0, v1, v2, rfl, g0, g1, g2, by simpa using hp⟩
end

section
variable {P : Program} {ops : Array Oper} {rest : List Oper} {o : Oper} {a : Act} {w : World} {K : Act → World → Prop} {Q : Exit → Act → World → Prop}
/-- A struct of one-cell fields, loaded from anywhere: its cells, in order. -/
theorem run_loadVar_cells (P : Program) (w : World) (t : TypeId) (fs : Array Field) (hu : P.underlying t = some (.struct fs)) (cs : List Value) (hi : (P.info? t).map (·.size) = some cs.length) (ad : Addr) (h : ∀ j v, cs[j]? = some v → w.cell? (ad.add j) = some v) : (loadVar t ad).run P w = .ok (.agg cs.toArray) w := by
  have hl := run_loadCells_list (P := P) w ad cs h
  obtain ⟨i, hq, hs⟩ := Option.map_eq_some_iff.1 hi
  have hagg : (isAgg t).run P w = .ok true w := by
    unfold isAgg
    rw [Sem.run_bind, run_underlying hu w]
    simp
  simp [loadVar, Sem.run_bind, hagg, sizeOf, typeInfo, hq, hs, hl]
theorem exec_load_cells {o : Oper} (t : TypeId) (x : Operand) (ho : o.op = .load t x) (ad : Addr) (hx : a.eval x = .pointer (some ad)) (fs : Array Field) (hu : P.underlying t = some (.struct fs)) (cs : List Value) (hi : (P.info? t).map (·.size) = some cs.length) (h : ∀ j v, cs[j]? = some v → w.cell? (ad.add j) = some v) :
    (execOp a.eval o).run P w = .ok (.value (.agg cs.toArray)) w := by
  unfold execOp
  simp only [ho, hx, Instr.loadAt, Instr.sureAddr, Sem.run_bind, Sem.run_pure, Result.andThen_ok, run_loadVar_cells P w t fs hu cs hi ad h]
theorem wpList_load_cells (hgd : Region.wanted o (yielded ops a.tmps) = true) (t : TypeId) (x : Operand) (ho : o.op = .load t x) (ad : Addr) (hx : a.eval x = .pointer (some ad)) (fs : Array Field) (hu : P.underlying t = some (.struct fs)) (cs : List Value) (hi : (P.info? t).map (·.size) = some cs.length) (hc : ∀ j v, cs[j]? = some v → w.cell? (ad.add j) = some v)
    (h : wpList P ops Q rest (a.put o.dst (.agg cs.toArray)) w) : wpList P ops Q (o :: rest) a w := by
  refine wpList_wanted hgd fun K hK => ?_
  unfold Oper.wp
  rw [exec_load_cells t x ho ad hx fs hu cs hi hc]
  exact hK _ _ h
end

end Go.Proofs.YtkakihbfhmiabaaGreat

/-
  A slice of blocks of 256 bytes that came in as an argument; a block of a row as a slice of bytes. Plain; no program is named here.
-/
namespace Go.Proofs.YtkakihbfhmiabaaGreat
open Go.ChangeShapes Go.WideShapes Go.ChangeAt Go.RowKit

section
variable {H : Type} {enc : TypeId × Value → H} {P : Program}
theorem open_block_at {w : World} {base fuel : Nat} {t e : TypeId} {n : Nat} {spare : Nat → Bool} {held : Bool} {cs : List Value} {x : DataW H × List MemPlace}
    (ht : P.underlying t = some (.array n e)) (he : P.underlying e = some (.int .u8)) (hc : P.cellsOf e = 1) (hct : P.cellsOf t = n)
    (h : DataW.trod enc P w base spare held fuel t cs = some x) : ∃ L : List UInt8, L.length = n ∧ ∀ i, i < n → cs[i]? = (L[i]?).map fun y => Value.int .u8 (y.toNat : Int) := by
  obtain ⟨xs, m, _, _, hlen, hxl, hg⟩ := DataW.trod_array ht h
  have hcl : cs.length = n := by simpa [hct] using hlen
  have key : ∀ i, i < n → ∃ y : UInt8, cs[i]? = some (.int .u8 (y.toNat : Int)) := fun i hi => by
    have h1 := hg i hi
    rw [hc, Nat.mul_one, List.drop_eq_getElem_cons (by omega)] at h1
    simp only [List.take_succ_cons, List.take_zero] at h1
    rw [List.getElem?_eq_getElem (by omega)] at h1
    obtain ⟨z, hz, _, hw⟩ := DataW.trod_int he h1
    have hb := bounds_u8 hw
    refine ⟨UInt8.ofNat z.toNat, ?_⟩
    rw [List.getElem?_eq_getElem (by omega)]
    simp at hz
    rw [hz]
    congr 2
    simp
    omega
  obtain ⟨B, hB⟩ := Go.Deep.choose_lt (α := UInt8) (p := fun i y => cs[i]? = some (.int .u8 (y.toNat : Int))) key
  refine ⟨(List.range n).map B, by simp, fun i hi => ?_⟩
  rw [hB i hi, List.getElem?_map, List.getElem?_range hi]
  rfl
/-- A slice of blocks. -/
theorem open_blocks {w : World} {base : Nat} {r : Reach} {b0 : Nat} {t s e : TypeId} {v : Value} {d : DataW H} {ps : List MemPlace} {held : Bool} (ht : P.underlying t = some (.slice s))
    (hs : P.underlying s = some (.array 256 e)) (he : P.underlying e = some (.int .u8)) (hc : P.cellsOf e = 1) (hct : P.cellsOf s = 256)
    (hv : Value.okWide P w r b0 t v) (h : DataW.Trod enc P w base (fun _ => true) held t v d ps) :
    ∃ (A : Option Addr) (n c : Nat) (L : List (List UInt8)), v = .slice A n c ∧ L.length = n ∧ n ≤ c ∧ c ≤ maxLen ∧ Bks L ∧ RK w A L := by
  obtain ⟨a0, n, c, rfl⟩ := okWide_slice ht hv
  obtain ⟨fuel, hf⟩ := h
  rcases Go.Deep.open_slice ht hf with ⟨hcs, _⟩ | ⟨a, n', c', m, k, D, Pl, hcs, _, hl, hm, hmm, _, hx⟩
  · simp [Value.cells] at hcs
    obtain ⟨rfl, rfl, rfl⟩ := hcs
    exact ⟨none, 0, 0, [], rfl, rfl, by omega, by unfold maxLen; omega, Bks.nil_, fun k hk => absurd hk (by simp)⟩
  · simp only [if_true] at hmm
    simp [Value.cells] at hcs
    obtain ⟨rfl, rfl, rfl⟩ := hcs
    rw [hct] at hx
    have hall : ∀ i, i < m → ∃ L : List UInt8, L.length = 256 ∧ ∀ j, j < 256 → w.cell? (a.add (i * 256 + j)) = (L[j]?).map fun y => Value.int .u8 (y.toNat : Int) := fun i hi => by
      obtain ⟨cs', g1, g2⟩ := hx i hi
      obtain ⟨_, hlen, hg⟩ := World.cells?_some g1
      obtain ⟨L, hL, hk⟩ := open_block_at hs he hc hct g2
      refine ⟨L, hL, fun j hj => ?_⟩
      have h0 := hg j (by omega)
      rw [add_of_add] at h0
      rw [h0, hk j hj]
    obtain ⟨B, hB⟩ := Go.Deep.choose_lt (α := List UInt8) (p := fun i L => L.length = 256 ∧ ∀ j, j < 256 → w.cell? (a.add (i * 256 + j)) = (L[j]?).map fun y => Value.int .u8 (y.toNat : Int)) hall
    refine ⟨some a, n, c, (List.range n).map B, rfl, by simp, hl, hm, fun x hx => ?_, fun j hj i hi => ?_⟩
    · obtain ⟨j, hj, rfl⟩ := List.mem_map.1 hx
      rw [List.mem_range] at hj
      exact (hB j (by omega)).1
    · have hj' : j < n := by simpa using hj
      obtain ⟨h1, h2⟩ := hB j (by omega)
      have e : ((List.range n).map B)[j] = B j := by simp
      rw [e]
      have hil : i < (B j).length := by omega
      refine ⟨a, (B j)[i], rfl, List.getElem?_eq_getElem hil, ?_⟩
      rw [h2 i hi, List.getElem?_eq_getElem hil]
      rfl
end

section
variable {P : Program} {ops : Array Oper} {rest : List Oper} {o : Oper} {a : Act} {w : World} {Q : Exit → Act → World → Prop}
theorem add_nought (ad : Addr) : ad.add 0 = ad := by unfold Addr.add; rw [if_pos rfl]
/-- All of an array, wherever it lies. -/
theorem exec_slice_ad {o : Oper} (t : TypeId) (x : Operand) (ho : o.op = .slice t x none none none) (N e : Nat) (hu : P.underlying t = some (.array N e)) (hs : (P.info? e).map (·.size) = some 1)
    (ad : Addr) (hx : a.eval x = .pointer (some ad)) : (execOp a.eval o).run P w = .ok (.value (.slice (some ad) N N)) w := by
  obtain ⟨i, hi, hiz⟩ := Option.map_eq_some_iff.1 hs
  have hr : (Instr.sliceAt t (.pointer (some ad)) none none none).run P w = .ok (.slice (some ad) N N) w := by
    simp [Instr.sliceAt, Instr.sureAddr, run_underlying hu, Instr.sliceBounds, sizeOf, typeInfo, hi, Addr.add]
  unfold execOp
  simp only [ho, Sem.run_bind, Sem.run_pure, Result.andThen_ok, Option.map_none, hx, hr]
theorem wpList_slice_ad (hgd : Region.wanted o (yielded ops a.tmps) = true) (t : TypeId) (x : Operand) (ho : o.op = .slice t x none none none) (N e : Nat) (hu : P.underlying t = some (.array N e)) (hs : (P.info? e).map (·.size) = some 1)
    (ad : Addr) (hx : a.eval x = .pointer (some ad)) (hk : wpList P ops Q rest (a.put o.dst (.slice (some ad) N N)) w) : wpList P ops Q (o :: rest) a w := by
  refine wpList_wanted hgd fun K hK => ?_
  unfold Oper.wp
  rw [exec_slice_ad t x ho N e hu hs ad hx]
  exact hK _ _ hk
/-- A slice of one block. -/
theorem wpList_build_bk (hgd : Region.wanted o (yielded ops a.tmps) = true) (t e : TypeId) (x : Operand) (ho : o.op = .buildSlice t 1 #[(0, x)]) (ht : P.underlying t = some (.slice e)) (hi : (P.info? e).map (fun i => (i.zero, i.size, i.bytes)) = some (some (.agg (bcells (zeros 256))), 256, 256))
    (d : List UInt8) (hd : d.length = 256) (hx : a.eval x = .agg (bcells d))
    (h : Stop (∀ w', Hid (Grew w w') → Hid (Blk w' w.heap.size e (bcells d)) → wpList P ops Q rest (a.put o.dst (.slice (some ⟨w.heap.size, 0, none⟩) 1 1)) w')) : wpList P ops Q (o :: rest) a w := by
  refine wpList_wanted hgd fun K hK => ?_
  obtain ⟨i, h1, h2, h3, h4⟩ := info_parts hi
  have hsz : ((Array.range 256).map ((Value.agg (bcells (zeros 256))).cells[· % (Value.agg (bcells (zeros 256))).cells.size]!)).size = 256 := by rw [Array.size_map, Array.size_range]
  have hf : Instr.fill (fun j => some (j * 256, 256)) ((Array.range 256).map ((Value.agg (bcells (zeros 256))).cells[· % (Value.agg (bcells (zeros 256))).cells.size]!)) [(0, .agg (bcells d))] = some (bcells d) := by
    generalize (Array.range 256).map ((Value.agg (bcells (zeros 256))).cells[· % (Value.agg (bcells (zeros 256))).cells.size]!) = cs at hsz
    have hw := Go.Great.fill_whole (s := 256) (by decide) [.agg (bcells d)] cs (fun v hv => by
      rw [List.mem_singleton] at hv
      subst hv
      exact (bcells_size d).trans hd) (by rw [hsz, List.length_singleton, Nat.one_mul])
    have e1 : (([.agg (bcells d)] : List Value).flatMap fun v => v.cells.toList).toArray = bcells d := by
      rw [List.flatMap_cons, List.flatMap_nil, List.append_nil]
      exact Array.toArray_toList
    rw [e1] at hw
    exact hw
  have hr := run_buildSlice (P := P) w t e 1 #[(0, .agg (bcells d))] (bcells d) i (.agg (bcells (zeros 256))) ht h1 h2 (by omega) (by omega) (by rw [h3]; exact hf)
  unfold Oper.wp execOp
  simp only [ho, hx, Sem.run_bind, List.map_toArray, List.map_cons, List.map_nil, hr, Result.andThen_ok]
  exact hK _ _ (h _ (Grew.alloc w _) (Blk.new w e _))
/-- make of n blocks of noughts, named. -/
theorem wpList_make_bkL (hgd : Region.wanted o (yielded ops a.tmps) = true) (lo co : Operand) (t e : TypeId) (ho : o.op = .makeSlice t lo co) (ht : P.underlying t = some (.slice e)) (hi : (P.info? e).map (fun i => (i.zero, i.size, i.bytes)) = some (some (.agg (bcells (zeros 256))), 256, 256))
    (kl kc : IntKind) (X C : Int) (n : Nat) (hl : a.eval lo = .int kl X) (hc : a.eval co = .int kc C) (hX : X = n) (hC : C = n) (hn : n ≤ 1099511627776) (L : List (List UInt8)) (hL : List.replicate n (zeros 256) = L)
    (h : Stop (∀ w', Hid (Grew w w') → Hid (Blk w' w.heap.size e (bcells L.flatten)) → wpList P ops Q rest (a.put o.dst (.slice (some ⟨w.heap.size, 0, none⟩) n n)) w')) : wpList P ops Q (o :: rest) a w := by
  subst hL
  exact wpList_make_bk hgd lo co t e ho ht hi kl kc X C n hl hc hX hC hn h
end
/-- A block of a row as bytes. -/
theorem RK.at_ {w : World} {ad : Addr} {L : List (List UInt8)} (h : RK w (some ad) L) (hL : Bks L) {k : Nat} (hk : k < L.length) : RB w (some (ad.add (k * 256))) L[k] := fun i hi => by
  have h256 : L[k].length = 256 := hL.get hk
  obtain ⟨ad', x, e, hx, hc⟩ := h k hk i (by omega)
  injection e with e
  subst e
  rw [List.getElem?_eq_getElem hi] at hx
  injection hx with hx
  refine ⟨_, rfl, ?_⟩
  rw [add_of_add, hc, ← hx]
theorem OwnK.low {w : World} {B B' : Nat} {e : TypeId} {v : Value} {L : List (List UInt8)} (h : OwnK w B e v L) (hb : B' ≤ B) : OwnK w B' e v L := by
  obtain ⟨hL, hl, h | ⟨g, cap, cur, hv, hbg, h⟩⟩ := h
  · exact ⟨hL, hl, Or.inl h⟩
  · exact ⟨hL, hl, Or.inr ⟨g, cap, cur, hv, by omega, h⟩⟩
theorem RK.addr {w : World} {A : Option Addr} {L : List (List UInt8)} (h : RK w A L) (hl : 0 < L.length) : ∃ ad, A = some ad := by
  obtain ⟨ad, _, e, _⟩ := h 0 hl 0 (by omega)
  exact ⟨ad, e⟩

end Go.Proofs.YtkakihbfhmiabaaGreat
