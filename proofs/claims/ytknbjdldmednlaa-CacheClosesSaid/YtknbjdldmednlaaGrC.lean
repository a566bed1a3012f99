/-
  Texts of this claim joined: Row, Open, OpenP, Arr.
-/
import Derived.Test.YtknbjdldmednlaaRows
import Derived.Test.YtknbjdldmednlaaGrA
import Derived.ProofKit
import Derived.Carry
import Derived.OpenShut
import Derived.ChangeSame
import Derived.SizedLaws
import Derived.Test.YtknbjdldmednlaaGrB
import Derived.Lib.SmallJoins
import Derived.Deep.Slices
import Derived.Laws.CopyRow
import Derived.Laws.IdiomStrings

/-
  The step from a walk to a row, for laws: whatever the arguments are that can be read, the call answers true and leaves what was there.
-/
namespace Go.Proofs.Ytknbjdldmednlaa
open Go.ChangeShapes Go.WideShapes Go.ChangeAt Go.RowKit

theorem Try.own : ownKnob Try.prog.godebug = none := by kernel_rfl
theorem Try.laidOut : laidOutB Try.prog = true := by kernel_rfl

section
variable {H : Type} {enc : TypeId × Value → H} {P : Program}

theorem trodAll_below (hl : laidOutB P = true) {W W' : World} (hb : Below W.heap.size W W') {sp : Nat → Bool} : ∀ {ts : List TypeId} {vs : List Value} {ds : List (DataW H)} {ps : List MemPlace},
    (∀ t ∈ ts, P.readableRec t = true ∧ t < P.types.size) → DataW.TrodAll enc P W 0 (fun _ => true) true ts vs ds ps → (∀ p ∈ ps, p.block < W.heap.size) → (∀ p ∈ ps, sp p.block = true) → DataW.TrodAll enc P W' 0 sp true ts vs ds ps := by
  intro ts
  induction ts with
  | nil =>
    intro vs ds ps _ h _ _
    obtain ⟨rfl, rfl, rfl⟩ := trodAll_nil h
    exact trodAll_mk0
  | cons t ts ih =>
    intro vs ds ps hts h hlt hsp
    obtain ⟨v, vs', d, ds', p, q, rfl, rfl, rfl, hd, hrest⟩ := trodAll_cons h
    refine trodAll_cons_mk (WideElems.Trod_stays hl (hts t (by simp)).1 (hts t (by simp)).2 hd (fun x hx => hb.same (hlt x (by simp [hx]))) (fun x hx => hsp x (by simp [hx]))) ?_
    exact ih (fun u hu => hts u (by simp [hu])) hrest (fun x hx => hlt x (by simp [hx])) (fun x hx => hsp x (by simp [hx]))

theorem law_post {f : Func} {s : ChangeSpec} {apart fresh handsOn again : Bool} {W W' : World} {args : Array Value} {ds gs : List (DataW H)} {before : List MemPlace} {tb : TypeId}
    (hl : laidOutB P = true) (hts : ∀ t ∈ f.params.toList, P.readableRec t = true ∧ t < P.types.size) (hvars : s.vars = []) (hr : f.resultTypes = #[tb]) (hbt : P.underlying tb = some .bool)
    (hfn : s.fn H (ds ++ gs) = { results := [.lit (.bool true)], args := ds })
    (hW : DataW.Whole enc P f.params.toList s.vars apart W args.toList ds gs before) (hb : Below W.heap.size W W') : s.post enc P f apart fresh handsOn again W args (.bool true) W' := by
  have hW' := hW
  obtain ⟨pa, pv, hA, hV, rfl, hz, hn⟩ := hW
  have hV' := hV
  rw [hvars] at hV'
  obtain ⟨rfl, rfl⟩ := trodVars_none hV'
  have hlt : ∀ p ∈ pa ++ [], p.block < W.heap.size := fun p hp => hW'.lt p hp
  have hold : ∀ p ∈ pa ++ [], (fun b => decide (b < W.heap.size)) p.block = true := fun p hp => by simpa using hlt p hp
  have hargs : ∀ sp : Nat → Bool, (∀ p ∈ pa ++ [], sp p.block = true) → DataW.TrodAll enc P W' 0 sp true f.params.toList args.toList (s.fn H (ds ++ [])).args pa := fun sp hsp => by
    rw [hfn]
    exact trodAll_below hl hb hts hA (fun p hp => hlt p (by simpa using hp)) (fun p hp => hsp p (by simpa using hp))
  have hres : ∀ (b : Nat) (sp : Nat → Bool) (hd : Bool), DataW.TrodAll enc P W' b sp hd f.resultTypes.toList ((Value.bool true).resultList f.resultTypes.size) (s.fn H (ds ++ [])).results [] := fun b sp hd => by
    rw [hfn, hr]
    exact trodAll_mk1 (shut_bool hbt true)
  have hvs : ∀ sp : Nat → Bool, (∀ p ∈ pa ++ [], sp p.block = true) → DataW.TrodVars enc P W' sp s.vars (s.fn H (ds ++ [])).vars [] := fun sp _ => by
    rw [hfn, hvars]
    rfl
  refine ⟨ds, [], pa ++ [], [], pa, [], hW', hres _ _ _, hargs _ hold, hvs _ hold, World.keptBut_mono (fun p hp => ⟨hp, ?_⟩) (hb.frame (· ∈ pa ++ [])), fun _ => ?_⟩
  · exact Or.inr (by simpa using hp)
  · refine ⟨ok_one hr rfl (okWide_bool_mk hbt true), _, _, ([] ++ pa) ++ [], ⟨[] ++ pa, [], trodAll_append (hargs _ (fun _ _ => rfl)) (hres _ _ _), hvs _ (fun _ _ => rfl), rfl, ?_, ?_⟩, ?_⟩
    · intro b off hp
      have hin : MemPlace.cell b off ∈ pa ++ [] := by simpa using hp
      rw [hb.frozen (hlt _ hin)]
      exact hz b off hin
    · intro ha
      simpa using hn ha
    · intro p hp _
      simpa using hp

/-- A slice of bytes that came in, and what its datum is. -/
theorem open_bytes_at {w : World} {base fuel : Nat} {t e : TypeId} {cs : List Value} {x : DataW H × List MemPlace} {spare : Nat → Bool} {held : Bool} (ht : P.underlying t = some (.slice e)) (he : P.underlying e = some (.int .u8)) (hc : P.cellsOf e = 1)
    (hf : DataW.trod enc P w base spare held fuel t cs = some x) :
    ∃ (A : Option Addr) (n c : Nat) (l : List UInt8), cs = [.slice A n c] ∧ l.length = n ∧ n ≤ c ∧ c ≤ maxLen ∧ RB w A l ∧ ((x.1 = .nil ∧ n = 0) ∨ ∃ es sp, x.1 = .slice es sp ∧ es.length = n) := by
  rcases open_ints ht he hc hf with ⟨hcs, hx⟩ | ⟨a, n, c, zs, hcs, _, hl, hm, hz, hx, hcell, hw⟩
  · exact ⟨none, 0, 0, [], hcs, rfl, by omega, by unfold maxLen; omega, RB.nil_ _ _, Or.inl ⟨by rw [hx], rfl⟩⟩
  · have hnz : n ≤ zs.length := by rw [hz]; split <;> omega
    refine ⟨some a, n, c, (zs.take n).map fun z => UInt8.ofNat z.toNat, hcs, by simp; omega, hl, hm, fun k hk => ?_, Or.inr ⟨_, _, by rw [hx], by simp [lits]; omega⟩⟩
    have hk' : k < n := by simp at hk; omega
    refine ⟨a, rfl, ?_⟩
    have hkz : k < zs.length := by omega
    rw [hcell k hkz]
    have hwk := hw zs[k] (List.getElem_mem hkz)
    have hb := bounds_u8 hwk
    have e1 : zs.getD k 0 = zs[k] := by simp [List.getD, hkz]
    rw [e1]
    congr 2
    simp
    omega
theorem open_bytes {w : World} {base : Nat} {r : Reach} {b0 : Nat} {t e : TypeId} {v : Value} {d : DataW H} {ps : List MemPlace} {spare : Nat → Bool} {held : Bool} (ht : P.underlying t = some (.slice e)) (he : P.underlying e = some (.int .u8)) (hc : P.cellsOf e = 1)
    (hv : Value.okWide P w r b0 t v) (h : DataW.Trod enc P w base spare held t v d ps) :
    ∃ (A : Option Addr) (n c : Nat) (l : List UInt8), v = .slice A n c ∧ l.length = n ∧ n ≤ c ∧ c ≤ maxLen ∧ RB w A l := by
  obtain ⟨a0, n, c, rfl⟩ := okWide_slice ht hv
  obtain ⟨fuel, hf⟩ := h
  obtain ⟨A, n', c', l, hcs, h1, h2, h3, h4, _⟩ := open_bytes_at ht he hc hf
  simp [Value.cells] at hcs
  obtain ⟨rfl, rfl, rfl⟩ := hcs
  exact ⟨_, _, _, l, rfl, h1, h2, h3, h4⟩
/-- An array of two slices of bytes. -/
theorem open_bytes2 {w : World} {base : Nat} {r : Reach} {b0 : Nat} {t s e : TypeId} {v : Value} {d : DataW H} {ps : List MemPlace} {spare : Nat → Bool} {held : Bool} (ht : P.underlying t = some (.array 2 s)) (hs : P.underlying s = some (.slice e)) (he : P.underlying e = some (.int .u8)) (hc : P.cellsOf e = 1) (hcs : P.cellsOf s = 1) (hct : P.cellsOf t = 2)
    (hv : Value.okWide P w r b0 t v) (h : DataW.Trod enc P w base spare held t v d ps) :
    ∃ (A0 : Option Addr) (n0 c0 : Nat) (l0 : List UInt8) (A1 : Option Addr) (n1 c1 : Nat) (l1 : List UInt8) (x0 x1 : DataW H), v = .agg #[.slice A0 n0 c0, .slice A1 n1 c1] ∧ d = .agg [x0, x1] ∧
      (l0.length = n0 ∧ n0 ≤ c0 ∧ c0 ≤ maxLen ∧ RB w A0 l0 ∧ ((x0 = .nil ∧ n0 = 0) ∨ ∃ es sp, x0 = .slice es sp ∧ es.length = n0)) ∧
      (l1.length = n1 ∧ n1 ≤ c1 ∧ c1 ≤ maxLen ∧ RB w A1 l1 ∧ ((x1 = .nil ∧ n1 = 0) ∨ ∃ es sp, x1 = .slice es sp ∧ es.length = n1)) := by
  unfold Value.okWide at hv
  rw [ht] at hv
  obtain ⟨cs, rfl, hsz, _⟩ := hv
  rw [hct] at hsz
  obtain ⟨fuel, hf⟩ := h
  obtain ⟨xs, m, _, hx, hlen, hxl, hg⟩ := DataW.trod_array ht hf
  obtain ⟨l⟩ := cs
  match l, hsz with
  | [u0, u1], _ =>
  match xs, hxl with
  | [y0, y1], _ =>
    have g0 := hg 0 (by omega)
    have g1 := hg 1 (by omega)
    rw [hcs] at g0 g1
    simp [Value.cells] at g0 g1
    obtain ⟨A0, n0, c0, l0, e0, h0⟩ := open_bytes_at hs he hc g0
    obtain ⟨A1, n1, c1, l1, e1, h1⟩ := open_bytes_at hs he hc g1
    simp at e0 e1
    subst e0; subst e1
    simp only [Prod.mk.injEq] at hx
    exact ⟨A0, n0, c0, l0, A1, n1, c1, l1, y0.1, y1.1, rfl, hx.1, h0, h1⟩

/-- An array of integers, by value. -/
theorem open_int_array {w : World} {base : Nat} {r : Reach} {b0 : Nat} {t e : TypeId} {n : Nat} {k : IntKind} {v : Value} {d : DataW H} {ps : List MemPlace} {spare : Nat → Bool} {held : Bool} (ht : P.underlying t = some (.array n e)) (he : P.underlying e = some (.int k)) (hc : P.cellsOf e = 1) (hct : P.cellsOf t = n)
    (hv : Value.okWide P w r b0 t v) (h : DataW.Trod enc P w base spare held t v d ps) :
    ∃ zs : List Int, v = .agg (zs.map (Value.int k)).toArray ∧ zs.length = n ∧ ∀ z ∈ zs, (Lit.int k z).wf = true := by
  unfold Value.okWide at hv
  rw [ht] at hv
  obtain ⟨cs, rfl, hsz, _⟩ := hv
  obtain ⟨fuel, hf⟩ := h
  obtain ⟨xs, m, _, _, hlen, hxl, hg⟩ := DataW.trod_array ht hf
  have hcl : cs.toList.length = n := by simpa [Value.cells, hct] using hlen
  have key : ∀ i (hi : i < n), ∃ z, cs.toList[i]'(by omega) = .int k z ∧ (Lit.int k z).wf = true := by
    intro i hi
    have h1 := hg i hi
    rw [hc, Nat.mul_one] at h1
    have e1 : ((Value.agg cs).cells.toList.drop i).take 1 = [cs.toList[i]'(by omega)] := by
      show ((cs.toList).drop i).take 1 = _
      rw [List.drop_eq_getElem_cons (by omega)]
      rfl
    rw [e1, List.getElem?_eq_getElem (by omega)] at h1
    obtain ⟨z, hz, _, hw⟩ := DataW.trod_int he h1
    simp at hz
    exact ⟨z, by simpa using hz, hw⟩
  have hint : ∀ v ∈ cs.toList, ∃ z, v = .int k z ∧ (Lit.int k z).wf = true := by
    intro v hv
    obtain ⟨i, hi, rfl⟩ := List.getElem_of_mem hv
    exact key i (by omega)
  have hmap : ∀ (l : List Value), (∀ v ∈ l, ∃ z, v = .int k z ∧ (Lit.int k z).wf = true) → ∃ zs : List Int, l = zs.map (Value.int k) ∧ ∀ z ∈ zs, (Lit.int k z).wf = true := by
    intro l
    induction l with
    | nil => intro _; exact ⟨[], rfl, by simp⟩
    | cons v l ih =>
      intro hl
      obtain ⟨z, rfl, hw⟩ := hl v (by simp)
      obtain ⟨zs, rfl, hws⟩ := ih (fun u hu => hl u (by simp [hu]))
      exact ⟨z :: zs, rfl, by simpa using ⟨hw, hws⟩⟩
  obtain ⟨zs, hzs, hw⟩ := hmap _ hint
  refine ⟨zs, ?_, by rw [← hcl, hzs]; simp, hw⟩
  congr 1
  rw [← hzs]
end

theorem bcells_of_ints (zs : List Int) (hw : ∀ z ∈ zs, (Lit.int .u8 z).wf = true) : (zs.map (Value.int .u8)).toArray = bcells (zs.map fun z => UInt8.ofNat z.toNat) := by
  unfold bcells
  congr 1
  rw [List.map_map]
  apply List.map_congr_left
  intro z hz
  have hb := bounds_u8 (hw z hz)
  simp only [Function.comp_apply]
  congr 1
  simp
  omega
/-- An array of bytes, by value. -/
theorem open_byte_array {H : Type} {enc : TypeId × Value → H} {P : Program} {w : World} {base : Nat} {r : Reach} {b0 : Nat} {t e : TypeId} {n : Nat} {v : Value} {d : DataW H} {ps : List MemPlace} {spare : Nat → Bool} {held : Bool} (ht : P.underlying t = some (.array n e)) (he : P.underlying e = some (.int .u8)) (hc : P.cellsOf e = 1) (hct : P.cellsOf t = n)
    (hv : Value.okWide P w r b0 t v) (h : DataW.Trod enc P w base spare held t v d ps) : ∃ L : List UInt8, v = .agg (bcells L) ∧ L.length = n := by
  obtain ⟨zs, rfl, hz, hw⟩ := open_int_array ht he hc hct hv h
  exact ⟨_, by rw [bcells_of_ints zs hw], by simpa using hz⟩
theorem list_two {α : Type} {l : List α} (h : l.length = 2) : ∃ a b, l = [a, b] := by
  match l, h with
  | [a, b], _ => exact ⟨a, b, rfl⟩
theorem list_three {α : Type} {l : List α} (h : l.length = 3) : ∃ a b c, l = [a, b, c] := by
  match l, h with
  | [a, b, c], _ => exact ⟨a, b, c, rfl⟩

end Go.Proofs.Ytknbjdldmednlaa

/-
  What a row asks of the parameters' types, whatever their number; a list of texts that came in.
-/
namespace Go.Proofs.Ytknbjdldmednlaa
open Go.ChangeShapes Go.WideShapes Go.ChangeAt Go.RowKit

theorem readable_all {P : Program} {f : Func} (h : (f.params.toList.all fun t => P.readableRec t && decide (t < P.types.size)) = true) : ∀ t ∈ f.params.toList, P.readableRec t = true ∧ t < P.types.size := fun t ht => by
  have := List.all_eq_true.1 h t ht
  simpa using this

section
variable {H : Type} {enc : TypeId × Value → H} {P : Program}
/-- A slice of texts that came in. -/
theorem open_texts {w : World} {base : Nat} {r : Reach} {b0 : Nat} {t e : TypeId} {v : Value} {d : DataW H} {ps : List MemPlace} {spare : Nat → Bool} {held : Bool} (ht : P.underlying t = some (.slice e)) (he : P.underlying e = some .string) (hc : P.cellsOf e = 1)
    (hv : Value.okWide P w r b0 t v) (h : DataW.Trod enc P w base spare held t v d ps) :
    ∃ (A : Option Addr) (n c : Nat) (l : List ByteArray), v = .slice A n c ∧ l.length = n ∧ n ≤ c ∧ c ≤ maxLen ∧ RC w A (svals l) ∧ ∀ s ∈ l, s.size ≤ maxLen := by
  obtain ⟨a0, n, c, rfl⟩ := okWide_slice ht hv
  obtain ⟨fuel, hf⟩ := h
  rcases open_strings ht he hc hf with ⟨hcs, _⟩ | ⟨a, n', c', ss, hcs, _, hl, hm, hlen, _, hcell, hs⟩
  · simp [Value.cells] at hcs
    obtain ⟨rfl, rfl, rfl⟩ := hcs
    exact ⟨none, 0, 0, [], rfl, rfl, by omega, by unfold maxLen; omega, RC.nil_ _ _, by simp⟩
  · simp [Value.cells] at hcs
    obtain ⟨rfl, rfl, rfl⟩ := hcs
    have hnl : n ≤ ss.length := by rw [hlen]; split <;> omega
    refine ⟨some a, n, c, ss.take n, rfl, by simp; omega, hl, hm, fun k hk => ⟨a, rfl, ?_⟩, fun s h => hs s (List.mem_of_mem_take h)⟩
    have hk' : k < n := by simp [svals] at hk; omega
    rw [hcell k (by omega)]
    simp [svals, List.getD, show k < ss.length by omega]
end

end Go.Proofs.Ytknbjdldmednlaa

/-
  Structs of a number and a slice of bytes that came in, and slices of these. Plain; no program is named here.
-/
namespace Go.Proofs.Ytknbjdldmednlaa
open Go.ChangeShapes Go.WideShapes Go.ChangeAt Go.RowKit

/-- Two cells that read as a number and a slice of these bytes. -/
structure RP (w : World) (v0 v1 : Value) (p : Pt) : Prop where
  num : v0 = .int .i64 p.at_
  lo : -9223372036854775808 ≤ p.at_
  hi : p.at_ < 9223372036854775808
  bytes : ∃ A c, v1 = .slice A p.data.length c ∧ p.data.length ≤ c ∧ c ≤ maxLen ∧ RB w A p.data
theorem RP.below {w w' : World} {v0 v1 : Value} {p : Pt} (h : RP w v0 v1 p) (hb : Below w.heap.size w w') : RP w' v0 v1 p := by
  obtain ⟨A, c, e, h1, h2, h3⟩ := h.bytes
  exact ⟨h.num, h.lo, h.hi, A, c, e, h1, h2, h3.below hb⟩
/-- A slice with this address reads as these numbers and bytes. -/
def RPL (w : World) (A : Option Addr) (l : List Pt) : Prop :=
  ∀ k (h : k < l.length), ∃ ad v0 v1, A = some ad ∧ w.cell? (ad.add (k * 2)) = some v0 ∧ w.cell? (ad.add (k * 2 + 1)) = some v1 ∧ RP w v0 v1 l[k]
theorem RPL.below {w w' : World} {A : Option Addr} {l : List Pt} (h : RPL w A l) (hb : Below w.heap.size w w') : RPL w' A l := fun k hk => by
  obtain ⟨ad, v0, v1, e, h0, h1, hp⟩ := h k hk
  exact ⟨ad, v0, v1, e, by rw [hb.cell (block_lt_of_cell h0), h0], by rw [hb.cell (block_lt_of_cell h1), h1], hp.below hb⟩

section
variable {H : Type} {enc : TypeId × Value → H} {P : Program}
theorem open_patch_at {w : World} {base fuel : Nat} {s e : TypeId} {f0 f1 : Field} {spare : Nat → Bool} {held : Bool} {c0 c1 : Value} {x : DataW H × List MemPlace}
    (hs : P.underlying s = some (.struct #[f0, f1])) (h0 : P.underlying f0.type = some (.int .i64)) (k0 : P.cellsOf f0.type = 1) (h1 : P.underlying f1.type = some (.slice e)) (k1 : P.cellsOf f1.type = 1) (he : P.underlying e = some (.int .u8)) (hc : P.cellsOf e = 1)
    (o0 : f0.offset = 0) (o1 : f1.offset = 1)
    (h : DataW.trod enc P w base spare held fuel s [c0, c1] = some x) : ∃ p, RP w c0 c1 p := by
  obtain ⟨y0, y1, n, hx, _, g0, g1⟩ := trod_struct2 hs h
  rw [o0, k0] at g0
  rw [o1, k1] at g1
  simp at g0 g1
  obtain ⟨z, e0, -, wz⟩ := DataW.trod_int h0 g0
  obtain ⟨A, m, c, l, e1, hl, hm, hcm, hr, _⟩ := open_bytes_at h1 he hc g1
  simp at e0 e1
  subst e0; subst e1; subst hl
  have bz := bounds_i64 wz
  exact ⟨⟨z, l⟩, rfl, bz.1, by show z < _; omega, A, c, rfl, hm, hcm, hr⟩
/-- A struct of a number and a slice of bytes, by value. -/
theorem open_patch {w : World} {base : Nat} {r : Reach} {b0 : Nat} {s e : TypeId} {f0 f1 : Field} {v : Value} {d : DataW H} {ps : List MemPlace} {spare : Nat → Bool} {held : Bool}
    (hs : P.underlying s = some (.struct #[f0, f1])) (hC : P.cellsOf s = 2) (h0 : P.underlying f0.type = some (.int .i64)) (k0 : P.cellsOf f0.type = 1) (h1 : P.underlying f1.type = some (.slice e)) (k1 : P.cellsOf f1.type = 1) (he : P.underlying e = some (.int .u8)) (hc : P.cellsOf e = 1)
    (o0 : f0.offset = 0) (o1 : f1.offset = 1) (hv : Value.okWide P w r b0 s v) (h : DataW.Trod enc P w base spare held s v d ps) : ∃ v0 v1 p, v = .agg #[v0, v1] ∧ RP w v0 v1 p := by
  obtain ⟨cs, rfl, hsz⟩ := okWide_struct hs hv
  rw [hC] at hsz
  obtain ⟨l⟩ := cs
  match l, hsz with
  | [c0, c1], _ =>
    obtain ⟨fuel, hf⟩ := h
    obtain ⟨p, hp⟩ := open_patch_at (c0 := c0) (c1 := c1) hs h0 k0 h1 k1 he hc o0 o1 (by simpa [Value.cells] using hf)
    exact ⟨c0, c1, p, rfl, hp⟩
/-- A slice of such structs. -/
theorem open_patches {w : World} {base : Nat} {r : Reach} {b0 : Nat} {t s e : TypeId} {f0 f1 : Field} {v : Value} {d : DataW H} {ps : List MemPlace} {held : Bool} (ht : P.underlying t = some (.slice s))
    (hs : P.underlying s = some (.struct #[f0, f1])) (hC : P.cellsOf s = 2) (h0 : P.underlying f0.type = some (.int .i64)) (k0 : P.cellsOf f0.type = 1) (h1 : P.underlying f1.type = some (.slice e)) (k1 : P.cellsOf f1.type = 1) (he : P.underlying e = some (.int .u8)) (hc : P.cellsOf e = 1)
    (o0 : f0.offset = 0) (o1 : f1.offset = 1) (hv : Value.okWide P w r b0 t v) (h : DataW.Trod enc P w base (fun _ => true) held t v d ps) :
    ∃ (A : Option Addr) (n c : Nat) (l : List Pt), v = .slice A n c ∧ l.length = n ∧ n ≤ c ∧ c ≤ maxLen ∧ RPL w A l := by
  obtain ⟨a0, n, c, rfl⟩ := okWide_slice ht hv
  obtain ⟨fuel, hf⟩ := h
  rcases Go.Deep.open_slice ht hf with ⟨hcs, _⟩ | ⟨a, n', c', m, k, D, Pl, hcs, _, hl, hm, hmm, _, hx⟩
  · simp [Value.cells] at hcs
    obtain ⟨rfl, rfl, rfl⟩ := hcs
    exact ⟨none, 0, 0, [], rfl, rfl, by omega, by unfold maxLen; omega, fun k hk => absurd hk (by simp)⟩
  · simp only [if_true] at hmm
    simp [Value.cells] at hcs
    obtain ⟨rfl, rfl, rfl⟩ := hcs
    rw [hC] at hx
    have hall : ∀ i, i < m → ∃ p : Pt, ∃ v0 v1, w.cell? (a.add (i * 2)) = some v0 ∧ w.cell? (a.add (i * 2 + 1)) = some v1 ∧ RP w v0 v1 p := fun i hi => by
      obtain ⟨cs', g1, g2⟩ := hx i hi
      obtain ⟨_, hlen, hg⟩ := World.cells?_some g1
      match cs', hlen with
      | [c0, c1], _ =>
        obtain ⟨p, hp⟩ := open_patch_at (c0 := c0) (c1 := c1) hs h0 k0 h1 k1 he hc o0 o1 g2
        have e0 := hg 0 (by omega)
        have e1 := hg 1 (by omega)
        rw [add_of_add] at e0 e1
        exact ⟨p, c0, c1, by simpa using e0, by simpa using e1, hp⟩
    obtain ⟨B, hB⟩ := Go.Deep.choose_lt (α := Pt) (p := fun i p => ∃ v0 v1, w.cell? (a.add (i * 2)) = some v0 ∧ w.cell? (a.add (i * 2 + 1)) = some v1 ∧ RP w v0 v1 p) hall
    refine ⟨some a, n, c, (List.range n).map B, rfl, by simp, hl, hm, fun j hj => ?_⟩
    have hj' : j < n := by simpa using hj
    obtain ⟨v0, v1, g0, g1, hp⟩ := hB j (by omega)
    exact ⟨a, v0, v1, rfl, g0, g1, by simpa using hp⟩
end

end Go.Proofs.Ytknbjdldmednlaa

/-
  More laws on arrays of bytes: a copy from a text, bytes as a text, '!=' of two arrays, a result that is an array beside another one. Plain; no program is named here.
-/
namespace Go.Proofs.Ytknbjdldmednlaa
open Go.RowKit

section
variable {P : Program} {ops : Array Oper} {rest : List Oper} {o : Oper} {a : Act} {w : World} {Q : Exit → Act → World → Prop}

/-- copy of a text that fits into a block of bytes. -/
theorem run_copy_text (P : Program) (w : World) (dT sT ty elem : TypeId) (hu : P.underlying dT = some (.slice elem)) (hs : (P.info? elem).map (·.size) = some 1)
    (g off dLen dCap : Nat) (cur : List UInt8) (t : TypeId) (hg : Blk w g t (bcells cur)) (s : ByteArray) (hle : s.size ≤ dLen) (hd : off + dLen ≤ cur.length) :
    (Builtin.copy_ #[dT, sT] ty #[.slice (some ⟨g, off, none⟩) dLen dCap, .string s]).run P w = .ok (.int .i64 (s.size : Int)) (w.setRow g (bcells (splice cur off s.data.toList))) := by
  have hlen : s.data.toList.length = s.size := by simp
  have hst := run_storeCells_at P g off t (s.data.toList.map fun x : UInt8 => Value.int .u8 (x.toNat : Int)) 0 (bcells cur) w hg (by rw [bcells_size]; simp; omega) (by
    intro v hv
    obtain ⟨x, _, rfl⟩ := List.mem_map.1 hv
    rfl)
  have hmin : Nat.min s.size dLen = s.size := Nat.min_eq_left hle
  have htk : List.take s.size (s.data.toList.map fun x : UInt8 => Value.int .u8 (x.toNat : Int)) = s.data.toList.map fun x : UInt8 => Value.int .u8 (x.toNat : Int) := by
    rw [List.take_of_length_le (by rw [List.length_map, hlen]; exact Nat.le_refl _)]
  have e : (List.take (off + 0) (bcells cur).toList ++ (s.data.toList.map fun x : UInt8 => Value.int .u8 (x.toNat : Int)) ++ List.drop (off + 0 + (s.data.toList.map fun x : UInt8 => Value.int .u8 (x.toNat : Int)).length) (bcells cur).toList).toArray = bcells (splice cur off s.data.toList) := by
    simp only [bcells, splice, Nat.add_zero, List.length_map, List.map_append, List.map_take, List.map_drop]
  rw [e] at hst
  obtain ⟨i, hi, _⟩ := Option.map_eq_some_iff.1 hs
  simp [Builtin.copy_, run_underlying hu, Builtin.lenOf, Builtin.firstCells, sizeOf, typeInfo, hi, hmin]
  rw [htk, hst]
  rfl
theorem wpList_copy_text (hgd : Region.wanted o (yielded ops a.tmps) = true) (s x : Operand) (dT sT : TypeId) (ho : o.op = .call { callee := .builtin .copy, args := #[s, x], argTypes := #[dT, sT] }) (elem : TypeId) (hu : P.underlying dT = some (.slice elem)) (hs : (P.info? elem).map (·.size) = some 1)
    (g off dLen dCap : Nat) (cur : List UInt8) (t : TypeId) (hsv : a.eval s = .slice (some ⟨g, off, none⟩) dLen dCap) (hg : Blk w g t (bcells cur)) (d : ByteArray) (hxv : a.eval x = .string d) (hle : d.size ≤ dLen) (hd : off + dLen ≤ cur.length)
    (h : Stop (∀ w', Hid (Only w w' g) → Hid (Blk w' g t (bcells (splice cur off d.data.toList))) → wpList P ops Q rest (a.put o.dst (.int .i64 (d.size : Int))) w')) : wpList P ops Q (o :: rest) a w := by
  refine wpList_wanted hgd fun K hK => ?_
  have hrun := run_copy_text P w dT sT o.type elem hu hs g off dLen dCap cur t hg d hle hd
  unfold Oper.wp execOp
  simp only [ho, resolve, invoke, builtin, Sem.run_bind, Sem.run_pure, Result.andThen_ok, List.map_toArray, List.map_cons, List.map_nil, hsv, hxv, hrun]
  exact hK _ _ (h _ (Only.setRow hg _) (hg.setRow _))

/-- Bytes as a text. -/
theorem run_bytes_text (P : Program) (w : World) (src dst e : TypeId) (hs : P.underlying src = some (.slice e)) (he : P.underlying e = some (.int .u8)) (hd : P.underlying dst = some .string) (ad : Addr) (n c : Nat) (l : List UInt8) (hn : l.length = n) (hr : RB w (some ad) l) :
    (convert src dst (.slice (some ad) n c)).run P w = .ok (.string ⟨l.toArray⟩) w := by
  subst hn
  refine run_convert_bytes_back w src dst e ad c l hs he hd fun j hj => ?_
  obtain ⟨ad', e', hc⟩ := hr j hj
  injection e' with e'
  subst e'
  exact hc
theorem wpList_bytes_text (hgd : Region.wanted o (yielded ops a.tmps) = true) (src dst e : TypeId) (x : Operand) (ho : o.op = .convert src dst x) (hs : P.underlying src = some (.slice e)) (he : P.underlying e = some (.int .u8)) (hd : P.underlying dst = some .string)
    (ad : Addr) (n c : Nat) (hx : a.eval x = .slice (some ad) n c) (l : List UInt8) (hn : l.length = n) (hr : RB w (some ad) l)
    (h : wpList P ops Q rest (a.put o.dst (.string ⟨l.toArray⟩)) w) : wpList P ops Q (o :: rest) a w := by
  refine wpList_wanted hgd fun K hK => ?_
  have hrun := run_bytes_text P w src dst e hs he hd ad n c l hn hr
  unfold Oper.wp execOp
  simp only [ho, hx, Sem.run_bind, Sem.run_pure, Result.andThen_ok, hrun]
  exact hK _ _ h

/-- '!=' on two arrays of bytes. -/
theorem run_neq_bytes (P : Program) (w : World) (t e : TypeId) (n : Nat) (ht : P.underlying t = some (.array n e)) (he : P.underlying e = some (.int .u8)) (hs : (P.info? e).map (·.size) = some 1) (xs ys : List UInt8) (hx : xs.length = n) (hy : ys.length = n) :
    (binOp .neq t (.agg (bcells xs)) (.agg (bcells ys))).run P w = .ok (.bool (!(xs == ys))) w := by
  have h := run_equalIn_bytes (P := P) w 9998 t e n ht he (sizeOf_of hs) xs ys hx hy
  have e1 : (xs.map Extern.Stop.cell).toArray = bcells xs := rfl
  have e2 : (ys.map Extern.Stop.cell).toArray = bcells ys := rfl
  rw [e1, e2] at h
  rw [run_neq_struct, h]
  rfl
theorem wpList_neq_arr (hgd : Region.wanted o (yielded ops a.tmps) = true) (t t' : TypeId) (x y : Operand) (ho : o.op = .binOp .neq t x y t') (hm : P.eqGuardType P.depth t = false) (n e : Nat) (ht : P.underlying t = some (.array n e)) (he : P.underlying e = some (.int .u8)) (hs : (P.info? e).map (·.size) = some 1)
    (xs ys : List UInt8) (hx : a.eval x = .agg (bcells xs)) (hy : a.eval y = .agg (bcells ys)) (hxl : xs.length = n) (hyl : ys.length = n) (r : Bool) (hr : (!(xs == ys)) = r)
    (h : wpList P ops Q rest (a.put o.dst (.bool r)) w) : wpList P ops Q (o :: rest) a w := by
  refine wpList_wanted hgd fun K hK => ?_
  have hrun := run_neq_bytes P w t e n ht he hs xs ys hxl hyl
  rw [hr] at hrun
  unfold Oper.wp execOp
  simp only [ho, hx, hy, Sem.run_bind, run_eqGuard_agg w .neq t x y (bcells xs) (bcells ys) hm, Result.andThen_ok, hrun]
  exact hK _ _ h

/-- The runs of two of these by themselves. -/
theorem exec_neq_arr {o : Oper} (t t' : TypeId) (x y : Operand) (ho : o.op = .binOp .neq t x y t') (hm : P.eqGuardType P.depth t = false) (n e : Nat) (ht : P.underlying t = some (.array n e)) (he : P.underlying e = some (.int .u8)) (hs : (P.info? e).map (·.size) = some 1)
    (xs ys : List UInt8) (hx : a.eval x = .agg (bcells xs)) (hy : a.eval y = .agg (bcells ys)) (hxl : xs.length = n) (hyl : ys.length = n) (r : Bool) (hr : (!(xs == ys)) = r) : (execOp a.eval o).run P w = .ok (.value (.bool r)) w := by
  have hrun := run_neq_bytes P w t e n ht he hs xs ys hxl hyl
  rw [hr] at hrun
  unfold execOp
  simp only [ho, hx, hy, Sem.run_bind, run_eqGuard_agg w .neq t x y (bcells xs) (bcells ys) hm, Result.andThen_ok, hrun]
  rfl
theorem exec_build_zero {o : Oper} (t : TypeId) (ho : o.op = .build t #[]) (cs : Array Value) (hz : (P.info? t).map (·.zero) = some (some (.agg cs))) (n e : Nat) (hu : P.underlying t = some (.array n e)) (he : (P.info? e).map (·.size) = some 1) : (execOp a.eval o).run P w = .ok (.value (.agg cs)) w := by
  unfold execOp
  simp only [ho, Sem.run_bind, List.map_toArray, List.map_nil, run_build_zero P w t cs hz n e hu he, Result.andThen_ok]
  rfl

/-- The first result lies in a block, the second one in a slot. -/
theorem bodyPost_cell_tmp {R : Ending → World → Prop} {fn : Func} {p q : Tmp} {t : TypeId} (hf : fn.results = #[ResultVar.cell p t, ResultVar.tmp q]) (g : Nat) (hp : a.tmps.getD p undef = .pointer (some ⟨g, 0, none⟩)) (t' : TypeId) (cs : Array Value) (hg : Blk w g t' cs)
    (n : Nat) (e : TypeId) (hu : P.underlying t = some (.array n e)) (hi : (P.info? t).map (·.size) = some cs.size) (hd : a.defers = []) (v : Value) (hq : a.tmps.getD q undef = v) (hR : Stop (R (.returned (.tuple #[.agg cs, v])) w)) : bodyPost P fn R .ret a w := by
  refine bodyPost_ret (v := .tuple #[.agg cs, v]) ?_ hd hR
  have hp' : a.tmps[p]?.getD undef = .pointer (some ⟨g, 0, none⟩) := by simpa using hp
  have hq' : a.tmps[q]?.getD undef = v := by simpa using hq
  simp [results, hf, hp', hq', asAddr, run_loadVar_row w g t' t cs (0, 0) _ hg hu rfl hi]
end

end Go.Proofs.Ytknbjdldmednlaa
