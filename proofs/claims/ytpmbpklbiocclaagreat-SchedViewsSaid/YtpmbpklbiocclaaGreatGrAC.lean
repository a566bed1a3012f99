/-
  Texts of this claim joined: Row, Open, OpenP, Arr.
-/
import Derived.Test.YtpmbpklbiocclaaGreatRows
import Derived.Test.YtpmbpklbiocclaaGreatGrAA
import Derived.ProofKit
import Derived.Carry
import Derived.OpenShut
import Derived.ChangeSame
import Derived.SizedLaws
import Derived.Test.YtpmbpklbiocclaaGreatGrAB
import Derived.Lib.SmallJoins
import Derived.Deep.Slices
import Derived.Laws.CopyRow
import Derived.Laws.IdiomStrings

/-
  The step from a walk to a row, for laws: whatever the arguments are that can be read, the call answers true and leaves what was there.
-/
namespace Go.Proofs.YtpmbpklbiocclaaGreat
open Go.ChangeShapes Go.WideShapes Go.ChangeAt Go.RowKit

theorem Tryz.own : ownKnob Tryz.prog.godebug = none := by kernel_rfl
theorem Tryz.laidOut : laidOutB Tryz.prog = true := by kernel_rfl

section
variable {H : Type} {enc : TypeId × Value → H} {P : Program}

theorem trodAll_below (hl : laidOutB P = true) {W W' : World} (hb : Below W.heap.size W W') {sp : Nat → Bool} : ∀ {ts : List TypeId} {vs : List Value} {ds : List (DataW H)} {ps : List MemPlace},
    (∀ t ∈ ts, P.readableRec t = true ∧ t < P.types.size) → DataW.TrodAll enc P W 0 (fun _ => true) true ts vs ds ps → (∀ p ∈ ps, p.block < W.heap.size) → (∀ p ∈ ps, sp p.block = true) → DataW.TrodAll enc P W' 0 sp true ts vs ds ps := by
  intro ts
  induction ts with
  | nil =>
    intro vs ds ps _ h _ _
    obtain ⟨rfl, rfl, rfl⟩ := trodAll_nil h
    exact trodAll_mk0
  | cons t ts ih =>
    intro vs ds ps hts h hlt hsp
    obtain ⟨v, vs', d, ds', p, q, rfl, rfl, rfl, hd, hrest⟩ := trodAll_cons h
    refine trodAll_cons_mk (WideElems.Trod_stays hl (hts t (by simp)).1 (hts t (by simp)).2 hd (fun x hx => hb.same (hlt x (by simp [hx]))) (fun x hx => hsp x (by simp [hx]))) ?_
    exact ih (fun u hu => hts u (by simp [hu])) hrest (fun x hx => hlt x (by simp [hx])) (fun x hx => hsp x (by simp [hx]))

theorem law_post {f : Func} {s : ChangeSpec} {apart fresh handsOn again : Bool} {W W' : World} {args : Array Value} {ds gs : List (DataW H)} {before : List MemPlace} {tb : TypeId}
    (hl : laidOutB P = true) (hts : ∀ t ∈ f.params.toList, P.readableRec t = true ∧ t < P.types.size) (hvars : s.vars = []) (hr : f.resultTypes = #[tb]) (hbt : P.underlying tb = some .bool)
    (hfn : s.fn H (ds ++ gs) = { results := [.lit (.bool true)], args := ds })
    (hW : DataW.Whole enc P f.params.toList s.vars apart W args.toList ds gs before) (hb : Below W.heap.size W W') : s.post enc P f apart fresh handsOn again W args (.bool true) W' := by
  have hW' := hW
  obtain ⟨pa, pv, hA, hV, rfl, hz, hn⟩ := hW
  have hV' := hV
  rw [hvars] at hV'
  obtain ⟨rfl, rfl⟩ := trodVars_none hV'
  have hlt : ∀ p ∈ pa ++ [], p.block < W.heap.size := fun p hp => hW'.lt p hp
  have hold : ∀ p ∈ pa ++ [], (fun b => decide (b < W.heap.size)) p.block = true := fun p hp => by simpa using hlt p hp
  have hargs : ∀ sp : Nat → Bool, (∀ p ∈ pa ++ [], sp p.block = true) → DataW.TrodAll enc P W' 0 sp true f.params.toList args.toList (s.fn H (ds ++ [])).args pa := fun sp hsp => by
    rw [hfn]
    exact trodAll_below hl hb hts hA (fun p hp => hlt p (by simpa using hp)) (fun p hp => hsp p (by simpa using hp))
  have hres : ∀ (b : Nat) (sp : Nat → Bool) (hd : Bool), DataW.TrodAll enc P W' b sp hd f.resultTypes.toList ((Value.bool true).resultList f.resultTypes.size) (s.fn H (ds ++ [])).results [] := fun b sp hd => by
    rw [hfn, hr]
    exact trodAll_mk1 (shut_bool hbt true)
  have hvs : ∀ sp : Nat → Bool, (∀ p ∈ pa ++ [], sp p.block = true) → DataW.TrodVars enc P W' sp s.vars (s.fn H (ds ++ [])).vars [] := fun sp _ => by
    rw [hfn, hvars]
    rfl
  refine ⟨ds, [], pa ++ [], [], pa, [], hW', hres _ _ _, hargs _ hold, hvs _ hold, World.keptBut_mono (fun p hp => ⟨hp, ?_⟩) (hb.frame (· ∈ pa ++ [])), fun _ => ?_⟩
  · exact Or.inr (by simpa using hp)
  · refine ⟨ok_one hr rfl (okWide_bool_mk hbt true), _, _, ([] ++ pa) ++ [], ⟨[] ++ pa, [], trodAll_append (hargs _ (fun _ _ => rfl)) (hres _ _ _), hvs _ (fun _ _ => rfl), rfl, ?_, ?_⟩, ?_⟩
    · intro b off hp
      have hin : MemPlace.cell b off ∈ pa ++ [] := by simpa using hp
      rw [hb.frozen (hlt _ hin)]
      exact hz b off hin
    · intro ha
      simpa using hn ha
    · intro p hp _
      simpa using hp

theorem open_bytes_at {w : World} {base fuel : Nat} {t e : TypeId} {cs : List Value} {x : DataW H × List MemPlace} {spare : Nat → Bool} {held : Bool} (ht : P.underlying t = some (.slice e)) (he : P.underlying e = some (.int .u8)) (hc : P.cellsOf e = 1)
    (hf : DataW.trod enc P w base spare held fuel t cs = some x) :
    ∃ (A : Option Addr) (n c : Nat) (l : List UInt8), cs = [.slice A n c] ∧ l.length = n ∧ n ≤ c ∧ c ≤ maxLen ∧ RB w A l ∧ ((x.1 = .nil ∧ n = 0) ∨ ∃ es sp, x.1 = .slice es sp ∧ es.length = n) := by
  rcases open_ints ht he hc hf with ⟨hcs, hx⟩ | ⟨a, n, c, zs, hcs, _, hl, hm, hz, hx, hcell, hw⟩
  · exact ⟨none, 0, 0, [], hcs, rfl, by omega, by unfold maxLen; omega, RB.nil_ _ _, Or.inl ⟨by rw [hx], rfl⟩⟩
  · have hnz : n ≤ zs.length := by rw [hz]; split <;> omega
    refine ⟨some a, n, c, (zs.take n).map fun z => UInt8.ofNat z.toNat, hcs, by simp; omega, hl, hm, fun k hk => ?_, Or.inr ⟨_, _, by rw [hx], by simp [lits]; omega⟩⟩
    have hk' : k < n := by simp at hk; omega
    refine ⟨a, rfl, ?_⟩
    have hkz : k < zs.length := by omega
    rw [hcell k hkz]
    have hwk := hw zs[k] (List.getElem_mem hkz)
    have hb := bounds_u8 hwk
    have e1 : zs.getD k 0 = zs[k] := by simp [List.getD, hkz]
    rw [e1]
    congr 2
    simp
    omega

end


end Go.Proofs.YtpmbpklbiocclaaGreat

/-
  What a row asks of the parameters' types, whatever their number; a list of texts that came in.
-/
namespace Go.Proofs.YtpmbpklbiocclaaGreat
open Go.ChangeShapes Go.WideShapes Go.ChangeAt Go.RowKit

theorem readable_all {P : Program} {f : Func} (h : (f.params.toList.all fun t => P.readableRec t && decide (t < P.types.size)) = true) : ∀ t ∈ f.params.toList, P.readableRec t = true ∧ t < P.types.size := fun t ht => by
  have := List.all_eq_true.1 h t ht
  simpa using this

section
variable {H : Type} {enc : TypeId × Value → H} {P : Program}
end

end Go.Proofs.YtpmbpklbiocclaaGreat

/-
  Structs of a number and a slice of bytes that came in, and slices of these. Plain; no program is named here.
-/
namespace Go.Proofs.YtpmbpklbiocclaaGreat
open Go.ChangeShapes Go.WideShapes Go.ChangeAt Go.RowKit

structure RP (w : World) (v0 v1 : Value) (p : Pt) : Prop where
  num : v0 = .int .i64 p.at_
  lo : -9223372036854775808 ≤ p.at_
  hi : p.at_ < 9223372036854775808
  bytes : ∃ A c, v1 = .slice A p.data.length c ∧ p.data.length ≤ c ∧ c ≤ maxLen ∧ RB w A p.data
theorem RP.below {w w' : World} {v0 v1 : Value} {p : Pt} (h : RP w v0 v1 p) (hb : Below w.heap.size w w') : RP w' v0 v1 p := by
  obtain ⟨A, c, e, h1, h2, h3⟩ := h.bytes
  exact ⟨h.num, h.lo, h.hi, A, c, e, h1, h2, h3.below hb⟩
def RPL (w : World) (A : Option Addr) (l : List Pt) : Prop :=
  ∀ k (h : k < l.length), ∃ ad v0 v1, A = some ad ∧ w.cell? (ad.add (k * 2)) = some v0 ∧ w.cell? (ad.add (k * 2 + 1)) = some v1 ∧ RP w v0 v1 l[k]
theorem RPL.below {w w' : World} {A : Option Addr} {l : List Pt} (h : RPL w A l) (hb : Below w.heap.size w w') : RPL w' A l := fun k hk => by
  obtain ⟨ad, v0, v1, e, h0, h1, hp⟩ := h k hk
  exact ⟨ad, v0, v1, e, by rw [hb.cell (block_lt_of_cell h0), h0], by rw [hb.cell (block_lt_of_cell h1), h1], hp.below hb⟩

section
variable {H : Type} {enc : TypeId × Value → H} {P : Program}
theorem open_patch_at {w : World} {base fuel : Nat} {s e : TypeId} {f0 f1 : Field} {spare : Nat → Bool} {held : Bool} {c0 c1 : Value} {x : DataW H × List MemPlace}
    (hs : P.underlying s = some (.struct #[f0, f1])) (h0 : P.underlying f0.type = some (.int .i64)) (k0 : P.cellsOf f0.type = 1) (h1 : P.underlying f1.type = some (.slice e)) (k1 : P.cellsOf f1.type = 1) (he : P.underlying e = some (.int .u8)) (hc : P.cellsOf e = 1)
    (o0 : f0.offset = 0) (o1 : f1.offset = 1)
    (h : DataW.trod enc P w base spare held fuel s [c0, c1] = some x) : ∃ p, RP w c0 c1 p := by
  obtain ⟨y0, y1, n, hx, _, g0, g1⟩ := trod_struct2 hs h
  rw [o0, k0] at g0
  rw [o1, k1] at g1
  simp at g0 g1
  obtain ⟨z, e0, -, wz⟩ := DataW.trod_int h0 g0
  obtain ⟨A, m, c, l, e1, hl, hm, hcm, hr, _⟩ := open_bytes_at h1 he hc g1
  simp at e0 e1
  subst e0; subst e1; subst hl
  have bz := bounds_i64 wz
  exact ⟨⟨z, l⟩, rfl, bz.1, by show z < _; omega, A, c, rfl, hm, hcm, hr⟩
end

end Go.Proofs.YtpmbpklbiocclaaGreat

/-
  More laws on arrays of bytes: a copy from a text, bytes as a text, '!=' of two arrays, a result that is an array beside another one. Plain; no program is named here.
-/
namespace Go.Proofs.YtpmbpklbiocclaaGreat
open Go.RowKit

section
variable {P : Program} {ops : Array Oper} {rest : List Oper} {o : Oper} {a : Act} {w : World} {Q : Exit → Act → World → Prop}



theorem run_neq_bytes (P : Program) (w : World) (t e : TypeId) (n : Nat) (ht : P.underlying t = some (.array n e)) (he : P.underlying e = some (.int .u8)) (hs : (P.info? e).map (·.size) = some 1) (xs ys : List UInt8) (hx : xs.length = n) (hy : ys.length = n) :
    (binOp .neq t (.agg (bcells xs)) (.agg (bcells ys))).run P w = .ok (.bool (!(xs == ys))) w := by
  have h := run_equalIn_bytes (P := P) w 9998 t e n ht he (sizeOf_of hs) xs ys hx hy
  have e1 : (xs.map Extern.Stop.cell).toArray = bcells xs := rfl
  have e2 : (ys.map Extern.Stop.cell).toArray = bcells ys := rfl
  rw [e1, e2] at h
  rw [run_neq_struct, h]
  rfl

theorem exec_neq_arr {o : Oper} (t t' : TypeId) (x y : Operand) (ho : o.op = .binOp .neq t x y t') (hm : P.eqGuardType P.depth t = false) (n e : Nat) (ht : P.underlying t = some (.array n e)) (he : P.underlying e = some (.int .u8)) (hs : (P.info? e).map (·.size) = some 1)
    (xs ys : List UInt8) (hx : a.eval x = .agg (bcells xs)) (hy : a.eval y = .agg (bcells ys)) (hxl : xs.length = n) (hyl : ys.length = n) (r : Bool) (hr : (!(xs == ys)) = r) : (execOp a.eval o).run P w = .ok (.value (.bool r)) w := by
  have hrun := run_neq_bytes P w t e n ht he hs xs ys hxl hyl
  rw [hr] at hrun
  unfold execOp
  simp only [ho, hx, hy, Sem.run_bind, run_eqGuard_agg w .neq t x y (bcells xs) (bcells ys) hm, Result.andThen_ok, hrun]
  rfl

theorem bodyPost_cell_tmp {R : Ending → World → Prop} {fn : Func} {p q : Tmp} {t : TypeId} (hf : fn.results = #[ResultVar.cell p t, ResultVar.tmp q]) (g : Nat) (hp : a.tmps.getD p undef = .pointer (some ⟨g, 0, none⟩)) (t' : TypeId) (cs : Array Value) (hg : Blk w g t' cs)
    (n : Nat) (e : TypeId) (hu : P.underlying t = some (.array n e)) (hi : (P.info? t).map (·.size) = some cs.size) (hd : a.defers = []) (v : Value) (hq : a.tmps.getD q undef = v) (hR : Stop (R (.returned (.tuple #[.agg cs, v])) w)) : bodyPost P fn R .ret a w := by
  refine bodyPost_ret (v := .tuple #[.agg cs, v]) ?_ hd hR
  have hp' : a.tmps[p]?.getD undef = .pointer (some ⟨g, 0, none⟩) := by simpa using hp
  have hq' : a.tmps[q]?.getD undef = v := by simpa using hq
  simp [results, hf, hp', hq', asAddr, run_loadVar_row w g t' t cs (0, 0) _ hg hu rfl hi]
end

end Go.Proofs.YtpmbpklbiocclaaGreat
