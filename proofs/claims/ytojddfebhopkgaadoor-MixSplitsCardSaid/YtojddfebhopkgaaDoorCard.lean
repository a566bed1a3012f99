/-
  The step from a walk to a tied card, for laws whose row lists variables: what the list gives, what the card's builder asks of the parameters.
-/
import Derived.Test.YtojddfebhopkgaaDoorRow
import Derived.Test.YtojddfebhopkgaaDoorList
import Derived.Test.YtojddfebhopkgaaDoorTie
import Derived.Test.YtojddfebhopkgaaDoorCards
import Derived.SevenTiedAt
import Derived.LaidMore
import Derived.LaidHandle
import Derived.HandedShaped
import Derived.Lib.LaidTab
import Derived.Lib.TrailingZeros
namespace Go.Proofs.YtojddfebhopkgaaDoor
open Go.ChangeShapes Go.WideShapes Go.ChangeAt Go.RowKit

theorem readable_all {P : Program} {f : Func} (h : (f.params.toList.all fun t => P.readableRec t && decide (t < P.types.size)) = true) : ∀ t ∈ f.params.toList, P.readableRec t = true ∧ t < P.types.size := fun t ht => by
  have := List.all_eq_true.1 h t ht
  simpa using this
theorem card_params {p : Pinned} {c : OpenClaim} {f0 : FuncId} {fn0 : Func} {lk : Bool} (h0 : p.checked.prog.funcs[f0]? = some fn0) (hn : p.checked.prog.funcNamed c.func = some f0) (hlk : (lk == p.checked.prog.looks []) = true) (hall : (fn0.params.toList.all fun t => !p.checked.prog.wantsStandIn t) = true) :
    ∀ f fn, p.checked.prog.funcNamed c.func = some f → p.checked.prog.funcs[f]? = some fn → lk = p.checked.prog.looks [] ∧ ∀ (j : Nat) t, fn.params[j]? = some t → p.checked.prog.wantsStandIn t = false := by
  intro f fn hf hfn
  obtain rfl : f0 = f := Option.some.inj (hn.symm.trans hf)
  obtain rfl : fn0 = fn := Option.some.inj (h0.symm.trans hfn)
  refine ⟨by simpa using hlk, fun j t ht => ?_⟩
  have hm : t ∈ fn0.params.toList := by simpa using Array.mem_of_getElem? ht
  simpa using List.all_eq_true.1 hall t hm

section
variable {H : Type} {enc : TypeId × Value → H} {P : Program}
/-- An array of two integers, by value. -/
theorem open_int_two {w : World} {base : Nat} {r : Reach} {b0 : Nat} {t e : TypeId} {k : IntKind} {v : Value} {d : DataW H} {ps : List MemPlace} {spare : Nat → Bool} {held : Bool} (ht : P.underlying t = some (.array 2 e)) (he : P.underlying e = some (.int k)) (hc : P.cellsOf e = 1) (hct : P.cellsOf t = 2)
    (hv : Value.okWide P w r b0 t v) (h : DataW.Trod enc P w base spare held t v d ps) : ∃ z0 z1, v = .agg #[.int k z0, .int k z1] ∧ (Lit.int k z0).wf = true ∧ (Lit.int k z1).wf = true := by
  obtain ⟨zs, rfl, hz, hw⟩ := open_int_array ht he hc hct hv h
  obtain ⟨z0, z1, rfl⟩ := list_two hz
  exact ⟨z0, z1, rfl, hw z0 (by simp), hw z1 (by simp)⟩
end

section
variable {H : Type} {enc : TypeId × Value → H} {P : Program}
/-- A slice of texts that came in. -/
theorem open_texts {w : World} {base : Nat} {r : Reach} {b0 : Nat} {t e : TypeId} {v : Value} {d : DataW H} {ps : List MemPlace} {spare : Nat → Bool} {held : Bool} (ht : P.underlying t = some (.slice e)) (he : P.underlying e = some .string) (hc : P.cellsOf e = 1)
    (hv : Value.okWide P w r b0 t v) (h : DataW.Trod enc P w base spare held t v d ps) :
    ∃ (A : Option Addr) (n c : Nat) (l : List ByteArray), v = .slice A n c ∧ l.length = n ∧ n ≤ c ∧ c ≤ maxLen ∧ RC w A (svals l) ∧ ∀ s ∈ l, s.size ≤ maxLen := by
  obtain ⟨a0, n, c, rfl⟩ := okWide_slice ht hv
  obtain ⟨fuel, hf⟩ := h
  rcases open_strings ht he hc hf with ⟨hcs, _⟩ | ⟨a, n', c', ss, hcs, _, hl, hm, hlen, _, hcell, hs⟩
  · simp [Value.cells] at hcs
    obtain ⟨rfl, rfl, rfl⟩ := hcs
    exact ⟨none, 0, 0, [], rfl, rfl, by omega, by unfold maxLen; omega, RC.nil_ _ _, by simp⟩
  · simp [Value.cells] at hcs
    obtain ⟨rfl, rfl, rfl⟩ := hcs
    have hnl : n ≤ ss.length := by rw [hlen]; split <;> omega
    refine ⟨some a, n, c, ss.take n, rfl, by simp; omega, hl, hm, fun k hk => ⟨a, rfl, ?_⟩, fun s h => hs s (List.mem_of_mem_take h)⟩
    have hk' : k < n := by simp [svals] at hk; omega
    rw [hcell k (by omega)]
    simp [svals, List.getD, show k < ss.length by omega]
end


theorem tab32_list : ∀ j, j < 32 → ((Lib.deBruijn32tab.map fun n : Nat => Int.ofNat n).getD j 0) = ((Lib.deBruijn32tab.getD j 0 : Nat) : Int) := by decide +kernel
theorem tab32_of_laid {W : World} (h : laidMetH Tryd.prog [("math/bits.deBruijn32tab", Rows.laid_math_bits_deBruijn32tab)] W) : ∀ j, j < Lib.deBruijn32tab.length → W.cell? ⟨0, j, none⟩ = some (.int .u8 (Lib.deBruijn32tab.getD j 0 : Nat)) := by
  rw [MakeChecks.laidMetH_plain _ _ _ (by kernel_rfl)] at h
  have h' : laidMet Tryd.prog (("math/bits.deBruijn32tab", Lib.tabData .u8 (Lib.deBruijn32tab.map fun n : Nat => Int.ofNat n)) :: []) W := h
  have hg : Tryd.prog.globalNamed "math/bits.deBruijn32tab" = some 0 := by kernel_rfl
  have hT := Lib.tabIs_of_head hg (by kernel_rfl) Tryd.underlying50 Tryd.underlying5 (by kernel_rfl) (by kernel_rfl) h'
  intro j hj
  have hc := hT.cell hg j (by rw [List.length_map]; exact hj)
  rw [tab32_list j hj] at hc
  exact hc

end Go.Proofs.YtojddfebhopkgaaDoor
