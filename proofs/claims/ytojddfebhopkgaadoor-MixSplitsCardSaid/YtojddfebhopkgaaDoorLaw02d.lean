/-
  Whatever the arguments of MixSplits are, it answers true and leaves them. The library's table of TrailingZeros32 is as its initialiser lays it (the card ties it to the program's text). No other condition.
-/
import Derived.Test.YtojddfebhopkgaaDoorLaw02l
import Derived.Test.YtojddfebhopkgaaDoorCard
namespace Go.Proofs.YtojddfebhopkgaaDoor
open Go.ChangeShapes Go.WideShapes Go.ChangeAt Go.RowKit Go.ChangeMaps

set_option maxRecDepth 100000 in
theorem mixSplits_lifted (os : Os) (started : os.Started) (H : Type) (enc : TypeId × Value → H) :
    ReturnsInHanded {} Tryd.checked os 4 .any (fun w args => (Rows.mixSplitsSpec.pre enc Tryd.prog Tryd.f4 Rows.mixSplitsRow.domain false w args ∧ laidMetH Tryd.prog Rows.mixSplitsRow.laid w) ∧ sizedMet enc Tryd.prog Tryd.f4 (OpenSpec.ofChange Rows.mixSplitsSpec) false w args) (Rows.mixSplitsSpec.post enc Tryd.prog Tryd.f4 false true false false) := by
  refine returnsInHanded_of_change_and (C := Tryd.checked) (X := fun w _ => laidMetH Tryd.prog Rows.mixSplitsRow.laid w) (fun _ _ _ hh h => h.of_heap hh) Tryd.own started (by kernel_rfl) Tryd.func4 (ChangeSpec.witness_shaped (enc := enc) (C := Tryd.checked) (os := os) (X := fun w _ => laidMetH Tryd.prog Rows.mixSplitsRow.laid w) false (World.doorLaid Tryd.prog 400 os) #[.slice none 0 0, .int .i64 0] 8 rfl (World.shaped_of_RefB (by kernel_rfl) (by kernel_rfl)) (by kernel_rfl) (by kernel_rfl) (by kernel_rfl) (laidMetH_of_parts3 (fuel := 8) (laidMet_of_run' 8 (by kernel_rfl) (by kernel_rfl)) (by kernel_rfl) (by kernel_rfl))) ?_; intro W base args ds gs before hval0 hW _ hsz0 hL _; have hval : ∀ (j : Nat) t v, Tryd.f4.params[j]? = some t → args[j]? = some v → Value.okWide Tryd.prog W .any base t v := hval0; have hW' := hW; obtain ⟨p, q, hA0, hV, rfl, hfz, hnd⟩ := hW; have hA : DataW.TrodAll enc Tryd.prog W 0 (fun _ => true) true Tryd.f4.params.toList args.toList ds p := hA0; rw [Tryd.params4] at hA hval; obtain ⟨rfl, rfl⟩ := trodVars_none hV; clear hA0 hval0 hsz0
  obtain ⟨v0, v1, d0, d1, p0, p1, rfl, rfl, rfl, h0, h1⟩ := trodAll_two hA
  obtain ⟨A, n, c, l, rfl, hl, hn, hc, hr, hs⟩ := open_texts Tryd.underlying37 Tryd.underlying9 (by kernel_rfl) (hval 0 _ v0 rfl rfl) h0
  obtain ⟨b, rfl, rfl, rfl, _⟩ := open_int Tryd.underlying3 (hval 1 _ v1 rfl rfl) h1
  refine (mixSplits_any A n c l hl hn hc hs b W hr (tab32_of_laid hL)).mono fun e W' ⟨he, hb⟩ => ?_
  subst he
  exact ⟨_, rfl, law_post Tryd.laidOut (readable_all (by kernel_rfl)) rfl rfl Tryd.underlying4 rfl hW' hb⟩

theorem mixSplits_holds : Rows.MixSplitsSaid := OpenClaim.holds_of_wide 4 Tryd.f4 rfl rfl rfl rfl rfl rfl rfl ⟨rfl, rfl, rfl, rfl, rfl⟩ rfl rfl rfl rfl rfl (by kernel_rfl) Tryd.func4 (by kernel_rfl) (of_decide_eq_true (by kernel_rfl)) (by unfold Func.isWrapper; first | (rw [if_pos (by decide +kernel)]; kernel_rfl) | (rw [if_neg (by decide +kernel)]; exact ⟨rfl, rfl⟩)) (fun os started H enc _ => mixSplits_lifted os started H enc)

theorem mixSplits_card : Rows.MixSplitsCardSaid := Claim7.holds_tied_plain_at .later [] [.data] true Rows.mixSplitsCard.stood.harness Rows.mixSplitsCard.stood.looks mixSplits_holds (fun _ h => by cases h) (by kernel_rfl) (fun _ h => by cases h) mixSplits_row_tie rfl ⟨rfl, rfl⟩ (by kernel_rfl) rfl (card_params Tryd.func4 (by kernel_rfl) (by kernel_rfl) (by kernel_rfl)) (by kernel_rfl)

end Go.Proofs.YtojddfebhopkgaaDoor
