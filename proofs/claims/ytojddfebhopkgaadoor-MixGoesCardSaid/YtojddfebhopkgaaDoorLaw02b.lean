/-
  Whatever the arguments of MixGoes are, it answers true and leaves them. The library's table of TrailingZeros32 is as its initialiser lays it (the card ties it to the program's text). No other condition.
-/
import Derived.Test.YtojddfebhopkgaaDoorLaw02
import Derived.Test.YtojddfebhopkgaaDoorCard
namespace Go.Proofs.YtojddfebhopkgaaDoor
open Go.ChangeShapes Go.WideShapes Go.ChangeAt Go.RowKit Go.ChangeMaps

set_option maxRecDepth 100000 in
theorem mixGoes_lifted (os : Os) (started : os.Started) (H : Type) (enc : TypeId × Value → H) :
    ReturnsInHanded {} Tryd.checked os 5 .any (fun w args => (Rows.mixGoesSpec.pre enc Tryd.prog Tryd.f5 Rows.mixGoesRow.domain false w args ∧ laidMetH Tryd.prog Rows.mixGoesRow.laid w) ∧ sizedMet enc Tryd.prog Tryd.f5 (OpenSpec.ofChange Rows.mixGoesSpec) false w args) (Rows.mixGoesSpec.post enc Tryd.prog Tryd.f5 false true false false) := by
  refine returnsInHanded_of_change_and (C := Tryd.checked) (X := fun w _ => laidMetH Tryd.prog Rows.mixGoesRow.laid w) (fun _ _ _ hh h => h.of_heap hh) Tryd.own started (by kernel_rfl) Tryd.func5 (ChangeSpec.witness_shaped (enc := enc) (C := Tryd.checked) (os := os) (X := fun w _ => laidMetH Tryd.prog Rows.mixGoesRow.laid w) false (World.doorLaid Tryd.prog 400 os) #[.string ⟨#[]⟩, .string ⟨#[]⟩] 8 rfl (World.shaped_of_RefB (by kernel_rfl) (by kernel_rfl)) (by kernel_rfl) (by kernel_rfl) (by kernel_rfl) (laidMetH_of_parts3 (fuel := 8) (laidMet_of_run' 8 (by kernel_rfl) (by kernel_rfl)) (by kernel_rfl) (by kernel_rfl))) ?_; intro W base args ds gs before hval0 hW _ hsz0 hL _; have hval : ∀ (j : Nat) t v, Tryd.f5.params[j]? = some t → args[j]? = some v → Value.okWide Tryd.prog W .any base t v := hval0; have hW' := hW; obtain ⟨p, q, hA0, hV, rfl, hfz, hnd⟩ := hW; have hA : DataW.TrodAll enc Tryd.prog W 0 (fun _ => true) true Tryd.f5.params.toList args.toList ds p := hA0; rw [Tryd.params5] at hA hval; obtain ⟨rfl, rfl⟩ := trodVars_none hV; clear hA0 hval0 hsz0
  obtain ⟨v0, v1, d0, d1, p0, p1, rfl, rfl, rfl, h0, h1⟩ := trodAll_two hA
  obtain ⟨s, rfl, _, _, hs⟩ := open_string Tryd.underlying9 (hval 0 _ v0 rfl rfl) h0
  obtain ⟨t, rfl, _, _, ht⟩ := open_string Tryd.underlying9 (hval 1 _ v1 rfl rfl) h1
  refine (mixGoes_any s t hs ht W (tab32_of_laid hL)).mono fun e W' ⟨he, hb⟩ => ?_
  subst he
  exact ⟨_, rfl, law_post Tryd.laidOut (readable_all (by kernel_rfl)) rfl rfl Tryd.underlying4 rfl hW' hb⟩

theorem mixGoes_holds : Rows.MixGoesSaid := OpenClaim.holds_of_wide 5 Tryd.f5 rfl rfl rfl rfl rfl rfl rfl ⟨rfl, rfl, rfl, rfl, rfl⟩ rfl rfl rfl rfl rfl (by kernel_rfl) Tryd.func5 (by kernel_rfl) (of_decide_eq_true (by kernel_rfl)) (by unfold Func.isWrapper; first | (rw [if_pos (by decide +kernel)]; kernel_rfl) | (rw [if_neg (by decide +kernel)]; exact ⟨rfl, rfl⟩)) (fun os started H enc _ => mixGoes_lifted os started H enc)

theorem mixGoes_card : Rows.MixGoesCardSaid := Claim7.holds_tied_plain_at .later [] [.data] true Rows.mixGoesCard.stood.harness Rows.mixGoesCard.stood.looks mixGoes_holds (fun _ h => by cases h) (by kernel_rfl) (fun _ h => by cases h) mixGoes_row_tie rfl ⟨rfl, rfl⟩ (by kernel_rfl) rfl (card_params Tryd.func5 (by kernel_rfl) (by kernel_rfl) (by kernel_rfl)) (by kernel_rfl)

end Go.Proofs.YtojddfebhopkgaaDoor
