/-
  Whatever the arguments of IndexParts are, it answers true and leaves them. No condition.
-/
import Derived.Test.YthcbjihdbkpkeaaLaw19s
import Derived.Test.YthcbjihdbkpkeaaIdxL
import Derived.ChangeMaps5
namespace Go.Proofs.Ythcbjihdbkpkeaa
open Go.ChangeShapes Go.WideShapes Go.ChangeAt Go.RowKit Go.ChangeMaps

set_option maxRecDepth 100000 in
theorem indexParts_lifted (os : Os) (started : os.Started) (H : Type) (enc : TypeId × Value → H) :
    ReturnsInHanded {} Try.checked os 7 .any (Rows.indexPartsSpec.pre6 enc Try.prog Try.f7 Rows.indexPartsRow.domain false) (Rows.indexPartsSpec.post enc Try.prog Try.f7 false true false false) := by
  refine returnsInHanded_of_change (C := Try.checked) Try.own started (by kernel_rfl) Try.func7 (ChangeSpec.witness6 (enc := enc) (C := Try.checked) false ⟨#[], #[.agg (icells (0 :: zeroT)), .int .u8 0, .int .u32 0], []⟩ 8 (by kernel_rfl) (by kernel_rfl) (by kernel_rfl) (by kernel_rfl)) ?_; intro W base args ds gs before hval0 hW hcnd _; have hval : ∀ (j : Nat) t v, Try.f7.params[j]? = some t → args[j]? = some v → Value.okWide Try.prog W .any base t v := hval0; have hW' := hW; obtain ⟨p, q, hA0, hV, rfl, hfz, hnd⟩ := hW; have hA : DataW.TrodAll enc Try.prog W 0 (fun _ => true) true Try.f7.params.toList args.toList ds p := hA0; rw [Try.params7] at hA hval; obtain ⟨rfl, rfl⟩ := trodVars_none hV; clear hA0 hval0
  obtain ⟨v0, v1, v2, d0, d1, d2, p0, p1, p2, rfl, rfl, rfl, h0, h1, h2⟩ := trodAll_three hA
  obtain ⟨d, t, rfl, ht⟩ := open_idx Try.underlying24 (by kernel_rfl) Try.underlying3 Try.underlying22 Try.underlying3 (by kernel_rfl) (by kernel_rfl) (by kernel_rfl) rfl rfl (hval 0 _ v0 rfl rfl) h0
  obtain ⟨z1, rfl, rfl, rfl, wz1⟩ := open_int Try.underlying5 (hval 1 _ v1 rfl rfl) h1
  have wb1 := bounds_u8 wz1
  obtain ⟨q, rfl⟩ := Int.eq_ofNat_of_zero_le wb1.1
  obtain ⟨z2, rfl, rfl, rfl, wz2⟩ := open_int Try.underlying43 (hval 2 _ v2 rfl rfl) h2
  have wb2 := bounds_u32 wz2
  obtain ⟨h, rfl⟩ := Int.eq_ofNat_of_zero_le wb2.1
  refine (indexParts_any d t ht q (by omega) h (by omega) W).mono fun e W' ⟨he, hb⟩ => ?_
  subst he
  exact ⟨_, rfl, law_post Try.laidOut (readable_all (by kernel_rfl)) rfl rfl Try.underlying4 rfl hW' hb⟩

theorem indexParts_holds : Rows.IndexPartsSaid := OpenClaim.holds_of_wide 7 Try.f7 rfl rfl rfl rfl rfl rfl rfl ⟨rfl, rfl, rfl, rfl, rfl⟩ rfl rfl rfl rfl rfl (by kernel_rfl) Try.func7 (by kernel_rfl) (of_decide_eq_true (by kernel_rfl)) (by unfold Func.isWrapper; first | (rw [if_pos (by decide +kernel)]; kernel_rfl) | (rw [if_neg (by decide +kernel)]; exact ⟨rfl, rfl⟩)) (fun os started H enc _ => indexParts_lifted os started H enc)

end Go.Proofs.Ythcbjihdbkpkeaa
