/-
  Whatever the arguments of PointsKeeps are, it answers true and leaves them. No condition.
-/
import Derived.Test.YtennkfpehdijcaaLaw20k
import Derived.Test.YtennkfpehdijcaaRow
import Derived.Test.YtennkfpehdijcaaOpen
import Derived.ChangeMaps5
namespace Go.Proofs.Ytennkfpehdijcaa
open Go.ChangeShapes Go.WideShapes Go.ChangeAt Go.RowKit Go.ChangeMaps

set_option maxRecDepth 100000 in
theorem pointsKeeps_lifted (os : Os) (started : os.Started) (H : Type) (enc : TypeId × Value → H) :
    ReturnsInHanded {} Try.checked os 5 .any (Rows.pointsKeepsSpec.pre6 enc Try.prog Try.f5 Rows.pointsKeepsRow.domain false) (Rows.pointsKeepsSpec.post enc Try.prog Try.f5 false true false false) := by
  refine returnsInHanded_of_change (C := Try.checked) Try.own started (by kernel_rfl) Try.func5 (ChangeSpec.witness6 (enc := enc) (C := Try.checked) false ⟨#[], #[.agg (bcells (zeros 256)), .agg (bcells [0, 0]), .int .u16 0], []⟩ 8 (by kernel_rfl) (by kernel_rfl) (by kernel_rfl) (by kernel_rfl)) ?_; intro W base args ds gs before hval0 hW hcnd _; have hval : ∀ (j : Nat) t v, Try.f5.params[j]? = some t → args[j]? = some v → Value.okWide Try.prog W .any base t v := hval0; have hW' := hW; obtain ⟨p, q, hA0, hV, rfl, hfz, hnd⟩ := hW; have hA : DataW.TrodAll enc Try.prog W 0 (fun _ => true) true Try.f5.params.toList args.toList ds p := hA0; rw [Try.params5] at hA hval; obtain ⟨rfl, rfl⟩ := trodVars_none hV; clear hA0 hval0
  obtain ⟨v0, v1, v2, d0, d1, d2, p0, p1, p2, rfl, rfl, rfl, h0, h1, h2⟩ := trodAll_three hA
  obtain ⟨L, rfl, hL⟩ := open_byte_array Try.underlying22 Try.underlying5 (by kernel_rfl) (by kernel_rfl) (hval 0 _ v0 rfl rfl) h0
  obtain ⟨A, rfl, hA2⟩ := open_byte_array Try.underlying50 Try.underlying5 (by kernel_rfl) (by kernel_rfl) (hval 1 _ v1 rfl rfl) h1
  obtain ⟨z, rfl, rfl, rfl, wz⟩ := open_int Try.underlying51 (hval 2 _ v2 rfl rfl) h2
  have wb := bounds_u16 wz
  obtain ⟨q, rfl⟩ := Int.eq_ofNat_of_zero_le wb.1
  obtain ⟨a0, a1, rfl⟩ := list_two hA2
  refine (pointsKeeps_any L hL a0 a1 q (by omega) W).mono fun e W' ⟨he, hb⟩ => ?_
  subst he
  exact ⟨_, rfl, law_post Try.laidOut (readable_all (by kernel_rfl)) rfl rfl Try.underlying4 rfl hW' hb⟩

theorem pointsKeeps_holds : Rows.PointsKeepsSaid := OpenClaim.holds_of_wide 5 Try.f5 rfl rfl rfl rfl rfl rfl rfl ⟨rfl, rfl, rfl, rfl, rfl⟩ rfl rfl rfl rfl rfl (by kernel_rfl) Try.func5 (by kernel_rfl) (of_decide_eq_true (by kernel_rfl)) (by unfold Func.isWrapper; first | (rw [if_pos (by decide +kernel)]; kernel_rfl) | (rw [if_neg (by decide +kernel)]; exact ⟨rfl, rfl⟩)) (fun os started H enc _ => pointsKeeps_lifted os started H enc)

end Go.Proofs.Ytennkfpehdijcaa
