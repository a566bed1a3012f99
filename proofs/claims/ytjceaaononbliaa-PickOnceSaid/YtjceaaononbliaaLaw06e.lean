/-
  Whatever the argument of PickOnce is, it answers true and leaves it. No condition.
-/
import Derived.Test.YtjceaaononbliaaLaw06
import Derived.Test.YtjceaaononbliaaOpenF
import Derived.Test.YtjceaaononbliaaRow
import Derived.ChangeMaps5
namespace Go.Proofs.Ytjceaaononbliaa
open Go.ChangeShapes Go.WideShapes Go.ChangeAt Go.RowKit Go.ChangeMaps

set_option maxRecDepth 100000 in
theorem pickOnce_lifted (os : Os) (started : os.Started) (H : Type) (enc : TypeId × Value → H) :
    ReturnsInHanded {} Try.checked os 7 .any (Rows.pickOnceSpec.pre6 enc Try.prog Try.f7 Rows.pickOnceRow.domain false) (Rows.pickOnceSpec.post enc Try.prog Try.f7 false true false false) := by
  refine returnsInHanded_of_change (C := Try.checked) Try.own started (by kernel_rfl) Try.func7 (ChangeSpec.witness6 (enc := enc) (C := Try.checked) false ⟨#[], #[.slice none 0 0], []⟩ 8 (by kernel_rfl) (by kernel_rfl) (by kernel_rfl) (by kernel_rfl)) ?_; intro W base args ds gs before hval0 hW hcnd _; have hval : ∀ (j : Nat) t v, Try.f7.params[j]? = some t → args[j]? = some v → Value.okWide Try.prog W .any base t v := hval0; have hW' := hW; obtain ⟨p, q, hA0, hV, rfl, hfz, hnd⟩ := hW; have hA : DataW.TrodAll enc Try.prog W 0 (fun _ => true) true Try.f7.params.toList args.toList ds p := hA0; rw [Try.params7] at hA hval; obtain ⟨rfl, rfl⟩ := trodVars_none hV; clear hA0 hval0
  obtain ⟨v0, d0, rfl, rfl, h0⟩ := trodAll_one hA
  obtain ⟨A, n, c, l, rfl, hn, hc, hm, hr, hl⟩ := open_float_list Try.underlying26 Try.underlying22 (by kernel_rfl) (hval 0 _ v0 rfl rfl) h0
  refine (pickOnce_any A n c l hn (Nat.le_trans hc hm) hl W hr).mono fun e W' ⟨he, hb⟩ => ?_
  subst he
  exact ⟨_, rfl, law_post Try.laidOut (readable_all (by kernel_rfl)) rfl rfl Try.underlying4 rfl hW' hb⟩

theorem pickOnce_holds : Rows.PickOnceSaid := OpenClaim.holds_of_wide 7 Try.f7 rfl rfl rfl rfl rfl rfl rfl ⟨rfl, rfl, rfl, rfl, rfl⟩ rfl rfl rfl rfl rfl (by kernel_rfl) Try.func7 (by kernel_rfl) (of_decide_eq_true (by kernel_rfl)) (by unfold Func.isWrapper; first | (rw [if_pos (by decide +kernel)]; kernel_rfl) | (rw [if_neg (by decide +kernel)]; exact ⟨rfl, rfl⟩)) (fun os started H enc _ => pickOnce_lifted os started H enc)

end Go.Proofs.Ytjceaaononbliaa
