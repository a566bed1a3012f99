/-
  Whatever the arguments of SchedViews are, it answers true and leaves them. No condition.
-/
import Derived.Test.YtpmbpklbiocclaaGreatGrBI
import Derived.Test.YtpmbpklbiocclaaGreatSch13d
import Derived.Test.YtpmbpklbiocclaaGreatGrAF
import Derived.Test.YtpmbpklbiocclaaGreatGrAC
import Derived.ChangeMaps5
namespace Go.Proofs.YtpmbpklbiocclaaGreat
open Go.ChangeShapes Go.WideShapes Go.ChangeAt Go.RowKit Go.ChangeMaps

set_option maxRecDepth 100000 in
theorem schedViews_lifted (os : Os) (started : os.Started) (H : Type) (enc : TypeId × Value → H) :
    ReturnsInHanded {} Tryz.checked os 5 .any (Rows.schedViewsSpec.pre6 enc Tryz.prog Tryz.f5 Rows.schedViewsRow.domain false) (Rows.schedViewsSpec.post enc Tryz.prog Tryz.f5 false true false false) := by
  refine returnsInHanded_of_change (C := Tryz.checked) Tryz.own started (by kernel_rfl) Tryz.func5 (ChangeSpec.witness6 (enc := enc) (C := Tryz.checked) false ⟨#[], #[.slice none 0 0, .slice none 0 0], []⟩ 8 (by kernel_rfl) (by kernel_rfl) (by kernel_rfl) (by kernel_rfl)) ?_; intro W base args ds gs before hval0 hW hcnd _; have hval : ∀ (j : Nat) t v, Tryz.f5.params[j]? = some t → args[j]? = some v → Value.okWide Tryz.prog W .any base t v := hval0; have hW' := hW; obtain ⟨p, q, hA0, hV, rfl, hfz, hnd⟩ := hW; have hA : DataW.TrodAll enc Tryz.prog W 0 (fun _ => true) true Tryz.f5.params.toList args.toList ds p := hA0; rw [Tryz.params5] at hA hval; obtain ⟨rfl, rfl⟩ := trodVars_none hV; clear hA0 hval0
  obtain ⟨v0, v1, d0, d1, p0, p1, rfl, rfl, rfl, h0, h1⟩ := trodAll_two hA
  obtain ⟨A, n, c, l, rfl, hn, hc, hm, hr⟩ := open_changes Tryz.underlying22 Tryz.underlying61 (by kernel_rfl) Tryz.underlying3 (by kernel_rfl) Tryz.underlying3 (by kernel_rfl) rfl (by kernel_rfl) Tryz.underlying59 (by kernel_rfl) Tryz.underlying3 (by kernel_rfl) Tryz.underlying58 Tryz.underlying3 (by kernel_rfl) Tryz.underlying56 (by kernel_rfl) Tryz.underlying5 (by kernel_rfl) rfl rfl rfl rfl rfl rfl (hval 0 _ v0 rfl rfl) h0
  obtain ⟨Aw, nw, cw, ws, rfl, hnw, hcw, hmw, hrw, hww⟩ := open_int_list Tryz.underlying23 Tryz.underlying37 (by kernel_rfl) (hval 1 _ v1 rfl rfl) h1
  refine (schedViews_of stepC (works13_of deepC13 roundsC13 stepC) A n c l hn hc hm Aw nw cw ws hnw hcw hmw (fun z hz => by have := bounds_u64 (hww z hz); omega) W hr.rd hrw).mono fun e W' ⟨he, hb⟩ => ?_
  subst he
  exact ⟨_, rfl, law_post Tryz.laidOut (readable_all (by kernel_rfl)) rfl rfl Tryz.underlying4 rfl hW' hb⟩

theorem schedViews_holds : Rows.SchedViewsSaid := OpenClaim.holds_of_wide 5 Tryz.f5 rfl rfl rfl rfl rfl rfl rfl ⟨rfl, rfl, rfl, rfl, rfl⟩ rfl rfl rfl rfl rfl (by kernel_rfl) Tryz.func5 (by kernel_rfl) (of_decide_eq_true (by kernel_rfl)) (by unfold Func.isWrapper; first | (rw [if_pos (by decide +kernel)]; kernel_rfl) | (rw [if_neg (by decide +kernel)]; exact ⟨rfl, rfl⟩)) (fun os started H enc _ => schedViews_lifted os started H enc)

end Go.Proofs.YtpmbpklbiocclaaGreat
