/-
  Contracts of package disk: slices.Clone of blocks, Image, New, From.
-/
import Derived.Test.YtpmbpklbiocclaaGreatGrAI
import Derived.Lib.SliceRun
namespace Go.Proofs.YtpmbpklbiocclaaGreat
open Go.RowKit

theorem Tryz.blockInfo : (Tryz.prog.info? 50).map (fun i => (i.zero, i.size, i.bytes)) = some (some (.agg (bcells (zeros 256))), 256, 256) := by kernel_rfl

section
variable {P : Program} {ops : Array Oper} {rest : List Oper} {o : Oper} {a : Act} {w : World} {K : Act → World → Prop} {Q : Exit → Act → World → Prop}
end



set_option maxHeartbeats 400000 in
theorem dnew_any (n : Int) (hlo : -9223372036854775808 ≤ n) (hhi : n < 9223372036854775808) (w : World) :
    Calls Tryz.prog 20 #[.int .i64 n] w fun e w' => ∃ b g, e = .returned (.pointer (some ⟨b, 0, none⟩)) ∧ w.heap.size ≤ b ∧ w.heap.size ≤ g ∧ DV w' b g (Dev.new n) ∧ Below w.heap.size w w' := by
  have hways : (n < 16 ∧ devSize n = 16) ∨ (¬ n < 16 ∧ ¬ 512 < n ∧ (devSize n : Int) = n) ∨ (¬ n < 16 ∧ 512 < n ∧ devSize n = 512) := by
    unfold devSize
    by_cases h1 : n < 16
    · left; simp [h1]
    · by_cases h2 : 512 < n
      · right; right; simp [h1, h2]
      · right; left
        rw [if_neg h1, if_neg h2]
        exact ⟨h1, h2, by omega⟩
  have hle := devSize_le n
  obtain ⟨m, HM⟩ : ∃ m, Hid (devSize n = m) := ⟨_, Lib.hid rfl⟩
  rw [HM.out] at hways hle
  go_enter Tryz.func20, Tryz.ntmps20
  rcases hways with ⟨h1, h3⟩ | ⟨h1, h2, h3⟩ | ⟨h1, h2, h3⟩
  focus (
    have h1' : ¬ 16 ≤ n := by omega
    have H3 := Lib.hid h3
    clear h3 h1
    go_wp2_with (refine wpList_make_bk rfl _ _ _ _ rfl Tryz.underlying82 Tryz.blockInfo _ _ _ _ m rfl rfl (by have := H3.out; omega) (by have := H3.out; omega) (by omega) ?_))
  rotate_left
  focus (
    have h1' : 16 ≤ n := by omega
    have h2' : n ≤ 512 := by omega
    have H3 := Lib.hid h3
    clear h3 h1 h2
    go_wp2_with (refine wpList_make_bk rfl _ _ _ _ rfl Tryz.underlying82 Tryz.blockInfo _ _ _ _ m rfl rfl H3.out.symm H3.out.symm (by omega) ?_))
  rotate_left
  focus (
    have h1' : 16 ≤ n := by omega
    have h2' : ¬ n ≤ 512 := by omega
    have H3 := Lib.hid h3
    clear h3 h1 h2
    go_wp2_with (refine wpList_make_bk rfl _ _ _ _ rfl Tryz.underlying82 Tryz.blockInfo _ _ _ _ m rfl rfl (by have := H3.out; omega) (by have := H3.out; omega) (by omega) ?_))
  all_goals
    apply Stop.go; intro w1 Hg1 Hb1
    go_wp2_with (refine wpList_box_row rfl _ _ rfl _ rfl ?_)
    apply Stop.go; intro w2 Hg2 Hb2
    go_wp2_with fail
    go_ret
    have hlt := Hb1.out.lt
    refine ⟨_, _, rfl, ?_, Nat.le_refl _, ⟨⟨0, ?_, fun h => absurd h (by show ¬ (0 : Int) ≤ -1; decide)⟩, Bks.same _ (zeros_len 256), ?_, by omega, ?_, by show (-1 : Int) < _; decide⟩, bt Hg1.out.1 Hg2.out.1⟩
    · omega
    · have h := Hb2.out
      unfold Dev.new
      simp only [List.length_replicate, HM.out]
      exact h
    · unfold Dev.new
      rw [HM.out]
      exact Hb1.out.ext Hg2.out.1
    · unfold Dev.new
      rw [List.length_replicate, HM.out]
      omega

end Go.Proofs.YtpmbpklbiocclaaGreat
