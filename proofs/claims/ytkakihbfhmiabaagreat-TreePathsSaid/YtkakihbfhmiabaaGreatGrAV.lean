/-
  Texts of this claim joined: Pts1, Pts2.
-/
import Derived.Test.YtkakihbfhmiabaaGreatGrAD
import Derived.Test.YtkakihbfhmiabaaGreatGrAA
import Derived.Test.YtkakihbfhmiabaaGreatPatO
import Derived.Test.YtkakihbfhmiabaaGreatGrAI
import Derived.Test.YtkakihbfhmiabaaGreatGrAS

/-
  Contracts of package points: isPlace, isNumber, numberAt, Get, Patch.
-/
namespace Go.Proofs.YtkakihbfhmiabaaGreat
open Go.RowKit

set_option maxHeartbeats 400000 in
theorem qplace_any (k : Int) (w : World) : Calls Tryz.prog 195 #[.int .i64 k] w fun e w' => e = .returned (.bool (placeQ k)) ∧ w = w' := by
  by_cases h : 0 ≤ k
  · go_enter Tryz.func195, Tryz.ntmps195
    go_wp2
    go_ret
    simp [h, placeQ]
  · go_enter Tryz.func195, Tryz.ntmps195
    go_wp2
    go_ret
    simp [placeQ]
    omega


theorem qat_any (k : Nat) (hk : k < 128) (w : World) : Calls Tryz.prog 196 #[.int .i64 k] w fun e w' => e = .returned (.int .i64 ((2 * k : Nat) : Int)) ∧ w = w' := by
  go_enter Tryz.func196, Tryz.ntmps196
  go_wp2
  go_ret
  simp
  omega

set_option maxHeartbeats 800000 in
theorem qget_any (b : List UInt8) (hb : b.length = 256) (k : Int) (w : World) :
    Calls Tryz.prog 170 #[.agg (bcells b), .int .i64 k] w fun e w' => e = .returned (.int .i64 (getQ b k)) ∧ Below w.heap.size w w' := by
  have HbL := Lib.hid hb
  go_enter Tryz.func170, Tryz.ntmps170
  go_wp2_with (refine wpList_box_row rfl _ _ rfl _ rfl ?_)
  apply Stop.go; intro w1 Hg1 Hb1
  go_wp2_with fail
  refine (qplace_any k _).mono ?_; rintro e w2 ⟨rfl, rfl⟩
  cases hp : placeQ k
  · have H0 := Lib.hid (getQ_no b hp)
    clear hp
    go_wp2_with fail
    go_ret
    rw [H0.out]
    exact ⟨rfl, Hg1.out.1⟩
  · obtain ⟨q, hq, rfl⟩ := placeQ_true hp
    have H0 := Lib.hid (show getQ b (q : Int) = ((getN b ((2 * q : Nat) : Int) 2 4 : Nat) : Int) by rw [getQ_nat b hq, getN_nm hb hq])
    clear hp hb
    go_wp2_with fail
    refine WH.start (S := fun w' : World => Blk w' w.heap.size 82 (bcells b)) [false, false, false, false, false] 5 rfl rfl (by kernel_rfl) (Hb1.out.ext (bdrew w1 1)) (fun hSn => ?_); obtain ⟨wS, hwS⟩ : ∃ x, (w1).drew = x := ⟨_, rfl⟩; have HE := Lib.hid (show Below (w1).heap.size (w1) wS from hwS ▸ bdrew w1 1); rw [hwS] at hSn ⊢; clear hwS
    refine WH.tv 0 rfl (fun w' hSw => exec_load_blk _ _ rfl _ rfl _ _ (hSw) _ (Tryz.underlying82) rfl (Tryz.blockFits HbL.out)) ?_; simp only [setL]
    refine WH.tk 1 ?_; simp only [setL]
    refine WH.only 2 _ rfl (by kernel_rfl) rfl (fun K hK => ?_)
    go_simp; refine (qat_any q hq _).mono ?_; rintro e wa ⟨rfl, rfl⟩; go_simp
    have hSn := hSn; refine hK _ _ hSn ?_; clear hK; clear K; simp only [setL]
    refine WH.only 3 _ rfl (by kernel_rfl) rfl (fun K hK => ?_)
    go_simp; refine (nat_any b HbL.out ((2 * q : Nat) : Int) 2 _).mono ?_; rintro e wb ⟨rfl, hbb⟩; go_simp
    have HE := Lib.hid (bt HE.out hbb)
    have hSn := hSn.ext hbb; refine hK _ _ hSn ?_; clear hK; clear K; simp only [setL]
    refine WH.tk 4 ?_; simp only [setL]
    refine WH.done (by kernel_rfl) ?_
    go_wp2_with fail
    go_ret
    rw [H0.out]
    exact ⟨rfl, bt Hg1.out.1 HE.out⟩


end Go.Proofs.YtkakihbfhmiabaaGreat

/-
  Contracts of package points: Make, List, Last.
-/
namespace Go.Proofs.YtkakihbfhmiabaaGreat
open Go.RowKit
set_option maxRecDepth 10000




end Go.Proofs.YtkakihbfhmiabaaGreat
