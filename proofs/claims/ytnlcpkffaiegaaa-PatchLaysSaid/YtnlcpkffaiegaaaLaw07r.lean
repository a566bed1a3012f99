/-
  The walk of PatchLays.
-/
import Derived.Test.YtnlcpkffaiegaaaLaw07p
import Derived.Deep.CutRange
namespace Go.Proofs.Ytnlcpkffaiegaaa
open Go.RowKit

set_option maxHeartbeats 4000000 in
theorem patchLays_any (L : List UInt8) (hL : L.length = 256) (p : Pt) (A : Option Addr) (n c : Nat) (q : Pt) (A' : Option Addr) (n' c' : Nat) (w : World) (hp : PV w p A n c) (hq : PV w q A' n' c') :
    Calls Try.prog 3 #[.agg (bcells L), .agg #[.int .i64 p.at_, .slice A n c], .agg #[.int .i64 q.at_, .slice A' n' c']] w fun e w' => e = .returned (.bool true) ∧ Below w.heap.size w w' := by
  have HL := Lib.hid hL
  have Hp := Lib.hid hp
  have Hq := Lib.hid hq
  clear hL hp hq
  go_enter Try.func3, Try.ntmps3
  go_wp2_with (refine wpList_box_row rfl _ _ rfl _ rfl ?_)
  apply Stop.go; intro w1 Hg1 Hb1
  go_wp2_with (refine wpList_box_row rfl _ _ rfl _ rfl ?_)
  apply Stop.go; intro w2 Hg2 Hb2
  go_wp2_with (refine wpList_box_row rfl _ _ rfl _ rfl ?_)
  apply Stop.go; intro w4 Hg3 Hb3
  have Hw0 := Lib.hid (bt (bt Hg1.out.1 Hg2.out.1) Hg3.out.1)
  have HX4 := Lib.hid ((Hb1.out.ext Hg2.out.1).ext Hg3.out.1)
  have HB4 := Lib.hid (Hb2.out.ext Hg3.out.1)
  have HP0 := Lib.hid (Hp.out.below Hw0.out)
  have HQ0 := Lib.hid (Hq.out.below Hw0.out)
  have k1 : w4.cell? ⟨w1.heap.size, 1, none⟩ = some (.slice A n c) := HB4.out.cell 1
  have k2 : w4.cell? ⟨w2.heap.size, 1, none⟩ = some (.slice A' n' c') := Hb3.out.cell 1
  by_cases h6 : n ≤ 600
  rotate_left
  focus (
  have d1 : decide ((600 : Int) < n) = true := by simp; omega
  go_wp2_with fail
  refine (works07_any _).mono ?_; rintro e w9 ⟨rfl, hb9⟩
  go_wp2_with fail
  go_ret
  exact ⟨rfl, bt Hw0.out hb9⟩)
  have d1 : decide ((600 : Int) < n) = false := by simp; omega
  by_cases h7 : n' ≤ 600
  rotate_left
  focus (
  have d2 : decide ((600 : Int) < n') = true := by simp; omega
  go_wp2_with fail
  refine (works07_any _).mono ?_; rintro e w9 ⟨rfl, hb9⟩
  go_wp2_with fail
  go_ret
  exact ⟨rfl, bt Hw0.out hb9⟩)
  have d2 : decide ((600 : Int) < n') = false := by simp; omega
  have HM := Lib.hid (layP_len p HL.out)
  go_upto_region 3 with fail
  go_cut [7] from 20 to 23 (fun v wx => ∃ G, v = .pointer (some ⟨G, 0, none⟩) ∧ Blk wx G 27 (bcells (layP L p)) ∧ Below w4.heap.size w4 wx)
  case first =>
    refine WH.start (S := fun w' : World => Below w4.heap.size w4 w') (List.replicate 6 false) 6 rfl rfl (by kernel_rfl) (bdrew w4 1) (fun hSn => ?_)
    simp only [List.replicate]
    obtain ⟨wS, hwS⟩ : ∃ x, w4.drew = x := ⟨_, rfl⟩
    rw [hwS] at hSn ⊢
    clear hwS
    refine WH.take 0 _ _ rfl (by kernel_rfl) (fun _ _ _ h => h) rfl (by assumption) (fun w' hSw => exec_load_blk _ _ rfl _ rfl _ _ (HX4.out.ext hSw) _ (Try.underlying22) rfl (Try.arr256Fits HL.out)) ?_; simp only [Act.put, List.setIfInBounds_toArray, List.set_cons_zero, List.set_cons_succ]
    refine WH.take 1 _ _ rfl (by kernel_rfl) (fun _ _ _ h => h) rfl (by assumption) (fun w' hSw => exec_load_blk _ _ rfl _ rfl _ _ (HB4.out.ext hSw) _ (Try.underlying25) rfl (Try.rpatchSize)) ?_; simp only [Act.put, List.setIfInBounds_toArray, List.set_cons_zero, List.set_cons_succ]
    refine WH.two 2 4 _ _ rfl rfl (by kernel_rfl) rfl rfl (fun K hK => ?_) (fun K hK => ?_)
    focus (
      go_simp; refine (to_any p A n c _ (HP0.out.below hSn) (by omega)).mono ?_; rintro e wa ⟨ga, na, ca, rfl, hpa, hba, -⟩; go_simp
      have hSn := bt hSn hba; refine hK _ _ hSn ?_; clear hK; clear K; simp only [List.set_cons_zero, List.set_cons_succ]
      refine WH.two 3 4 _ _ rfl rfl (by kernel_rfl) rfl rfl (fun K hK => ?_) (fun K hK => ?_)
      focus (
        go_simp; refine (play_any L HL.out p (some ⟨ga, 0, none⟩) na ca _ hpa).mono ?_; rintro e wb ⟨rfl, hbb⟩; go_simp
        have hpa := hpa.below hbb
        have hSn := bt hSn hbb; refine hK _ _ hSn ?_; clear hK; clear K; simp only [List.set_cons_zero, List.set_cons_succ]
        refine WH.only 4 _ rfl (by kernel_rfl) rfl (fun K hK => ?_)
        have hle := hSn.size
        have hbl := hSn
        refine ow_alloc _ rfl _ Try.blockZero ?_
        apply Stop.go
        intro wN HgN HBa
        have HBa := HBa.out
        have hgN := HgN.out.1
        have hpa := hpa.below hgN
        have hSn := bt hbl hgN; refine hK _ _ hSn ?_; clear hK; clear K; simp only [Act.put, List.setIfInBounds_toArray, List.set_cons_zero, List.set_cons_succ]
        clear hbl HgN
        refine WH.only 5 _ rfl (by kernel_rfl) rfl (fun K hK => ?_)
        refine ow_store _ _ _ rfl _ (bcells (layP L p)) rfl rfl _ _ HBa (Try.blockFits HM.out) (by rw [bcells_size, bcells_size, HM.out, zeros_len]) (oneCell_bcells _) ?_
        apply Stop.go
        intro w9 Ho9 HxG
        have D9 := Lib.hid (bonly hSn Ho9.out hle)
        have hSn := D9.out; refine hK _ _ hSn ?_; clear hK; clear K; simp only [Act.put, List.set_cons_zero, List.set_cons_succ]
        refine WH.done (by kernel_rfl) ?_
        generalize wb.heap.size = G at *
        clear HBa Ho9 hle hSn
        clear hpa)
      rotate_left 1
      focus (
        have hle := hSn.size
        have hbl := hSn
        refine ow_alloc _ rfl _ Try.blockZero ?_
        apply Stop.go
        intro wN HgN HBa
        have HBa := HBa.out
        have hgN := HgN.out.1
        have hpa := hpa.below hgN
        have hSn := bt hbl hgN; refine hK _ _ hSn ?_; clear hK; clear K; simp only [Act.put, List.setIfInBounds_toArray, List.set_cons_zero, List.set_cons_succ]
        clear hbl HgN
        refine WH.only 3 _ rfl (by kernel_rfl) rfl (fun K hK => ?_); go_simp; refine (play_any L HL.out p (some ⟨ga, 0, none⟩) na ca _ hpa).mono ?_; rintro e wb ⟨rfl, hbb⟩; go_simp
        have hpa := hpa.below hbb
        have HBa := HBa.ext hbb
        have hSn := bt hSn hbb; refine hK _ _ hSn ?_; clear hK; clear K; simp only [List.set_cons_zero, List.set_cons_succ]
        refine WH.only 5 _ rfl (by kernel_rfl) rfl (fun K hK => ?_)
        refine ow_store _ _ _ rfl _ (bcells (layP L p)) rfl rfl _ _ HBa (Try.blockFits HM.out) (by rw [bcells_size, bcells_size, HM.out, zeros_len]) (oneCell_bcells _) ?_
        apply Stop.go
        intro w9 Ho9 HxG
        have D9 := Lib.hid (bonly hSn Ho9.out hle)
        have hSn := D9.out; refine hK _ _ hSn ?_; clear hK; clear K; simp only [Act.put, List.set_cons_zero, List.set_cons_succ]
        refine WH.done (by kernel_rfl) ?_
        generalize wa.heap.size = G at *
        clear HBa Ho9 hle hSn
        clear hpa))
    rotate_left 2
    focus (
      have hle := hSn.size
      have hbl := hSn
      refine ow_alloc _ rfl _ Try.blockZero ?_
      apply Stop.go
      intro wN HgN HBa
      have HBa := HBa.out
      have hgN := HgN.out.1
      have hSn := bt hbl hgN; refine hK _ _ hSn ?_; clear hK; clear K; simp only [Act.put, List.setIfInBounds_toArray, List.set_cons_zero, List.set_cons_succ]
      clear hbl HgN
      refine WH.only 2 _ rfl (by kernel_rfl) rfl (fun K hK => ?_); go_simp; refine (to_any p A n c _ (HP0.out.below hSn) (by omega)).mono ?_; rintro e wa ⟨ga, na, ca, rfl, hpa, hba, -⟩; go_simp
      have HBa := HBa.ext hba
      have hSn := bt hSn hba; refine hK _ _ hSn ?_; clear hK; clear K; simp only [List.set_cons_zero, List.set_cons_succ]
      refine WH.only 3 _ rfl (by kernel_rfl) rfl (fun K hK => ?_); go_simp; refine (play_any L HL.out p (some ⟨ga, 0, none⟩) na ca _ hpa).mono ?_; rintro e wb ⟨rfl, hbb⟩; go_simp
      have hpa := hpa.below hbb
      have HBa := HBa.ext hbb
      have hSn := bt hSn hbb; refine hK _ _ hSn ?_; clear hK; clear K; simp only [List.set_cons_zero, List.set_cons_succ]
      refine WH.only 5 _ rfl (by kernel_rfl) rfl (fun K hK => ?_)
      refine ow_store _ _ _ rfl _ (bcells (layP L p)) rfl rfl _ _ HBa (Try.blockFits HM.out) (by rw [bcells_size, bcells_size, HM.out, zeros_len]) (oneCell_bcells _) ?_
      apply Stop.go
      intro w9 Ho9 HxG
      have D9 := Lib.hid (bonly hSn Ho9.out hle)
      have hSn := D9.out; refine hK _ _ hSn ?_; clear hK; clear K; simp only [Act.put, List.set_cons_zero, List.set_cons_succ]
      refine WH.done (by kernel_rfl) ?_
      generalize wS.heap.size = G at *
      clear HBa Ho9 hle hSn
      clear hpa)
    all_goals
      go_wp2_with fail
      go_meet
      exact ⟨G, rfl, HxG.out, D9.out⟩
  case rest =>
  obtain ⟨G, rfl, hx, hd⟩ := hcut
  have HY5 := Lib.hid hx
  have HX5 := Lib.hid (HX4.out.ext hd)
  have HB5 := Lib.hid (HB4.out.ext hd)
  have HC5 := Lib.hid (Hb3.out.ext hd)
  have HP5 := Lib.hid (HP0.out.below hd)
  have HQ5 := Lib.hid (HQ0.out.below hd)
  have Hw5 := Lib.hid (bt Hw0.out hd)
  clear hx hd k1 k2 d1 d2
  generalize wc = w5 at *
  go_wp2_with (refine wpList_load_blk rfl _ _ rfl _ rfl _ _ HB5.out _ Try.underlying25 rfl Try.rpatchSize ?_)
  refine (to_any p A n c _ HP5.out (by omega)).mono ?_; rintro e wa ⟨ga, na, ca, rfl, hpa, hba, -⟩
  have Hpa := Lib.hid hpa
  have Hba := Lib.hid hba
  clear hpa hba
  go_wp2_with fail
  refine (check_any p (some ⟨ga, 0, none⟩) na ca _ Hpa.out).mono ?_; rintro e w6 ⟨rfl, hb6⟩
  have D6 := Lib.hid (bt Hba.out hb6)
  clear hb6 Hpa Hba
  have HX6 := Lib.hid (HX5.out.ext D6.out)
  have HY6 := Lib.hid (HY5.out.ext D6.out)
  have HB6 := Lib.hid (HB5.out.ext D6.out)
  have HC6 := Lib.hid (HC5.out.ext D6.out)
  have HP6 := Lib.hid (HP5.out.below D6.out)
  have HQ6 := Lib.hid (HQ5.out.below D6.out)
  have Hw6 := Lib.hid (bt Hw5.out D6.out)
  cases hpr : p.right
  focus (
    have Hck := Lib.hid (show checkI p = 2 by unfold checkI; rw [hpr]; rfl)
    rw [Hck.out]
    go_wp2_with fail
    refine WH.start (S := fun w' : World => Below w6.heap.size w6 w') (List.replicate 21 false) 21 rfl rfl (by kernel_rfl) (bdrew w6 1) (fun hSn => ?_)
    simp only [List.replicate]
    obtain ⟨wS, hwS⟩ : ∃ x, w6.drew = x := ⟨_, rfl⟩
    rw [hwS] at hSn ⊢
    clear hwS
    refine WH.take 0 _ _ rfl (by kernel_rfl) (fun _ _ _ h => h) rfl (by assumption) (fun w' hSw => exec_load_blk _ _ rfl _ rfl _ _ (HB6.out.ext hSw) _ (Try.underlying25) rfl (Try.rpatchSize)) ?_; simp only [Act.put, List.setIfInBounds_toArray, List.set_cons_zero, List.set_cons_succ]
    refine WH.take 2 _ ?_ rfl (by kernel_rfl) (fun _ _ _ h => h) rfl (by assumption) ?_ ?_; rotate_left; (focus (intro w hSw; (try dsimp only at hSw); (first | (go_simp; done) | (go_simp; with_reducible rfl)))); simp only [Act.put, List.setIfInBounds_toArray, List.set_cons_zero, List.set_cons_succ]
    refine WH.take 3 _ ?_ rfl (by kernel_rfl) (fun _ _ _ h => h) rfl (by assumption) ?_ ?_; rotate_left; (focus (intro w hSw; (try dsimp only at hSw); (first | (go_simp; done) | (go_simp; with_reducible rfl)))); simp only [Act.put, List.setIfInBounds_toArray, List.set_cons_zero, List.set_cons_succ]
    refine WH.only 1 _ rfl (by kernel_rfl) rfl (fun K hK => ?_); go_simp; refine (right_any p A n c _ (HP6.out.below hSn)).mono ?_; rintro e wa ⟨rfl, hba⟩; go_simp
    have hSn := bt hSn hba; refine hK _ _ hSn ?_; clear hK; clear K; simp only [List.set_cons_zero, List.set_cons_succ]
    refine WH.take 4 _ ?_ rfl (by kernel_rfl) (fun _ _ _ h => h) rfl (by assumption) ?_ ?_; rotate_left; (focus (intro w hSw; (try dsimp only at hSw); (first | (go_simp; done) | (go_simp; with_reducible rfl)))); simp only [Act.put, List.setIfInBounds_toArray, List.set_cons_zero, List.set_cons_succ]
    refine WH.take 5 _ ?_ rfl (by kernel_rfl) (fun _ _ _ h => h) rfl (by assumption) ?_ ?_; rotate_left; (focus (intro w hSw; (try dsimp only at hSw); (first | (go_simp; done) | (go_simp; with_reducible rfl)))); simp only [Act.put, List.setIfInBounds_toArray, List.set_cons_zero, List.set_cons_succ]
    refine WH.take 6 _ ?_ rfl (by kernel_rfl) (fun _ _ _ h => h) rfl (by assumption) ?_ ?_; rotate_left; (focus (intro w hSw; (try dsimp only at hSw); (first | (go_simp; done) | (go_simp; with_reducible rfl)))); simp only [Act.put, List.setIfInBounds_toArray, List.set_cons_zero, List.set_cons_succ]
    refine WH.take 7 _ ?_ rfl (by kernel_rfl) (fun _ _ _ h => h) rfl (by assumption) ?_ ?_; rotate_left; (focus (intro w hSw; (try dsimp only at hSw); (first | (go_simp; done) | (go_simp; with_reducible rfl)))); simp only [Act.put, List.setIfInBounds_toArray, List.set_cons_zero, List.set_cons_succ]
    refine WH.take 8 _ ?_ rfl (by kernel_rfl) (fun _ _ _ h => h) rfl (by assumption) ?_ ?_; rotate_left; (focus (intro w hSw; (try dsimp only at hSw); (first | (go_simp; done) | (go_simp; with_reducible rfl)))); simp only [Act.put, List.setIfInBounds_toArray, List.set_cons_zero, List.set_cons_succ]
    refine WH.take 9 _ ?_ rfl (by kernel_rfl) (fun _ _ _ h => h) rfl (by assumption) ?_ ?_; rotate_left; (focus (intro w hSw; (try dsimp only at hSw); (first | (go_simp; done) | (go_simp; with_reducible rfl)))); simp only [Act.put, List.setIfInBounds_toArray, List.set_cons_zero, List.set_cons_succ]
    refine WH.take 10 _ ?_ rfl (by kernel_rfl) (fun _ _ _ h => h) rfl (by assumption) ?_ ?_; rotate_left; (focus (intro w hSw; (try dsimp only at hSw); (first | (go_simp; done) | (go_simp; with_reducible rfl)))); simp only [Act.put, List.setIfInBounds_toArray, List.set_cons_zero, List.set_cons_succ]
    refine WH.take 11 _ ?_ rfl (by kernel_rfl) (fun _ _ _ h => h) rfl (by assumption) ?_ ?_; rotate_left; (focus (intro w hSw; (try dsimp only at hSw); (first | (go_simp; done) | (go_simp; with_reducible rfl)))); simp only [Act.put, List.setIfInBounds_toArray, List.set_cons_zero, List.set_cons_succ]
    refine WH.take 12 _ ?_ rfl (by kernel_rfl) (fun _ _ _ h => h) rfl (by assumption) ?_ ?_; rotate_left; (focus (intro w hSw; (try dsimp only at hSw); (first | (go_simp; done) | (go_simp; with_reducible rfl)))); simp only [Act.put, List.setIfInBounds_toArray, List.set_cons_zero, List.set_cons_succ]
    refine WH.take 13 _ ?_ rfl (by kernel_rfl) (fun _ _ _ h => h) rfl (by assumption) ?_ ?_; rotate_left; (focus (intro w hSw; (try dsimp only at hSw); (first | (go_simp; done) | (go_simp; with_reducible rfl)))); simp only [Act.put, List.setIfInBounds_toArray, List.set_cons_zero, List.set_cons_succ]
    refine WH.take 14 _ _ rfl (by kernel_rfl) (fun _ _ _ h => h) rfl (by assumption) (fun w' hSw => exec_slice_all _ _ rfl _ _ Try.underlying27 Try.byteSize _ rfl (by omega)) ?_; simp only [Act.put, List.setIfInBounds_toArray, List.set_cons_zero, List.set_cons_succ]
    refine WH.take 15 _ _ rfl (by kernel_rfl) (fun _ _ _ h => h) rfl (by assumption) (fun w' hSw => exec_slice_all _ _ rfl _ _ Try.underlying22 Try.byteSize _ rfl (by omega)) ?_; simp only [Act.put, List.setIfInBounds_toArray, List.set_cons_zero, List.set_cons_succ]
    refine WH.take 16 _ _ rfl (by kernel_rfl) (fun _ _ _ h => h) rfl (by assumption) (fun w' hSw => exec_load_blk _ _ rfl _ rfl _ _ (HB6.out.ext hSw) _ (Try.underlying25) rfl (Try.rpatchSize)) ?_; simp only [Act.put, List.setIfInBounds_toArray, List.set_cons_zero, List.set_cons_succ]
    refine WH.only 17 _ rfl (by kernel_rfl) rfl (fun K hK => ?_); go_simp; refine (rlayp_any (some ⟨w.heap.size, 0, none⟩) 256 256 L HL.out HL.out (Nat.le_refl _) (by decide) p A n c _ (RB.of_blk0 (HX6.out.ext hSn)) (HP6.out.below hSn)).mono ?_; rintro e wb ⟨B1, m1, k1, rfl, e1, e2, e3, hr1, hbb⟩; go_simp
    have hSn := bt hSn hbb; refine hK _ _ hSn ?_; clear hK; clear K; simp only [List.set_cons_zero, List.set_cons_succ]
    refine WH.only 18 _ rfl (by kernel_rfl) rfl (fun K hK => ?_); go_simp; refine (same_any (some ⟨G, 0, none⟩) 256 256 (layP L p) HM.out B1 m1 k1 (layP L p) e1 (by decide) (Nat.le_trans e2 e3) _ (RB.of_blk0 (HY6.out.ext hSn)) hr1).mono ?_; rintro e wc ⟨rfl, kq, rfl⟩; go_simp
    have hSn := bt hSn (bdrew _ kq); refine hK _ _ hSn ?_; clear hK; clear K; simp only [List.set_cons_zero, List.set_cons_succ]
    refine WH.take 19 _ ?_ rfl (by kernel_rfl) (fun _ _ _ h => h) rfl (by assumption) ?_ ?_; rotate_left; (focus (intro w hSw; (try dsimp only at hSw); (first | (go_simp; done) | (go_simp; with_reducible rfl)))); simp only [Act.put, List.setIfInBounds_toArray, List.set_cons_zero, List.set_cons_succ]
    refine WH.take 20 _ ?_ rfl (by kernel_rfl) (fun _ _ _ h => h) rfl (by assumption) ?_ ?_; rotate_left; (focus (intro w hSw; (try dsimp only at hSw); (first | (go_simp; done) | (go_simp; with_reducible rfl)))); simp only [Act.put, List.setIfInBounds_toArray, List.set_cons_zero, List.set_cons_succ])
  rotate_left
  focus (
    have Hck := Lib.hid (show checkI p = 0 by unfold checkI; rw [hpr]; rfl)
    rw [Hck.out]
    go_wp2_with fail
    refine WH.start (S := fun w' : World => Below w6.heap.size w6 w') (List.replicate 21 false) 21 rfl rfl (by kernel_rfl) (bdrew w6 1) (fun hSn => ?_)
    simp only [List.replicate]
    obtain ⟨wS, hwS⟩ : ∃ x, w6.drew = x := ⟨_, rfl⟩
    rw [hwS] at hSn ⊢
    clear hwS
    refine WH.take 0 _ _ rfl (by kernel_rfl) (fun _ _ _ h => h) rfl (by assumption) (fun w' hSw => exec_load_blk _ _ rfl _ rfl _ _ (HB6.out.ext hSw) _ (Try.underlying25) rfl (Try.rpatchSize)) ?_; simp only [Act.put, List.setIfInBounds_toArray, List.set_cons_zero, List.set_cons_succ]
    refine WH.take 2 _ ?_ rfl (by kernel_rfl) (fun _ _ _ h => h) rfl (by assumption) ?_ ?_; rotate_left; (focus (intro w hSw; (try dsimp only at hSw); (first | (go_simp; done) | (go_simp; with_reducible rfl)))); simp only [Act.put, List.setIfInBounds_toArray, List.set_cons_zero, List.set_cons_succ]
    refine WH.take 3 _ ?_ rfl (by kernel_rfl) (fun _ _ _ h => h) rfl (by assumption) ?_ ?_; rotate_left; (focus (intro w hSw; (try dsimp only at hSw); (first | (go_simp; done) | (go_simp; with_reducible rfl)))); simp only [Act.put, List.setIfInBounds_toArray, List.set_cons_zero, List.set_cons_succ]
    refine WH.only 1 _ rfl (by kernel_rfl) rfl (fun K hK => ?_); go_simp; refine (right_any p A n c _ (HP6.out.below hSn)).mono ?_; rintro e wa ⟨rfl, hba⟩; go_simp
    have hSn := bt hSn hba; refine hK _ _ hSn ?_; clear hK; clear K; simp only [List.set_cons_zero, List.set_cons_succ]
    refine WH.take 4 _ ?_ rfl (by kernel_rfl) (fun _ _ _ h => h) rfl (by assumption) ?_ ?_; rotate_left; (focus (intro w hSw; (try dsimp only at hSw); (first | (go_simp; done) | (go_simp; with_reducible rfl)))); simp only [Act.put, List.setIfInBounds_toArray, List.set_cons_zero, List.set_cons_succ]
    refine WH.take 5 _ ?_ rfl (by kernel_rfl) (fun _ _ _ h => h) rfl (by assumption) ?_ ?_; rotate_left; (focus (intro w hSw; (try dsimp only at hSw); (first | (go_simp; done) | (go_simp; with_reducible rfl)))); simp only [Act.put, List.setIfInBounds_toArray, List.set_cons_zero, List.set_cons_succ]
    refine WH.take 6 _ ?_ rfl (by kernel_rfl) (fun _ _ _ h => h) rfl (by assumption) ?_ ?_; rotate_left; (focus (intro w hSw; (try dsimp only at hSw); (first | (go_simp; done) | (go_simp; with_reducible rfl)))); simp only [Act.put, List.setIfInBounds_toArray, List.set_cons_zero, List.set_cons_succ]
    refine WH.take 7 _ ?_ rfl (by kernel_rfl) (fun _ _ _ h => h) rfl (by assumption) ?_ ?_; rotate_left; (focus (intro w hSw; (try dsimp only at hSw); (first | (go_simp; done) | (go_simp; with_reducible rfl)))); simp only [Act.put, List.setIfInBounds_toArray, List.set_cons_zero, List.set_cons_succ]
    refine WH.take 8 _ ?_ rfl (by kernel_rfl) (fun _ _ _ h => h) rfl (by assumption) ?_ ?_; rotate_left; (focus (intro w hSw; (try dsimp only at hSw); (first | (go_simp; done) | (go_simp; with_reducible rfl)))); simp only [Act.put, List.setIfInBounds_toArray, List.set_cons_zero, List.set_cons_succ]
    refine WH.skip 9 _ rfl (by kernel_rfl) (fun _ _ _ h => h) rfl (by assumption) ?_; simp only [Act.put, List.setIfInBounds_toArray, List.set_cons_zero, List.set_cons_succ]
    refine WH.skip 10 _ rfl (by kernel_rfl) (fun _ _ _ h => h) rfl (by assumption) ?_; simp only [Act.put, List.setIfInBounds_toArray, List.set_cons_zero, List.set_cons_succ]
    refine WH.take 11 _ ?_ rfl (by kernel_rfl) (fun _ _ _ h => h) rfl (by assumption) ?_ ?_; rotate_left; (focus (intro w hSw; (try dsimp only at hSw); (first | (go_simp; done) | (go_simp; with_reducible rfl)))); simp only [Act.put, List.setIfInBounds_toArray, List.set_cons_zero, List.set_cons_succ]
    refine WH.take 12 _ ?_ rfl (by kernel_rfl) (fun _ _ _ h => h) rfl (by assumption) ?_ ?_; rotate_left; (focus (intro w hSw; (try dsimp only at hSw); (first | (go_simp; done) | (go_simp; with_reducible rfl)))); simp only [Act.put, List.setIfInBounds_toArray, List.set_cons_zero, List.set_cons_succ]
    refine WH.take 13 _ ?_ rfl (by kernel_rfl) (fun _ _ _ h => h) rfl (by assumption) ?_ ?_; rotate_left; (focus (intro w hSw; (try dsimp only at hSw); (first | (go_simp; done) | (go_simp; with_reducible rfl)))); simp only [Act.put, List.setIfInBounds_toArray, List.set_cons_zero, List.set_cons_succ]
    refine WH.take 14 _ _ rfl (by kernel_rfl) (fun _ _ _ h => h) rfl (by assumption) (fun w' hSw => exec_slice_all _ _ rfl _ _ Try.underlying27 Try.byteSize _ rfl (by omega)) ?_; simp only [Act.put, List.setIfInBounds_toArray, List.set_cons_zero, List.set_cons_succ]
    refine WH.take 15 _ _ rfl (by kernel_rfl) (fun _ _ _ h => h) rfl (by assumption) (fun w' hSw => exec_slice_all _ _ rfl _ _ Try.underlying22 Try.byteSize _ rfl (by omega)) ?_; simp only [Act.put, List.setIfInBounds_toArray, List.set_cons_zero, List.set_cons_succ]
    refine WH.take 16 _ _ rfl (by kernel_rfl) (fun _ _ _ h => h) rfl (by assumption) (fun w' hSw => exec_load_blk _ _ rfl _ rfl _ _ (HB6.out.ext hSw) _ (Try.underlying25) rfl (Try.rpatchSize)) ?_; simp only [Act.put, List.setIfInBounds_toArray, List.set_cons_zero, List.set_cons_succ]
    refine WH.only 17 _ rfl (by kernel_rfl) rfl (fun K hK => ?_); go_simp; refine (rlayp_any (some ⟨w.heap.size, 0, none⟩) 256 256 L HL.out HL.out (Nat.le_refl _) (by decide) p A n c _ (RB.of_blk0 (HX6.out.ext hSn)) (HP6.out.below hSn)).mono ?_; rintro e wb ⟨B1, m1, k1, rfl, e1, e2, e3, hr1, hbb⟩; go_simp
    have hSn := bt hSn hbb; refine hK _ _ hSn ?_; clear hK; clear K; simp only [List.set_cons_zero, List.set_cons_succ]
    refine WH.only 18 _ rfl (by kernel_rfl) rfl (fun K hK => ?_); go_simp; refine (same_any (some ⟨G, 0, none⟩) 256 256 (layP L p) HM.out B1 m1 k1 (layP L p) e1 (by decide) (Nat.le_trans e2 e3) _ (RB.of_blk0 (HY6.out.ext hSn)) hr1).mono ?_; rintro e wc ⟨rfl, kq, rfl⟩; go_simp
    have hSn := bt hSn (bdrew _ kq); refine hK _ _ hSn ?_; clear hK; clear K; simp only [List.set_cons_zero, List.set_cons_succ]
    refine WH.take 19 _ ?_ rfl (by kernel_rfl) (fun _ _ _ h => h) rfl (by assumption) ?_ ?_; rotate_left; (focus (intro w hSw; (try dsimp only at hSw); (first | (go_simp; done) | (go_simp; with_reducible rfl)))); simp only [Act.put, List.setIfInBounds_toArray, List.set_cons_zero, List.set_cons_succ]
    refine WH.take 20 _ ?_ rfl (by kernel_rfl) (fun _ _ _ h => h) rfl (by assumption) ?_ ?_; rotate_left; (focus (intro w hSw; (try dsimp only at hSw); (first | (go_simp; done) | (go_simp; with_reducible rfl)))); simp only [Act.put, List.setIfInBounds_toArray, List.set_cons_zero, List.set_cons_succ])
  rotate_left
  all_goals
    refine WH.done (by kernel_rfl) ?_
    have D7 := Lib.hid hSn
    clear hSn
    have HX7 := Lib.hid (HX6.out.ext D7.out)
    have HB7 := Lib.hid (HB6.out.ext D7.out)
    have HC7 := Lib.hid (HC6.out.ext D7.out)
    have HP7 := Lib.hid (HP6.out.below D7.out)
    have HQ7 := Lib.hid (HQ6.out.below D7.out)
    have Hw7 := Lib.hid (bt Hw6.out D7.out)
    clear HY5 HY6 HX5 HX6 HB5 HB6 HC5 HC6 HP5 HP6 HQ5 HQ6 D6 e1 e2 e3 hr1
    obtain ⟨w7, hw7⟩ : ∃ x, World.drewN wb kq = x := ⟨_, rfl⟩
    rw [hw7] at D7 HX7 HB7 HC7 HP7 HQ7 Hw7 ⊢
    clear hw7
    go_wp2_with fail
    refine WH.start (S := fun w' : World => Below w7.heap.size w7 w') (List.replicate 35 false) 35 rfl rfl (by kernel_rfl) (bdrew w7 1) (fun hSn => ?_)
    simp only [List.replicate]
    obtain ⟨wS, hwS⟩ : ∃ x, w7.drew = x := ⟨_, rfl⟩
    rw [hwS] at hSn ⊢
    clear hwS
    refine WH.take 0 _ _ rfl (by kernel_rfl) (fun _ _ _ h => h) rfl (by assumption) (fun w' hSw => exec_load_blk _ _ rfl _ rfl _ _ (HX7.out.ext hSw) _ (Try.underlying22) rfl (Try.arr256Fits HL.out)) ?_; simp only [Act.put, List.setIfInBounds_toArray, List.set_cons_zero, List.set_cons_succ]
    refine WH.take 1 _ _ rfl (by kernel_rfl) (fun _ _ _ h => h) rfl (by assumption) (fun w' hSw => exec_load_blk _ _ rfl _ rfl _ _ (HB7.out.ext hSw) _ (Try.underlying25) rfl (Try.rpatchSize)) ?_; simp only [Act.put, List.setIfInBounds_toArray, List.set_cons_zero, List.set_cons_succ]
    refine WH.take 5 _ _ rfl (by kernel_rfl) (fun _ _ _ h => h) rfl (by assumption) (fun w' hSw => exec_slice_all _ _ rfl _ _ Try.underlying22 Try.byteSize _ rfl (by omega)) ?_; simp only [Act.put, List.setIfInBounds_toArray, List.set_cons_zero, List.set_cons_succ]
    refine WH.take 6 _ _ rfl (by kernel_rfl) (fun _ _ _ h => h) rfl (by assumption) (fun w' hSw => exec_load_blk _ _ rfl _ rfl _ _ (HB7.out.ext hSw) _ (Try.underlying25) rfl (Try.rpatchSize)) ?_; simp only [Act.put, List.setIfInBounds_toArray, List.set_cons_zero, List.set_cons_succ]
    refine WH.only 2 _ rfl (by kernel_rfl) rfl (fun K hK => ?_); go_simp; refine (to_any p A n c _ (HP7.out.below hSn) (by omega)).mono ?_; rintro e wa ⟨ga, na, ca, rfl, hpa, hba, -⟩; go_simp
    have hSn := bt hSn hba; refine hK _ _ hSn ?_; clear hK; clear K; simp only [List.set_cons_zero, List.set_cons_succ]
    refine WH.only 3 _ rfl (by kernel_rfl) rfl (fun K hK => ?_); go_simp; refine (was_any L HL.out p (some ⟨ga, 0, none⟩) na ca _ hpa).mono ?_; rintro e wb ⟨A2, n2, c2, rfl, hp2, hbb, -⟩; go_simp
    have hSn := bt hSn hbb; refine hK _ _ hSn ?_; clear hK; clear K; simp only [List.set_cons_zero, List.set_cons_succ]
    refine WH.only 4 _ rfl (by kernel_rfl) rfl (fun K hK => ?_); go_simp; refine (of_any (wasP L p) A2 n2 c2 _ hp2).mono ?_; rintro e wc ⟨rfl, hp3, hbc⟩; go_simp
    have hSn := bt hSn hbc; refine hK _ _ hSn ?_; clear hK; clear K; simp only [List.set_cons_zero, List.set_cons_succ]
    refine WH.only 7 _ rfl (by kernel_rfl) rfl (fun K hK => ?_); go_simp; refine (rwasp_any (some ⟨w.heap.size, 0, none⟩) 256 256 L HL.out HL.out p A n c _ (RB.of_blk0 (HX7.out.ext hSn)) (HP7.out.below hSn)).mono ?_; rintro e wd ⟨A4, n4, c4, rfl, hp4, hbd⟩; go_simp
    have hp3 := hp3.below hbd
    have hSn := bt hSn hbd; refine hK _ _ hSn ?_; clear hK; clear K; simp only [List.set_cons_zero, List.set_cons_succ]
    refine WH.only 8 _ rfl (by kernel_rfl) rfl (fun K hK => ?_); go_simp; refine (rsamep_any (wasP L p) A2 n2 c2 (wasP L p) A4 n4 c4 _ hp3 hp4).mono ?_; rintro e we ⟨rfl, hbe⟩; go_simp
    rw [sameP_self]
    have hSn := bt hSn hbe; refine hK _ _ hSn ?_; clear hK; clear K; simp only [List.set_cons_zero, List.set_cons_succ]
    refine WH.take 9 _ ?_ rfl (by kernel_rfl) (fun _ _ _ h => h) rfl (by assumption) ?_ ?_; rotate_left; (focus (intro w hSw; (try dsimp only at hSw); (first | (go_simp; done) | (go_simp; with_reducible rfl)))); simp only [Act.put, List.setIfInBounds_toArray, List.set_cons_zero, List.set_cons_succ]
    refine WH.take 10 _ _ rfl (by kernel_rfl) (fun _ _ _ h => h) rfl (by assumption) (fun w' hSw => exec_load_blk _ _ rfl _ rfl _ _ (HB7.out.ext hSw) _ (Try.underlying25) rfl (Try.rpatchSize)) ?_; simp only [Act.put, List.setIfInBounds_toArray, List.set_cons_zero, List.set_cons_succ]
    refine WH.take 12 _ _ rfl (by kernel_rfl) (fun _ _ _ h => h) rfl (by assumption) (fun w' hSw => exec_load_blk _ _ rfl _ rfl _ _ (HC7.out.ext hSw) _ (Try.underlying25) rfl (Try.rpatchSize)) ?_; simp only [Act.put, List.setIfInBounds_toArray, List.set_cons_zero, List.set_cons_succ]
    refine WH.take 15 _ _ rfl (by kernel_rfl) (fun _ _ _ h => h) rfl (by assumption) (fun w' hSw => exec_load_blk _ _ rfl _ rfl _ _ (HB7.out.ext hSw) _ (Try.underlying25) rfl (Try.rpatchSize)) ?_; simp only [Act.put, List.setIfInBounds_toArray, List.set_cons_zero, List.set_cons_succ]
    refine WH.take 16 _ _ rfl (by kernel_rfl) (fun _ _ _ h => h) rfl (by assumption) (fun w' hSw => exec_load_blk _ _ rfl _ rfl _ _ (HC7.out.ext hSw) _ (Try.underlying25) rfl (Try.rpatchSize)) ?_; simp only [Act.put, List.setIfInBounds_toArray, List.set_cons_zero, List.set_cons_succ]
    refine WH.only 11 _ rfl (by kernel_rfl) rfl (fun K hK => ?_); go_simp; refine (to_any p A n c _ (HP7.out.below hSn) (by omega)).mono ?_; rintro e wf ⟨gf, nf, cf, rfl, hpf, hbf, -⟩; go_simp
    have hSn := bt hSn hbf; refine hK _ _ hSn ?_; clear hK; clear K; simp only [List.set_cons_zero, List.set_cons_succ]
    refine WH.only 13 _ rfl (by kernel_rfl) rfl (fun K hK => ?_); go_simp; refine (to_any q A' n' c' _ (HQ7.out.below hSn) (by omega)).mono ?_; rintro e wg ⟨gg, ng, cg, rfl, hpg, hbg, -⟩; go_simp
    have hpf := hpf.below hbg
    have hSn := bt hSn hbg; refine hK _ _ hSn ?_; clear hK; clear K; simp only [List.set_cons_zero, List.set_cons_succ]
    refine WH.only 14 _ rfl (by kernel_rfl) rfl (fun K hK => ?_); go_simp; refine (meet_any p (some ⟨gf, 0, none⟩) nf cf q (some ⟨gg, 0, none⟩) ng cg _ hpf hpg).mono ?_; rintro e wh ⟨rfl, hbh⟩; go_simp
    have hSn := bt hSn hbh; refine hK _ _ hSn ?_; clear hK; clear K; simp only [List.set_cons_zero, List.set_cons_succ]
    refine WH.only 17 _ rfl (by kernel_rfl) rfl (fun K hK => ?_); go_simp; refine (rmeet_any p A n c q A' n' c' _ (HP7.out.below hSn) (HQ7.out.below hSn)).mono ?_; rintro e wi ⟨rfl, hbi⟩; go_simp
    have hSn := bt hSn hbi; refine hK _ _ hSn ?_; clear hK; clear K; simp only [List.set_cons_zero, List.set_cons_succ]
    refine WH.take 18 _ ?_ rfl (by kernel_rfl) (fun _ _ _ h => h) rfl (by assumption) ?_ ?_; rotate_left; (focus (intro w hSw; (try dsimp only at hSw); (first | (go_simp; done) | (go_simp; with_reducible rfl)))); simp only [Act.put, List.setIfInBounds_toArray, List.set_cons_zero, List.set_cons_succ]
    refine WH.take 19 _ ?_ rfl (by kernel_rfl) (fun _ _ _ h => h) rfl (by assumption) ?_ ?_; rotate_left; (focus (intro w hSw; (try dsimp only at hSw); (first | (go_simp; done) | (go_simp; with_reducible rfl)))); simp only [Act.put, List.setIfInBounds_toArray, List.set_cons_zero, List.set_cons_succ]
    refine WH.take 20 _ ?_ rfl (by kernel_rfl) (fun _ _ _ h => h) rfl (by assumption) ?_ ?_; rotate_left; (focus (intro w hSw; (try dsimp only at hSw); (first | (go_simp; done) | (go_simp; with_reducible rfl)))); simp only [Act.put, List.setIfInBounds_toArray, List.set_cons_zero, List.set_cons_succ]
    refine WH.take 21 _ _ rfl (by kernel_rfl) (fun _ _ _ h => h) rfl (by assumption) (fun w' hSw => exec_load_blk _ _ rfl _ rfl _ _ (HB7.out.ext hSw) _ (Try.underlying25) rfl (Try.rpatchSize)) ?_; simp only [Act.put, List.setIfInBounds_toArray, List.set_cons_zero, List.set_cons_succ]
    refine WH.take 23 _ _ rfl (by kernel_rfl) (fun _ _ _ h => h) rfl (by assumption) (fun w' hSw => exec_load_blk _ _ rfl _ rfl _ _ (HC7.out.ext hSw) _ (Try.underlying25) rfl (Try.rpatchSize)) ?_; simp only [Act.put, List.setIfInBounds_toArray, List.set_cons_zero, List.set_cons_succ]
    refine WH.take 26 _ _ rfl (by kernel_rfl) (fun _ _ _ h => h) rfl (by assumption) (fun w' hSw => exec_load_blk _ _ rfl _ rfl _ _ (HB7.out.ext hSw) _ (Try.underlying25) rfl (Try.rpatchSize)) ?_; simp only [Act.put, List.setIfInBounds_toArray, List.set_cons_zero, List.set_cons_succ]
    refine WH.take 27 _ _ rfl (by kernel_rfl) (fun _ _ _ h => h) rfl (by assumption) (fun w' hSw => exec_load_blk _ _ rfl _ rfl _ _ (HC7.out.ext hSw) _ (Try.underlying25) rfl (Try.rpatchSize)) ?_; simp only [Act.put, List.setIfInBounds_toArray, List.set_cons_zero, List.set_cons_succ]
    refine WH.only 22 _ rfl (by kernel_rfl) rfl (fun K hK => ?_); go_simp; refine (to_any p A n c _ (HP7.out.below hSn) (by omega)).mono ?_; rintro e wj ⟨gj, nj, cj, rfl, hpj, hbj, -⟩; go_simp
    have hSn := bt hSn hbj; refine hK _ _ hSn ?_; clear hK; clear K; simp only [List.set_cons_zero, List.set_cons_succ]
    refine WH.only 24 _ rfl (by kernel_rfl) rfl (fun K hK => ?_); go_simp; refine (to_any q A' n' c' _ (HQ7.out.below hSn) (by omega)).mono ?_; rintro e wk ⟨gk, nk, ck, rfl, hpk, hbk, -⟩; go_simp
    have hpj := hpj.below hbk
    have hSn := bt hSn hbk; refine hK _ _ hSn ?_; clear hK; clear K; simp only [List.set_cons_zero, List.set_cons_succ]
    refine WH.only 25 _ rfl (by kernel_rfl) rfl (fun K hK => ?_); go_simp; refine (psame_any p ⟨gj, 0, none⟩ nj cj q ⟨gk, 0, none⟩ nk ck _ hpj hpk).mono ?_; rintro e wl ⟨rfl, hbl⟩; go_simp
    have hSn := bt hSn hbl; refine hK _ _ hSn ?_; clear hK; clear K; simp only [List.set_cons_zero, List.set_cons_succ]
    refine WH.only 28 _ rfl (by kernel_rfl) rfl (fun K hK => ?_); go_simp; refine (rsamep_any p A n c q A' n' c' _ (HP7.out.below hSn) (HQ7.out.below hSn)).mono ?_; rintro e wm ⟨rfl, hbm⟩; go_simp
    have hSn := bt hSn hbm; refine hK _ _ hSn ?_; clear hK; clear K; simp only [List.set_cons_zero, List.set_cons_succ]
    refine WH.take 29 _ ?_ rfl (by kernel_rfl) (fun _ _ _ h => h) rfl (by assumption) ?_ ?_; rotate_left; (focus (intro w hSw; (try dsimp only at hSw); (first | (go_simp; done) | (go_simp; with_reducible rfl)))); simp only [Act.put, List.setIfInBounds_toArray, List.set_cons_zero, List.set_cons_succ]
    refine WH.take 30 _ ?_ rfl (by kernel_rfl) (fun _ _ _ h => h) rfl (by assumption) ?_ ?_; rotate_left; (focus (intro w hSw; (try dsimp only at hSw); (first | (go_simp; done) | (go_simp; with_reducible rfl)))); simp only [Act.put, List.setIfInBounds_toArray, List.set_cons_zero, List.set_cons_succ]
    refine WH.take 31 _ ?_ rfl (by kernel_rfl) (fun _ _ _ h => h) rfl (by assumption) ?_ ?_; rotate_left; (focus (intro w hSw; (try dsimp only at hSw); (first | (go_simp; done) | (go_simp; with_reducible rfl)))); simp only [Act.put, List.setIfInBounds_toArray, List.set_cons_zero, List.set_cons_succ]
    refine WH.only 32 _ rfl (by kernel_rfl) rfl (fun K hK => ?_); go_simp; refine (works07_any _).mono ?_; rintro e wn ⟨rfl, hbn⟩; go_simp
    have hSn := bt hSn hbn; refine hK _ _ hSn ?_; clear hK; clear K; simp only [List.set_cons_zero, List.set_cons_succ]
    refine WH.take 33 _ ?_ rfl (by kernel_rfl) (fun _ _ _ h => h) rfl (by assumption) ?_ ?_; rotate_left; (focus (intro w hSw; (try dsimp only at hSw); (first | (go_simp; done) | (go_simp; with_reducible rfl)))); simp only [Act.put, List.setIfInBounds_toArray, List.set_cons_zero, List.set_cons_succ]
    refine WH.take 34 _ ?_ rfl (by kernel_rfl) (fun _ _ _ h => h) rfl (by assumption) ?_ ?_; rotate_left; (focus (intro w hSw; (try dsimp only at hSw); (first | (go_simp; done) | (go_simp; with_reducible rfl)))); simp only [Act.put, List.setIfInBounds_toArray, List.set_cons_zero, List.set_cons_succ]
    refine WH.done (by kernel_rfl) ?_
    have Hfin := Lib.hid (bt Hw7.out hSn)
    clear hSn
    go_wp2_with fail
    go_ret
    exact ⟨rfl, Hfin.out⟩

end Go.Proofs.Ytnlcpkffaiegaaa
