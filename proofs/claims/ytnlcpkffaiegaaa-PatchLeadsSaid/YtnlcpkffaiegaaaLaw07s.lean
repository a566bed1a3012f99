/-
  The walks of PatchAll, PatchDiffs.
-/
import Derived.Test.YtnlcpkffaiegaaaLaw07p
import Derived.Deep.CutRange
namespace Go.Proofs.Ytnlcpkffaiegaaa
open Go.RowKit

theorem muchB_off {l : List Pt} {N : Nat} (h : muchB l N = false) : l.length ≤ N ∧ ∀ p ∈ l, p.data.length ≤ 600 := by
  unfold muchB at h
  rw [Bool.or_eq_false_iff] at h
  refine ⟨by have := of_decide_eq_false h.1; omega, fun p hp => ?_⟩
  have := List.any_eq_false.1 h.2 p hp
  simpa using this
theorem diffP_len (a b : List UInt8) : (diffP a b).length ≤ 256 := by
  unfold diffP
  rw [List.length_map]
  exact runs_len _ _

set_option maxHeartbeats 4000000 in
theorem patchAll_any (L : List UInt8) (hL : L.length = 256) (A : Option Addr) (n c : Nat) (l : List Pt) (hn : l.length = n) (hm : n ≤ maxLen) (w : World) (hr : RPL w A l) :
    Calls Try.prog 4 #[.agg (bcells L), .slice A n c] w fun e w' => e = .returned (.bool true) ∧ Below w.heap.size w w' := by
  have HL := Lib.hid hL
  have Hn := Lib.hid hn
  have Hr := Lib.hid hr
  clear hL hn hr
  go_enter Try.func4, Try.ntmps4
  go_wp2_with (refine wpList_box_row rfl _ _ rfl _ rfl ?_)
  apply Stop.go; intro w4 Hg1 HX4
  have Hw0 := Lib.hid Hg1.out.1
  have HR0 := Lib.hid (Hr.out.below Hw0.out)
  go_wp2_with fail
  refine (rmuch_any A n c l Hn.out hm _ HR0.out).mono ?_; rintro e wz ⟨rfl, rfl⟩
  cases hmu : muchB l 20
  rotate_left
  focus (
  have Hmu := Lib.hid hmu
  go_wp2_with fail
  refine (works07_any _).mono ?_; rintro e w9 ⟨rfl, hb9⟩
  go_wp2_with fail
  go_ret
  exact ⟨rfl, bt Hw0.out hb9⟩)
  have hmo := muchB_off hmu
  have Hda := Lib.hid hmo.2
  have h20 : n ≤ 20 := by have := hmo.1; have := Hn.out; omega
  have HM := Lib.hid (layAll_len l HL.out)
  clear hmo hmu
  go_upto_region 3 with fail
  go_cut [5] from 9 to 12 (fun v wx => ∃ G, v = .pointer (some ⟨G, 0, none⟩) ∧ Blk wx G 27 (bcells (layAll L l)) ∧ Below w4.heap.size w4 wx)
  case first =>
    refine WH.start (S := fun w' : World => Below w4.heap.size w4 w') (List.replicate 6 false) 6 rfl rfl (by kernel_rfl) (bdrew w4 1) (fun hSn => ?_)
    simp only [List.replicate]
    obtain ⟨wS, hwS⟩ : ∃ x, w4.drew = x := ⟨_, rfl⟩
    rw [hwS] at hSn ⊢
    clear hwS
    refine WH.take 0 _ _ rfl (by kernel_rfl) (fun _ _ _ h => h) rfl (by assumption) (fun w' hSw => exec_load_blk _ _ rfl _ rfl _ _ (HX4.out.ext hSw) _ (Try.underlying22) rfl (Try.arr256Fits HL.out)) ?_; simp only [Act.put, List.setIfInBounds_toArray, List.set_cons_zero, List.set_cons_succ]
    refine WH.take 1 _ ?_ rfl (by kernel_rfl) (fun _ _ _ h => h) rfl (by assumption) ?_ ?_; rotate_left; (focus (intro w hSw; (try dsimp only at hSw); (first | (go_simp; done) | (go_simp; with_reducible rfl)))); simp only [Act.put, List.setIfInBounds_toArray, List.set_cons_zero, List.set_cons_succ]
    refine WH.two 2 4 _ _ rfl rfl (by kernel_rfl) rfl rfl (fun K hK => ?_) (fun K hK => ?_)
    focus (
      go_simp; refine (toAll_any A n c l Hn.out (by omega) Hda.out _ (HR0.out.below hSn)).mono ?_; rintro e wa ⟨B1, m1, k1, rfl, e1, e2, e3, hr1, hba⟩; go_simp
      have hSn := bt hSn hba; refine hK _ _ hSn ?_; clear hK; clear K; simp only [List.set_cons_zero, List.set_cons_succ]
      refine WH.two 3 4 _ _ rfl rfl (by kernel_rfl) rfl rfl (fun K hK => ?_) (fun K hK => ?_)
      focus (
        go_simp; refine (pall_any L HL.out B1 m1 k1 l e1 (by rw [← e1, Hn.out]; omega) _ hr1).mono ?_; rintro e wb ⟨rfl, hbb⟩; go_simp
        have hr1 := hr1.below hbb
        have hSn := bt hSn hbb; refine hK _ _ hSn ?_; clear hK; clear K; simp only [List.set_cons_zero, List.set_cons_succ]
        refine WH.only 4 _ rfl (by kernel_rfl) rfl (fun K hK => ?_)
        have hle := hSn.size
        have hbl := hSn
        refine ow_alloc _ rfl _ Try.blockZero ?_
        apply Stop.go
        intro wN HgN HBa
        have HBa := HBa.out
        have hgN := HgN.out.1
        have hr1 := hr1.below hgN
        have hSn := bt hbl hgN; refine hK _ _ hSn ?_; clear hK; clear K; simp only [Act.put, List.setIfInBounds_toArray, List.set_cons_zero, List.set_cons_succ]
        clear hbl HgN
        refine WH.only 5 _ rfl (by kernel_rfl) rfl (fun K hK => ?_)
        refine ow_store _ _ _ rfl _ (bcells (layAll L l)) rfl rfl _ _ HBa (Try.blockFits HM.out) (by rw [bcells_size, bcells_size, HM.out, zeros_len]) (oneCell_bcells _) ?_
        apply Stop.go
        intro w9 Ho9 HxG
        have D9 := Lib.hid (bonly hSn Ho9.out hle)
        have hSn := D9.out; refine hK _ _ hSn ?_; clear hK; clear K; simp only [Act.put, List.set_cons_zero, List.set_cons_succ]
        refine WH.done (by kernel_rfl) ?_
        generalize wb.heap.size = G at *
        clear HBa Ho9 hle hSn
        clear hr1)
      rotate_left 1
      focus (
        have hle := hSn.size
        have hbl := hSn
        refine ow_alloc _ rfl _ Try.blockZero ?_
        apply Stop.go
        intro wN HgN HBa
        have HBa := HBa.out
        have hgN := HgN.out.1
        have hr1 := hr1.below hgN
        have hSn := bt hbl hgN; refine hK _ _ hSn ?_; clear hK; clear K; simp only [Act.put, List.setIfInBounds_toArray, List.set_cons_zero, List.set_cons_succ]
        clear hbl HgN
        refine WH.only 3 _ rfl (by kernel_rfl) rfl (fun K hK => ?_); go_simp; refine (pall_any L HL.out B1 m1 k1 l e1 (by rw [← e1, Hn.out]; omega) _ hr1).mono ?_; rintro e wb ⟨rfl, hbb⟩; go_simp
        have hr1 := hr1.below hbb
        have HBa := HBa.ext hbb
        have hSn := bt hSn hbb; refine hK _ _ hSn ?_; clear hK; clear K; simp only [List.set_cons_zero, List.set_cons_succ]
        refine WH.only 5 _ rfl (by kernel_rfl) rfl (fun K hK => ?_)
        refine ow_store _ _ _ rfl _ (bcells (layAll L l)) rfl rfl _ _ HBa (Try.blockFits HM.out) (by rw [bcells_size, bcells_size, HM.out, zeros_len]) (oneCell_bcells _) ?_
        apply Stop.go
        intro w9 Ho9 HxG
        have D9 := Lib.hid (bonly hSn Ho9.out hle)
        have hSn := D9.out; refine hK _ _ hSn ?_; clear hK; clear K; simp only [Act.put, List.set_cons_zero, List.set_cons_succ]
        refine WH.done (by kernel_rfl) ?_
        generalize wa.heap.size = G at *
        clear HBa Ho9 hle hSn
        clear hr1))
    rotate_left 2
    focus (
      have hle := hSn.size
      have hbl := hSn
      refine ow_alloc _ rfl _ Try.blockZero ?_
      apply Stop.go
      intro wN HgN HBa
      have HBa := HBa.out
      have hgN := HgN.out.1
      have hSn := bt hbl hgN; refine hK _ _ hSn ?_; clear hK; clear K; simp only [Act.put, List.setIfInBounds_toArray, List.set_cons_zero, List.set_cons_succ]
      clear hbl HgN
      refine WH.only 2 _ rfl (by kernel_rfl) rfl (fun K hK => ?_); go_simp; refine (toAll_any A n c l Hn.out (by omega) Hda.out _ (HR0.out.below hSn)).mono ?_; rintro e wa ⟨B1, m1, k1, rfl, e1, e2, e3, hr1, hba⟩; go_simp
      have HBa := HBa.ext hba
      have hSn := bt hSn hba; refine hK _ _ hSn ?_; clear hK; clear K; simp only [List.set_cons_zero, List.set_cons_succ]
      refine WH.only 3 _ rfl (by kernel_rfl) rfl (fun K hK => ?_); go_simp; refine (pall_any L HL.out B1 m1 k1 l e1 (by rw [← e1, Hn.out]; omega) _ hr1).mono ?_; rintro e wb ⟨rfl, hbb⟩; go_simp
      have hr1 := hr1.below hbb
      have HBa := HBa.ext hbb
      have hSn := bt hSn hbb; refine hK _ _ hSn ?_; clear hK; clear K; simp only [List.set_cons_zero, List.set_cons_succ]
      refine WH.only 5 _ rfl (by kernel_rfl) rfl (fun K hK => ?_)
      refine ow_store _ _ _ rfl _ (bcells (layAll L l)) rfl rfl _ _ HBa (Try.blockFits HM.out) (by rw [bcells_size, bcells_size, HM.out, zeros_len]) (oneCell_bcells _) ?_
      apply Stop.go
      intro w9 Ho9 HxG
      have D9 := Lib.hid (bonly hSn Ho9.out hle)
      have hSn := D9.out; refine hK _ _ hSn ?_; clear hK; clear K; simp only [Act.put, List.set_cons_zero, List.set_cons_succ]
      refine WH.done (by kernel_rfl) ?_
      generalize wS.heap.size = G at *
      clear HBa Ho9 hle hSn
      clear hr1)
    all_goals
      go_wp2_with fail
      go_meet
      exact ⟨G, rfl, HxG.out, D9.out⟩
  case rest =>
  obtain ⟨G, rfl, hx, hd⟩ := hcut
  have HY7 := Lib.hid hx
  have HX7 := Lib.hid (HX4.out.ext hd)
  have HR7 := Lib.hid (HR0.out.below hd)
  have Hw7 := Lib.hid (bt Hw0.out hd)
  clear hx hd
  generalize wc = w7 at *
  go_wp2_with fail
  refine WH.start (S := fun w' : World => Below w7.heap.size w7 w') (List.replicate 17 false) 17 rfl rfl (by kernel_rfl) (bdrew w7 1) (fun hSn => ?_)
  simp only [List.replicate]
  obtain ⟨wS, hwS⟩ : ∃ x, w7.drew = x := ⟨_, rfl⟩
  rw [hwS] at hSn ⊢
  clear hwS
  refine WH.take 0 _ _ rfl (by kernel_rfl) (fun _ _ _ h => h) rfl (by assumption) (fun w' hSw => exec_slice_all _ _ rfl _ _ Try.underlying27 Try.byteSize _ rfl (by omega)) ?_; simp only [Act.put, List.setIfInBounds_toArray, List.set_cons_zero, List.set_cons_succ]
  refine WH.take 1 _ _ rfl (by kernel_rfl) (fun _ _ _ h => h) rfl (by assumption) (fun w' hSw => exec_slice_all _ _ rfl _ _ Try.underlying22 Try.byteSize _ rfl (by omega)) ?_; simp only [Act.put, List.setIfInBounds_toArray, List.set_cons_zero, List.set_cons_succ]
  refine WH.take 2 _ ?_ rfl (by kernel_rfl) (fun _ _ _ h => h) rfl (by assumption) ?_ ?_; rotate_left; (focus (intro w hSw; (try dsimp only at hSw); (first | (go_simp; done) | (go_simp; with_reducible rfl)))); simp only [Act.put, List.setIfInBounds_toArray, List.set_cons_zero, List.set_cons_succ]
  refine WH.only 3 _ rfl (by kernel_rfl) rfl (fun K hK => ?_); go_simp; refine (rall_any (some ⟨w.heap.size, 0, none⟩) 256 256 L HL.out HL.out (Nat.le_refl _) (by decide) A n c l Hn.out (by omega) _ (RB.of_blk0 (HX7.out.ext hSn)) (HR7.out.below hSn)).mono ?_; rintro e wa ⟨B2, m2, k2, rfl, f1, f2, f3, hr2, hba⟩; go_simp
  have hSn := bt hSn hba; refine hK _ _ hSn ?_; clear hK; clear K; simp only [List.set_cons_zero, List.set_cons_succ]
  refine WH.only 4 _ rfl (by kernel_rfl) rfl (fun K hK => ?_); go_simp; refine (same_any (some ⟨G, 0, none⟩) 256 256 (layAll L l) HM.out B2 m2 k2 (layAll L l) f1 (by decide) (Nat.le_trans f2 f3) _ (RB.of_blk0 (HY7.out.ext hSn)) hr2).mono ?_; rintro e wb ⟨rfl, kq, rfl⟩; go_simp
  have hSn := bt hSn (bdrew _ kq); refine hK _ _ hSn ?_; clear hK; clear K; simp only [List.set_cons_zero, List.set_cons_succ]
  refine WH.take 5 _ ?_ rfl (by kernel_rfl) (fun _ _ _ h => h) rfl (by assumption) ?_ ?_; rotate_left; (focus (intro w hSw; (try dsimp only at hSw); (first | (go_simp; done) | (go_simp; with_reducible rfl)))); simp only [Act.put, List.setIfInBounds_toArray, List.set_cons_zero, List.set_cons_succ]
  refine WH.take 6 _ ?_ rfl (by kernel_rfl) (fun _ _ _ h => h) rfl (by assumption) ?_ ?_; rotate_left; (focus (intro w hSw; (try dsimp only at hSw); (first | (go_simp; done) | (go_simp; with_reducible rfl)))); simp only [Act.put, List.setIfInBounds_toArray, List.set_cons_zero, List.set_cons_succ]
  refine WH.take 9 _ ?_ rfl (by kernel_rfl) (fun _ _ _ h => h) rfl (by assumption) ?_ ?_; rotate_left; (focus (intro w hSw; (try dsimp only at hSw); (first | (go_simp; done) | (go_simp; with_reducible rfl)))); simp only [Act.put, List.setIfInBounds_toArray, List.set_cons_zero, List.set_cons_succ]
  refine WH.only 7 _ rfl (by kernel_rfl) rfl (fun K hK => ?_); go_simp; refine (toAll_any A n c l Hn.out (by omega) Hda.out _ (HR7.out.below hSn)).mono ?_; rintro e wc ⟨B3, m3, k3, rfl, g1, g2, g3, hr3, hbc⟩; go_simp
  have hSn := bt hSn hbc; refine hK _ _ hSn ?_; clear hK; clear K; simp only [List.set_cons_zero, List.set_cons_succ]
  refine WH.only 8 _ rfl (by kernel_rfl) rfl (fun K hK => ?_); go_simp; refine (pbytes_any B3 m3 k3 l g1 (by rw [← g1, Hn.out]; omega) _ hr3).mono ?_; rintro e wd ⟨rfl, hbd⟩; go_simp
  have hSn := bt hSn hbd; refine hK _ _ hSn ?_; clear hK; clear K; simp only [List.set_cons_zero, List.set_cons_succ]
  refine WH.only 10 _ rfl (by kernel_rfl) rfl (fun K hK => ?_); go_simp; refine (rbytesp_any A n c l Hn.out (by omega) _ (HR7.out.below hSn)).mono ?_; rintro e we ⟨rfl, hbe⟩; go_simp
  have hSn := bt hSn hbe; refine hK _ _ hSn ?_; clear hK; clear K; simp only [List.set_cons_zero, List.set_cons_succ]
  refine WH.take 11 _ ?_ rfl (by kernel_rfl) (fun _ _ _ h => h) rfl (by assumption) ?_ ?_; rotate_left; (focus (intro w hSw; (try dsimp only at hSw); (first | (go_simp; done) | (go_simp; with_reducible rfl)))); simp only [Act.put, List.setIfInBounds_toArray, List.set_cons_zero, List.set_cons_succ]
  refine WH.take 12 _ ?_ rfl (by kernel_rfl) (fun _ _ _ h => h) rfl (by assumption) ?_ ?_; rotate_left; (focus (intro w hSw; (try dsimp only at hSw); (first | (go_simp; done) | (go_simp; with_reducible rfl)))); simp only [Act.put, List.setIfInBounds_toArray, List.set_cons_zero, List.set_cons_succ]
  refine WH.take 13 _ ?_ rfl (by kernel_rfl) (fun _ _ _ h => h) rfl (by assumption) ?_ ?_; rotate_left; (focus (intro w hSw; (try dsimp only at hSw); (first | (go_simp; done) | (go_simp; with_reducible rfl)))); simp only [Act.put, List.setIfInBounds_toArray, List.set_cons_zero, List.set_cons_succ]
  refine WH.only 14 _ rfl (by kernel_rfl) rfl (fun K hK => ?_); go_simp; refine (works07_any _).mono ?_; rintro e wf ⟨rfl, hbf⟩; go_simp
  have hSn := bt hSn hbf; refine hK _ _ hSn ?_; clear hK; clear K; simp only [List.set_cons_zero, List.set_cons_succ]
  refine WH.take 15 _ ?_ rfl (by kernel_rfl) (fun _ _ _ h => h) rfl (by assumption) ?_ ?_; rotate_left; (focus (intro w hSw; (try dsimp only at hSw); (first | (go_simp; done) | (go_simp; with_reducible rfl)))); simp only [Act.put, List.setIfInBounds_toArray, List.set_cons_zero, List.set_cons_succ]
  refine WH.take 16 _ ?_ rfl (by kernel_rfl) (fun _ _ _ h => h) rfl (by assumption) ?_ ?_; rotate_left; (focus (intro w hSw; (try dsimp only at hSw); (first | (go_simp; done) | (go_simp; with_reducible rfl)))); simp only [Act.put, List.setIfInBounds_toArray, List.set_cons_zero, List.set_cons_succ]
  refine WH.done (by kernel_rfl) ?_
  have Hfin := Lib.hid (bt Hw7.out hSn)
  clear hSn
  go_wp2_with fail
  go_ret
  exact ⟨rfl, Hfin.out⟩

set_option maxHeartbeats 4000000 in
theorem patchDiffs_any (L M : List UInt8) (hL : L.length = 256) (hM : M.length = 256) (w : World) :
    Calls Try.prog 5 #[.agg (bcells L), .agg (bcells M)] w fun e w' => e = .returned (.bool true) ∧ Below w.heap.size w w' := by
  have HL := Lib.hid hL
  have HN := Lib.hid hM
  clear hL hM
  go_enter Try.func5, Try.ntmps5
  go_wp2_with (refine wpList_box_row rfl _ _ rfl _ rfl ?_)
  apply Stop.go; intro w1 Hg1 Hb1
  go_wp2_with (refine wpList_box_row rfl _ _ rfl _ rfl ?_)
  apply Stop.go; intro w2 Hg2 Hb2
  have Hw2 := Lib.hid (bt Hg1.out.1 Hg2.out.1)
  have HX2 := Lib.hid (Hb1.out.ext Hg2.out.1)
  go_wp2_with fail
  refine WH.start (S := fun w' : World => Below w2.heap.size w2 w') (List.replicate 12 false) 12 rfl rfl (by kernel_rfl) (bdrew w2 1) (fun hSn => ?_)
  simp only [List.replicate]
  obtain ⟨wS, hwS⟩ : ∃ x, w2.drew = x := ⟨_, rfl⟩
  rw [hwS] at hSn ⊢
  clear hwS
  refine WH.take 0 _ _ rfl (by kernel_rfl) (fun _ _ _ h => h) rfl (by assumption) (fun w' hSw => exec_load_blk _ _ rfl _ rfl _ _ (HX2.out.ext hSw) _ (Try.underlying22) rfl (Try.arr256Fits HL.out)) ?_; simp only [Act.put, List.setIfInBounds_toArray, List.set_cons_zero, List.set_cons_succ]
  refine WH.take 1 _ _ rfl (by kernel_rfl) (fun _ _ _ h => h) rfl (by assumption) (fun w' hSw => exec_load_blk _ _ rfl _ rfl _ _ (Hb2.out.ext hSw) _ (Try.underlying22) rfl (Try.arr256Fits HN.out)) ?_; simp only [Act.put, List.setIfInBounds_toArray, List.set_cons_zero, List.set_cons_succ]
  refine WH.take 4 _ _ rfl (by kernel_rfl) (fun _ _ _ h => h) rfl (by assumption) (fun w' hSw => exec_slice_all _ _ rfl _ _ Try.underlying22 Try.byteSize _ rfl (by omega)) ?_; simp only [Act.put, List.setIfInBounds_toArray, List.set_cons_zero, List.set_cons_succ]
  refine WH.take 5 _ _ rfl (by kernel_rfl) (fun _ _ _ h => h) rfl (by assumption) (fun w' hSw => exec_slice_all _ _ rfl _ _ Try.underlying22 Try.byteSize _ rfl (by omega)) ?_; simp only [Act.put, List.setIfInBounds_toArray, List.set_cons_zero, List.set_cons_succ]
  refine WH.only 2 _ rfl (by kernel_rfl) rfl (fun K hK => ?_); go_simp; refine (pdiff_any L M HL.out HN.out _).mono ?_; rintro e wa ⟨B1, m1, k1, rfl, e1, e2, e3, hr1, hba⟩; go_simp
  have hSn := bt hSn hba; refine hK _ _ hSn ?_; clear hK; clear K; simp only [List.set_cons_zero, List.set_cons_succ]
  refine WH.only 3 _ rfl (by kernel_rfl) rfl (fun K hK => ?_); go_simp; refine (ofAll_any B1 m1 k1 (diffP L M) e1 (by rw [← e1]; exact Nat.le_trans (diffP_len L M) (by decide)) _ hr1).mono ?_; rintro e wb ⟨B2, m2, k2, rfl, f1, f2, f3, hr2, hbb⟩; go_simp
  have hSn := bt hSn hbb; refine hK _ _ hSn ?_; clear hK; clear K; simp only [List.set_cons_zero, List.set_cons_succ]
  refine WH.only 6 _ rfl (by kernel_rfl) rfl (fun K hK => ?_); go_simp; refine (rdiff_any (some ⟨w.heap.size, 0, none⟩) 256 L HL.out (some ⟨w1.heap.size, 0, none⟩) 256 M HN.out _ (RB.of_blk0 (HX2.out.ext hSn)) (RB.of_blk0 (Hb2.out.ext hSn))).mono ?_; rintro e wc ⟨B3, m3, k3, rfl, g1, g2, g3, hr3, hbc⟩; go_simp
  have hr2 := hr2.below hbc
  have g4 : m2 = m3 := f1.symm.trans g1
  subst g4
  have hSn := bt hSn hbc; refine hK _ _ hSn ?_; clear hK; clear K; simp only [List.set_cons_zero, List.set_cons_succ]
  refine WH.only 7 _ rfl (by kernel_rfl) rfl (fun K hK => ?_); go_simp; refine (rsameAll_any B2 m2 k2 B3 k3 (diffP L M) f1 (Nat.le_trans f2 f3) _ hr2 hr3).mono ?_; rintro e wd ⟨rfl, hbd⟩; go_simp
  have hSn := bt hSn hbd; refine hK _ _ hSn ?_; clear hK; clear K; simp only [List.set_cons_zero, List.set_cons_succ]
  refine WH.take 8 _ ?_ rfl (by kernel_rfl) (fun _ _ _ h => h) rfl (by assumption) ?_ ?_; rotate_left; (focus (intro w hSw; (try dsimp only at hSw); (first | (go_simp; done) | (go_simp; with_reducible rfl)))); simp only [Act.put, List.setIfInBounds_toArray, List.set_cons_zero, List.set_cons_succ]
  refine WH.only 9 _ rfl (by kernel_rfl) rfl (fun K hK => ?_); go_simp; refine (works07_any _).mono ?_; rintro e we ⟨rfl, hbe⟩; go_simp
  have hSn := bt hSn hbe; refine hK _ _ hSn ?_; clear hK; clear K; simp only [List.set_cons_zero, List.set_cons_succ]
  refine WH.take 10 _ ?_ rfl (by kernel_rfl) (fun _ _ _ h => h) rfl (by assumption) ?_ ?_; rotate_left; (focus (intro w hSw; (try dsimp only at hSw); (first | (go_simp; done) | (go_simp; with_reducible rfl)))); simp only [Act.put, List.setIfInBounds_toArray, List.set_cons_zero, List.set_cons_succ]
  refine WH.take 11 _ ?_ rfl (by kernel_rfl) (fun _ _ _ h => h) rfl (by assumption) ?_ ?_; rotate_left; (focus (intro w hSw; (try dsimp only at hSw); (first | (go_simp; done) | (go_simp; with_reducible rfl)))); simp only [Act.put, List.setIfInBounds_toArray, List.set_cons_zero, List.set_cons_succ]
  refine WH.done (by kernel_rfl) ?_
  have Hfin := Lib.hid (bt Hw2.out hSn)
  clear hSn
  go_wp2_with fail
  go_ret
  exact ⟨rfl, Hfin.out⟩

end Go.Proofs.Ytnlcpkffaiegaaa
