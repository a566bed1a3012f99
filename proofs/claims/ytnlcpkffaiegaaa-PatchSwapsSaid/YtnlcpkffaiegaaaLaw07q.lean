/-
  The walk of PatchSwaps.
-/
import Derived.Test.YtnlcpkffaiegaaaLaw07p
import Derived.Deep.CutRange
namespace Go.Proofs.Ytnlcpkffaiegaaa
open Go.RowKit

set_option maxHeartbeats 4000000 in
theorem patchSwaps_any (L : List UInt8) (hL : L.length = 256) (p : Pt) (A : Option Addr) (n c : Nat) (q : Pt) (A' : Option Addr) (n' c' : Nat) (w : World) (hp : PV w p A n c) (hq : PV w q A' n' c') :
    Calls Try.prog 8 #[.agg (bcells L), .agg #[.int .i64 p.at_, .slice A n c], .agg #[.int .i64 q.at_, .slice A' n' c']] w fun e w' => e = .returned (.bool true) ∧ Below w.heap.size w w' := by
  have HL := Lib.hid hL
  have Hp := Lib.hid hp
  have Hq := Lib.hid hq
  clear hL hp hq
  go_enter Try.func8, Try.ntmps8
  go_wp2_with (refine wpList_box_row rfl _ _ rfl _ rfl ?_)
  apply Stop.go; intro w1 Hg1 Hb1
  go_wp2_with (refine wpList_box_row rfl _ _ rfl _ rfl ?_)
  apply Stop.go; intro w2 Hg2 Hb2
  go_wp2_with (refine wpList_box_row rfl _ _ rfl _ rfl ?_)
  apply Stop.go; intro w4 Hg3 Hb3
  have Hw0 := Lib.hid (bt (bt Hg1.out.1 Hg2.out.1) Hg3.out.1)
  have HX4 := Lib.hid ((Hb1.out.ext Hg2.out.1).ext Hg3.out.1)
  have HB4 := Lib.hid (Hb2.out.ext Hg3.out.1)
  have HP0 := Lib.hid (Hp.out.below Hw0.out)
  have HQ0 := Lib.hid (Hq.out.below Hw0.out)
  have k1 : w4.cell? ⟨w1.heap.size, 1, none⟩ = some (.slice A n c) := HB4.out.cell 1
  have k2 : w4.cell? ⟨w2.heap.size, 1, none⟩ = some (.slice A' n' c') := Hb3.out.cell 1
  by_cases h6 : n ≤ 600
  rotate_left
  focus (
  have d1 : decide ((600 : Int) < n) = true := by simp; omega
  go_wp2_with fail
  refine (works07_any _).mono ?_; rintro e w9 ⟨rfl, hb9⟩
  go_wp2_with fail
  go_ret
  exact ⟨rfl, bt Hw0.out hb9⟩)
  have d1 : decide ((600 : Int) < n) = false := by simp; omega
  by_cases h7 : n' ≤ 600
  rotate_left
  focus (
  have d2 : decide ((600 : Int) < n') = true := by simp; omega
  go_wp2_with fail
  refine (works07_any _).mono ?_; rintro e w9 ⟨rfl, hb9⟩
  go_wp2_with fail
  go_ret
  exact ⟨rfl, bt Hw0.out hb9⟩)
  have d2 : decide ((600 : Int) < n') = false := by simp; omega
  have HM1 := Lib.hid (layP_len p HL.out)
  have HM2 := Lib.hid (layP_len q HM1.out)
  have HN1 := Lib.hid (layP_len q HL.out)
  have HN2 := Lib.hid (layP_len p HN1.out)
  go_upto_region 3 with fail
  go_cut [7] from 20 to 26 (fun v wx => ∃ G, v = .pointer (some ⟨G, 0, none⟩) ∧ Blk wx G 27 (bcells (layP (layP L p) q)) ∧ Below w4.heap.size w4 wx)
  case first =>
    refine WH.start (S := fun w' : World => Below w4.heap.size w4 w') (List.replicate 9 false) 9 rfl rfl (by kernel_rfl) (bdrew w4 1) (fun hSn => ?_)
    simp only [List.replicate]
    obtain ⟨wS, hwS⟩ : ∃ x, w4.drew = x := ⟨_, rfl⟩
    rw [hwS] at hSn ⊢
    clear hwS
    refine WH.take 0 _ _ rfl (by kernel_rfl) (fun _ _ _ h => h) rfl (by assumption) (fun w' hSw => exec_load_blk _ _ rfl _ rfl _ _ (HX4.out.ext hSw) _ (Try.underlying22) rfl (Try.arr256Fits HL.out)) ?_; simp only [Act.put, List.setIfInBounds_toArray, List.set_cons_zero, List.set_cons_succ]
    refine WH.take 1 _ _ rfl (by kernel_rfl) (fun _ _ _ h => h) rfl (by assumption) (fun w' hSw => exec_load_blk _ _ rfl _ rfl _ _ (HB4.out.ext hSw) _ (Try.underlying25) rfl (Try.rpatchSize)) ?_; simp only [Act.put, List.setIfInBounds_toArray, List.set_cons_zero, List.set_cons_succ]
    refine WH.take 4 _ _ rfl (by kernel_rfl) (fun _ _ _ h => h) rfl (by assumption) (fun w' hSw => exec_load_blk _ _ rfl _ rfl _ _ (Hb3.out.ext hSw) _ (Try.underlying25) rfl (Try.rpatchSize)) ?_; simp only [Act.put, List.setIfInBounds_toArray, List.set_cons_zero, List.set_cons_succ]
    refine WH.two 2 7 _ _ rfl rfl (by kernel_rfl) rfl rfl (fun K hK => ?_) (fun K hK => ?_)
    focus (
      go_simp; refine (to_any p A n c _ (HP0.out.below hSn) (by omega)).mono ?_; rintro e wa ⟨ga, na, ca, rfl, hpa, hba, -⟩; go_simp
      have hSn := bt hSn hba; refine hK _ _ hSn ?_; clear hK; clear K; simp only [List.set_cons_zero, List.set_cons_succ]
      refine WH.two 3 7 _ _ rfl rfl (by kernel_rfl) rfl rfl (fun K hK => ?_) (fun K hK => ?_)
      focus (
        go_simp; refine (play_any (L) HL.out p (some ⟨ga, 0, none⟩) na ca _ hpa).mono ?_; rintro e wb ⟨rfl, hbb⟩; go_simp
        have hpa := hpa.below hbb
        have hSn := bt hSn hbb; refine hK _ _ hSn ?_; clear hK; clear K; simp only [List.set_cons_zero, List.set_cons_succ]
        refine WH.two 5 7 _ _ rfl rfl (by kernel_rfl) rfl rfl (fun K hK => ?_) (fun K hK => ?_)
        focus (
          go_simp; refine (to_any q A' n' c' _ (HQ0.out.below hSn) (by omega)).mono ?_; rintro e wc ⟨gc, nc, cc, rfl, hpc, hbc, -⟩; go_simp
          have hpa := hpa.below hbc
          have hSn := bt hSn hbc; refine hK _ _ hSn ?_; clear hK; clear K; simp only [List.set_cons_zero, List.set_cons_succ]
          refine WH.two 6 7 _ _ rfl rfl (by kernel_rfl) rfl rfl (fun K hK => ?_) (fun K hK => ?_)
          focus (
            go_simp; refine (play_any (layP L p) HM1.out q (some ⟨gc, 0, none⟩) nc cc _ hpc).mono ?_; rintro e wd ⟨rfl, hbd⟩; go_simp
            have hpa := hpa.below hbd
            have hpc := hpc.below hbd
            have hSn := bt hSn hbd; refine hK _ _ hSn ?_; clear hK; clear K; simp only [List.set_cons_zero, List.set_cons_succ]
            refine WH.only 7 _ rfl (by kernel_rfl) rfl (fun K hK => ?_)
            have hle := hSn.size
            have hbl := hSn
            refine ow_alloc _ rfl _ Try.blockZero ?_
            apply Stop.go
            intro wN HgN HBa
            have HBa := HBa.out
            have hgN := HgN.out.1
            have hpa := hpa.below hgN
            have hpc := hpc.below hgN
            have hSn := bt hbl hgN; refine hK _ _ hSn ?_; clear hK; clear K; simp only [Act.put, List.setIfInBounds_toArray, List.set_cons_zero, List.set_cons_succ]
            clear hbl HgN
            refine WH.only 8 _ rfl (by kernel_rfl) rfl (fun K hK => ?_)
            refine ow_store _ _ _ rfl _ (bcells (layP (layP L p) q)) rfl rfl _ _ HBa (Try.blockFits HM2.out) (by rw [bcells_size, bcells_size, HM2.out, zeros_len]) (oneCell_bcells _) ?_
            apply Stop.go
            intro w9 Ho9 HxG
            have D9 := Lib.hid (bonly hSn Ho9.out hle)
            have hSn := D9.out; refine hK _ _ hSn ?_; clear hK; clear K; simp only [Act.put, List.set_cons_zero, List.set_cons_succ]
            refine WH.done (by kernel_rfl) ?_
            generalize wd.heap.size = G at *
            clear HBa Ho9 hle hSn
            clear hpa
            clear hpc)
          rotate_left 1
          focus (
            have hle := hSn.size
            have hbl := hSn
            refine ow_alloc _ rfl _ Try.blockZero ?_
            apply Stop.go
            intro wN HgN HBa
            have HBa := HBa.out
            have hgN := HgN.out.1
            have hpa := hpa.below hgN
            have hpc := hpc.below hgN
            have hSn := bt hbl hgN; refine hK _ _ hSn ?_; clear hK; clear K; simp only [Act.put, List.setIfInBounds_toArray, List.set_cons_zero, List.set_cons_succ]
            clear hbl HgN
            refine WH.only 6 _ rfl (by kernel_rfl) rfl (fun K hK => ?_); go_simp; refine (play_any (layP L p) HM1.out q (some ⟨gc, 0, none⟩) nc cc _ hpc).mono ?_; rintro e wd ⟨rfl, hbd⟩; go_simp
            have hpa := hpa.below hbd
            have hpc := hpc.below hbd
            have HBa := HBa.ext hbd
            have hSn := bt hSn hbd; refine hK _ _ hSn ?_; clear hK; clear K; simp only [List.set_cons_zero, List.set_cons_succ]
            refine WH.only 8 _ rfl (by kernel_rfl) rfl (fun K hK => ?_)
            refine ow_store _ _ _ rfl _ (bcells (layP (layP L p) q)) rfl rfl _ _ HBa (Try.blockFits HM2.out) (by rw [bcells_size, bcells_size, HM2.out, zeros_len]) (oneCell_bcells _) ?_
            apply Stop.go
            intro w9 Ho9 HxG
            have D9 := Lib.hid (bonly hSn Ho9.out hle)
            have hSn := D9.out; refine hK _ _ hSn ?_; clear hK; clear K; simp only [Act.put, List.set_cons_zero, List.set_cons_succ]
            refine WH.done (by kernel_rfl) ?_
            generalize wc.heap.size = G at *
            clear HBa Ho9 hle hSn
            clear hpa
            clear hpc))
        rotate_left 2
        focus (
          have hle := hSn.size
          have hbl := hSn
          refine ow_alloc _ rfl _ Try.blockZero ?_
          apply Stop.go
          intro wN HgN HBa
          have HBa := HBa.out
          have hgN := HgN.out.1
          have hpa := hpa.below hgN
          have hSn := bt hbl hgN; refine hK _ _ hSn ?_; clear hK; clear K; simp only [Act.put, List.setIfInBounds_toArray, List.set_cons_zero, List.set_cons_succ]
          clear hbl HgN
          refine WH.only 5 _ rfl (by kernel_rfl) rfl (fun K hK => ?_); go_simp; refine (to_any q A' n' c' _ (HQ0.out.below hSn) (by omega)).mono ?_; rintro e wc ⟨gc, nc, cc, rfl, hpc, hbc, -⟩; go_simp
          have hpa := hpa.below hbc
          have HBa := HBa.ext hbc
          have hSn := bt hSn hbc; refine hK _ _ hSn ?_; clear hK; clear K; simp only [List.set_cons_zero, List.set_cons_succ]
          refine WH.only 6 _ rfl (by kernel_rfl) rfl (fun K hK => ?_); go_simp; refine (play_any (layP L p) HM1.out q (some ⟨gc, 0, none⟩) nc cc _ hpc).mono ?_; rintro e wd ⟨rfl, hbd⟩; go_simp
          have hpa := hpa.below hbd
          have hpc := hpc.below hbd
          have HBa := HBa.ext hbd
          have hSn := bt hSn hbd; refine hK _ _ hSn ?_; clear hK; clear K; simp only [List.set_cons_zero, List.set_cons_succ]
          refine WH.only 8 _ rfl (by kernel_rfl) rfl (fun K hK => ?_)
          refine ow_store _ _ _ rfl _ (bcells (layP (layP L p) q)) rfl rfl _ _ HBa (Try.blockFits HM2.out) (by rw [bcells_size, bcells_size, HM2.out, zeros_len]) (oneCell_bcells _) ?_
          apply Stop.go
          intro w9 Ho9 HxG
          have D9 := Lib.hid (bonly hSn Ho9.out hle)
          have hSn := D9.out; refine hK _ _ hSn ?_; clear hK; clear K; simp only [Act.put, List.set_cons_zero, List.set_cons_succ]
          refine WH.done (by kernel_rfl) ?_
          generalize wb.heap.size = G at *
          clear HBa Ho9 hle hSn
          clear hpa
          clear hpc))
      rotate_left 3
      focus (
        have hle := hSn.size
        have hbl := hSn
        refine ow_alloc _ rfl _ Try.blockZero ?_
        apply Stop.go
        intro wN HgN HBa
        have HBa := HBa.out
        have hgN := HgN.out.1
        have hpa := hpa.below hgN
        have hSn := bt hbl hgN; refine hK _ _ hSn ?_; clear hK; clear K; simp only [Act.put, List.setIfInBounds_toArray, List.set_cons_zero, List.set_cons_succ]
        clear hbl HgN
        refine WH.only 3 _ rfl (by kernel_rfl) rfl (fun K hK => ?_); go_simp; refine (play_any (L) HL.out p (some ⟨ga, 0, none⟩) na ca _ hpa).mono ?_; rintro e wb ⟨rfl, hbb⟩; go_simp
        have hpa := hpa.below hbb
        have HBa := HBa.ext hbb
        have hSn := bt hSn hbb; refine hK _ _ hSn ?_; clear hK; clear K; simp only [List.set_cons_zero, List.set_cons_succ]
        refine WH.only 5 _ rfl (by kernel_rfl) rfl (fun K hK => ?_); go_simp; refine (to_any q A' n' c' _ (HQ0.out.below hSn) (by omega)).mono ?_; rintro e wc ⟨gc, nc, cc, rfl, hpc, hbc, -⟩; go_simp
        have hpa := hpa.below hbc
        have HBa := HBa.ext hbc
        have hSn := bt hSn hbc; refine hK _ _ hSn ?_; clear hK; clear K; simp only [List.set_cons_zero, List.set_cons_succ]
        refine WH.only 6 _ rfl (by kernel_rfl) rfl (fun K hK => ?_); go_simp; refine (play_any (layP L p) HM1.out q (some ⟨gc, 0, none⟩) nc cc _ hpc).mono ?_; rintro e wd ⟨rfl, hbd⟩; go_simp
        have hpa := hpa.below hbd
        have hpc := hpc.below hbd
        have HBa := HBa.ext hbd
        have hSn := bt hSn hbd; refine hK _ _ hSn ?_; clear hK; clear K; simp only [List.set_cons_zero, List.set_cons_succ]
        refine WH.only 8 _ rfl (by kernel_rfl) rfl (fun K hK => ?_)
        refine ow_store _ _ _ rfl _ (bcells (layP (layP L p) q)) rfl rfl _ _ HBa (Try.blockFits HM2.out) (by rw [bcells_size, bcells_size, HM2.out, zeros_len]) (oneCell_bcells _) ?_
        apply Stop.go
        intro w9 Ho9 HxG
        have D9 := Lib.hid (bonly hSn Ho9.out hle)
        have hSn := D9.out; refine hK _ _ hSn ?_; clear hK; clear K; simp only [Act.put, List.set_cons_zero, List.set_cons_succ]
        refine WH.done (by kernel_rfl) ?_
        generalize wa.heap.size = G at *
        clear HBa Ho9 hle hSn
        clear hpa
        clear hpc))
    rotate_left 4
    focus (
      have hle := hSn.size
      have hbl := hSn
      refine ow_alloc _ rfl _ Try.blockZero ?_
      apply Stop.go
      intro wN HgN HBa
      have HBa := HBa.out
      have hgN := HgN.out.1
      have hSn := bt hbl hgN; refine hK _ _ hSn ?_; clear hK; clear K; simp only [Act.put, List.setIfInBounds_toArray, List.set_cons_zero, List.set_cons_succ]
      clear hbl HgN
      refine WH.only 2 _ rfl (by kernel_rfl) rfl (fun K hK => ?_); go_simp; refine (to_any p A n c _ (HP0.out.below hSn) (by omega)).mono ?_; rintro e wa ⟨ga, na, ca, rfl, hpa, hba, -⟩; go_simp
      have HBa := HBa.ext hba
      have hSn := bt hSn hba; refine hK _ _ hSn ?_; clear hK; clear K; simp only [List.set_cons_zero, List.set_cons_succ]
      refine WH.only 3 _ rfl (by kernel_rfl) rfl (fun K hK => ?_); go_simp; refine (play_any (L) HL.out p (some ⟨ga, 0, none⟩) na ca _ hpa).mono ?_; rintro e wb ⟨rfl, hbb⟩; go_simp
      have hpa := hpa.below hbb
      have HBa := HBa.ext hbb
      have hSn := bt hSn hbb; refine hK _ _ hSn ?_; clear hK; clear K; simp only [List.set_cons_zero, List.set_cons_succ]
      refine WH.only 5 _ rfl (by kernel_rfl) rfl (fun K hK => ?_); go_simp; refine (to_any q A' n' c' _ (HQ0.out.below hSn) (by omega)).mono ?_; rintro e wc ⟨gc, nc, cc, rfl, hpc, hbc, -⟩; go_simp
      have hpa := hpa.below hbc
      have HBa := HBa.ext hbc
      have hSn := bt hSn hbc; refine hK _ _ hSn ?_; clear hK; clear K; simp only [List.set_cons_zero, List.set_cons_succ]
      refine WH.only 6 _ rfl (by kernel_rfl) rfl (fun K hK => ?_); go_simp; refine (play_any (layP L p) HM1.out q (some ⟨gc, 0, none⟩) nc cc _ hpc).mono ?_; rintro e wd ⟨rfl, hbd⟩; go_simp
      have hpa := hpa.below hbd
      have hpc := hpc.below hbd
      have HBa := HBa.ext hbd
      have hSn := bt hSn hbd; refine hK _ _ hSn ?_; clear hK; clear K; simp only [List.set_cons_zero, List.set_cons_succ]
      refine WH.only 8 _ rfl (by kernel_rfl) rfl (fun K hK => ?_)
      refine ow_store _ _ _ rfl _ (bcells (layP (layP L p) q)) rfl rfl _ _ HBa (Try.blockFits HM2.out) (by rw [bcells_size, bcells_size, HM2.out, zeros_len]) (oneCell_bcells _) ?_
      apply Stop.go
      intro w9 Ho9 HxG
      have D9 := Lib.hid (bonly hSn Ho9.out hle)
      have hSn := D9.out; refine hK _ _ hSn ?_; clear hK; clear K; simp only [Act.put, List.set_cons_zero, List.set_cons_succ]
      refine WH.done (by kernel_rfl) ?_
      generalize wS.heap.size = G at *
      clear HBa Ho9 hle hSn
      clear hpa
      clear hpc)
    all_goals
      go_wp2_with fail
      go_meet
      exact ⟨G, rfl, HxG.out, D9.out⟩
  case rest =>
  obtain ⟨G1, rfl, hx, hd⟩ := hcut
  have HX5 := Lib.hid hx
  have D5 := Lib.hid hd
  clear hx hd k1 k2 d1 d2
  generalize wc = w5 at *
  have HX4 := Lib.hid (HX4.out.ext D5.out)
  have HB4 := Lib.hid (HB4.out.ext D5.out)
  have Hb3 := Lib.hid (Hb3.out.ext D5.out)
  have HP0 := Lib.hid (HP0.out.below D5.out)
  have HQ0 := Lib.hid (HQ0.out.below D5.out)
  have Hw0 := Lib.hid (bt Hw0.out D5.out)
  go_upto_region 4 with fail
  go_cut [8] from 27 to 33 (fun v wx => ∃ G, v = .pointer (some ⟨G, 0, none⟩) ∧ Blk wx G 27 (bcells (layP (layP L q) p)) ∧ Below w5.heap.size w5 wx)
  case first =>
    refine WH.start (S := fun w' : World => Below w5.heap.size w5 w') (List.replicate 9 false) 9 rfl rfl (by kernel_rfl) (bdrew w5 1) (fun hSn => ?_)
    simp only [List.replicate]
    obtain ⟨wS, hwS⟩ : ∃ x, w5.drew = x := ⟨_, rfl⟩
    rw [hwS] at hSn ⊢
    clear hwS
    refine WH.take 0 _ _ rfl (by kernel_rfl) (fun _ _ _ h => h) rfl (by assumption) (fun w' hSw => exec_load_blk _ _ rfl _ rfl _ _ (HX4.out.ext hSw) _ (Try.underlying22) rfl (Try.arr256Fits HL.out)) ?_; simp only [Act.put, List.setIfInBounds_toArray, List.set_cons_zero, List.set_cons_succ]
    refine WH.take 1 _ _ rfl (by kernel_rfl) (fun _ _ _ h => h) rfl (by assumption) (fun w' hSw => exec_load_blk _ _ rfl _ rfl _ _ (Hb3.out.ext hSw) _ (Try.underlying25) rfl (Try.rpatchSize)) ?_; simp only [Act.put, List.setIfInBounds_toArray, List.set_cons_zero, List.set_cons_succ]
    refine WH.take 4 _ _ rfl (by kernel_rfl) (fun _ _ _ h => h) rfl (by assumption) (fun w' hSw => exec_load_blk _ _ rfl _ rfl _ _ (HB4.out.ext hSw) _ (Try.underlying25) rfl (Try.rpatchSize)) ?_; simp only [Act.put, List.setIfInBounds_toArray, List.set_cons_zero, List.set_cons_succ]
    refine WH.two 2 7 _ _ rfl rfl (by kernel_rfl) rfl rfl (fun K hK => ?_) (fun K hK => ?_)
    focus (
      go_simp; refine (to_any q A' n' c' _ (HQ0.out.below hSn) (by omega)).mono ?_; rintro e wa ⟨ga, na, ca, rfl, hpa, hba, -⟩; go_simp
      have hSn := bt hSn hba; refine hK _ _ hSn ?_; clear hK; clear K; simp only [List.set_cons_zero, List.set_cons_succ]
      refine WH.two 3 7 _ _ rfl rfl (by kernel_rfl) rfl rfl (fun K hK => ?_) (fun K hK => ?_)
      focus (
        go_simp; refine (play_any (L) HL.out q (some ⟨ga, 0, none⟩) na ca _ hpa).mono ?_; rintro e wb ⟨rfl, hbb⟩; go_simp
        have hpa := hpa.below hbb
        have hSn := bt hSn hbb; refine hK _ _ hSn ?_; clear hK; clear K; simp only [List.set_cons_zero, List.set_cons_succ]
        refine WH.two 5 7 _ _ rfl rfl (by kernel_rfl) rfl rfl (fun K hK => ?_) (fun K hK => ?_)
        focus (
          go_simp; refine (to_any p A n c _ (HP0.out.below hSn) (by omega)).mono ?_; rintro e wc ⟨gc, nc, cc, rfl, hpc, hbc, -⟩; go_simp
          have hpa := hpa.below hbc
          have hSn := bt hSn hbc; refine hK _ _ hSn ?_; clear hK; clear K; simp only [List.set_cons_zero, List.set_cons_succ]
          refine WH.two 6 7 _ _ rfl rfl (by kernel_rfl) rfl rfl (fun K hK => ?_) (fun K hK => ?_)
          focus (
            go_simp; refine (play_any (layP L q) HN1.out p (some ⟨gc, 0, none⟩) nc cc _ hpc).mono ?_; rintro e wd ⟨rfl, hbd⟩; go_simp
            have hpa := hpa.below hbd
            have hpc := hpc.below hbd
            have hSn := bt hSn hbd; refine hK _ _ hSn ?_; clear hK; clear K; simp only [List.set_cons_zero, List.set_cons_succ]
            refine WH.only 7 _ rfl (by kernel_rfl) rfl (fun K hK => ?_)
            have hle := hSn.size
            have hbl := hSn
            refine ow_alloc _ rfl _ Try.blockZero ?_
            apply Stop.go
            intro wN HgN HBa
            have HBa := HBa.out
            have hgN := HgN.out.1
            have hpa := hpa.below hgN
            have hpc := hpc.below hgN
            have hSn := bt hbl hgN; refine hK _ _ hSn ?_; clear hK; clear K; simp only [Act.put, List.setIfInBounds_toArray, List.set_cons_zero, List.set_cons_succ]
            clear hbl HgN
            refine WH.only 8 _ rfl (by kernel_rfl) rfl (fun K hK => ?_)
            refine ow_store _ _ _ rfl _ (bcells (layP (layP L q) p)) rfl rfl _ _ HBa (Try.blockFits HN2.out) (by rw [bcells_size, bcells_size, HN2.out, zeros_len]) (oneCell_bcells _) ?_
            apply Stop.go
            intro w9 Ho9 HxG
            have D9 := Lib.hid (bonly hSn Ho9.out hle)
            have hSn := D9.out; refine hK _ _ hSn ?_; clear hK; clear K; simp only [Act.put, List.set_cons_zero, List.set_cons_succ]
            refine WH.done (by kernel_rfl) ?_
            generalize wd.heap.size = G at *
            clear HBa Ho9 hle hSn
            clear hpa
            clear hpc)
          rotate_left 1
          focus (
            have hle := hSn.size
            have hbl := hSn
            refine ow_alloc _ rfl _ Try.blockZero ?_
            apply Stop.go
            intro wN HgN HBa
            have HBa := HBa.out
            have hgN := HgN.out.1
            have hpa := hpa.below hgN
            have hpc := hpc.below hgN
            have hSn := bt hbl hgN; refine hK _ _ hSn ?_; clear hK; clear K; simp only [Act.put, List.setIfInBounds_toArray, List.set_cons_zero, List.set_cons_succ]
            clear hbl HgN
            refine WH.only 6 _ rfl (by kernel_rfl) rfl (fun K hK => ?_); go_simp; refine (play_any (layP L q) HN1.out p (some ⟨gc, 0, none⟩) nc cc _ hpc).mono ?_; rintro e wd ⟨rfl, hbd⟩; go_simp
            have hpa := hpa.below hbd
            have hpc := hpc.below hbd
            have HBa := HBa.ext hbd
            have hSn := bt hSn hbd; refine hK _ _ hSn ?_; clear hK; clear K; simp only [List.set_cons_zero, List.set_cons_succ]
            refine WH.only 8 _ rfl (by kernel_rfl) rfl (fun K hK => ?_)
            refine ow_store _ _ _ rfl _ (bcells (layP (layP L q) p)) rfl rfl _ _ HBa (Try.blockFits HN2.out) (by rw [bcells_size, bcells_size, HN2.out, zeros_len]) (oneCell_bcells _) ?_
            apply Stop.go
            intro w9 Ho9 HxG
            have D9 := Lib.hid (bonly hSn Ho9.out hle)
            have hSn := D9.out; refine hK _ _ hSn ?_; clear hK; clear K; simp only [Act.put, List.set_cons_zero, List.set_cons_succ]
            refine WH.done (by kernel_rfl) ?_
            generalize wc.heap.size = G at *
            clear HBa Ho9 hle hSn
            clear hpa
            clear hpc))
        rotate_left 2
        focus (
          have hle := hSn.size
          have hbl := hSn
          refine ow_alloc _ rfl _ Try.blockZero ?_
          apply Stop.go
          intro wN HgN HBa
          have HBa := HBa.out
          have hgN := HgN.out.1
          have hpa := hpa.below hgN
          have hSn := bt hbl hgN; refine hK _ _ hSn ?_; clear hK; clear K; simp only [Act.put, List.setIfInBounds_toArray, List.set_cons_zero, List.set_cons_succ]
          clear hbl HgN
          refine WH.only 5 _ rfl (by kernel_rfl) rfl (fun K hK => ?_); go_simp; refine (to_any p A n c _ (HP0.out.below hSn) (by omega)).mono ?_; rintro e wc ⟨gc, nc, cc, rfl, hpc, hbc, -⟩; go_simp
          have hpa := hpa.below hbc
          have HBa := HBa.ext hbc
          have hSn := bt hSn hbc; refine hK _ _ hSn ?_; clear hK; clear K; simp only [List.set_cons_zero, List.set_cons_succ]
          refine WH.only 6 _ rfl (by kernel_rfl) rfl (fun K hK => ?_); go_simp; refine (play_any (layP L q) HN1.out p (some ⟨gc, 0, none⟩) nc cc _ hpc).mono ?_; rintro e wd ⟨rfl, hbd⟩; go_simp
          have hpa := hpa.below hbd
          have hpc := hpc.below hbd
          have HBa := HBa.ext hbd
          have hSn := bt hSn hbd; refine hK _ _ hSn ?_; clear hK; clear K; simp only [List.set_cons_zero, List.set_cons_succ]
          refine WH.only 8 _ rfl (by kernel_rfl) rfl (fun K hK => ?_)
          refine ow_store _ _ _ rfl _ (bcells (layP (layP L q) p)) rfl rfl _ _ HBa (Try.blockFits HN2.out) (by rw [bcells_size, bcells_size, HN2.out, zeros_len]) (oneCell_bcells _) ?_
          apply Stop.go
          intro w9 Ho9 HxG
          have D9 := Lib.hid (bonly hSn Ho9.out hle)
          have hSn := D9.out; refine hK _ _ hSn ?_; clear hK; clear K; simp only [Act.put, List.set_cons_zero, List.set_cons_succ]
          refine WH.done (by kernel_rfl) ?_
          generalize wb.heap.size = G at *
          clear HBa Ho9 hle hSn
          clear hpa
          clear hpc))
      rotate_left 3
      focus (
        have hle := hSn.size
        have hbl := hSn
        refine ow_alloc _ rfl _ Try.blockZero ?_
        apply Stop.go
        intro wN HgN HBa
        have HBa := HBa.out
        have hgN := HgN.out.1
        have hpa := hpa.below hgN
        have hSn := bt hbl hgN; refine hK _ _ hSn ?_; clear hK; clear K; simp only [Act.put, List.setIfInBounds_toArray, List.set_cons_zero, List.set_cons_succ]
        clear hbl HgN
        refine WH.only 3 _ rfl (by kernel_rfl) rfl (fun K hK => ?_); go_simp; refine (play_any (L) HL.out q (some ⟨ga, 0, none⟩) na ca _ hpa).mono ?_; rintro e wb ⟨rfl, hbb⟩; go_simp
        have hpa := hpa.below hbb
        have HBa := HBa.ext hbb
        have hSn := bt hSn hbb; refine hK _ _ hSn ?_; clear hK; clear K; simp only [List.set_cons_zero, List.set_cons_succ]
        refine WH.only 5 _ rfl (by kernel_rfl) rfl (fun K hK => ?_); go_simp; refine (to_any p A n c _ (HP0.out.below hSn) (by omega)).mono ?_; rintro e wc ⟨gc, nc, cc, rfl, hpc, hbc, -⟩; go_simp
        have hpa := hpa.below hbc
        have HBa := HBa.ext hbc
        have hSn := bt hSn hbc; refine hK _ _ hSn ?_; clear hK; clear K; simp only [List.set_cons_zero, List.set_cons_succ]
        refine WH.only 6 _ rfl (by kernel_rfl) rfl (fun K hK => ?_); go_simp; refine (play_any (layP L q) HN1.out p (some ⟨gc, 0, none⟩) nc cc _ hpc).mono ?_; rintro e wd ⟨rfl, hbd⟩; go_simp
        have hpa := hpa.below hbd
        have hpc := hpc.below hbd
        have HBa := HBa.ext hbd
        have hSn := bt hSn hbd; refine hK _ _ hSn ?_; clear hK; clear K; simp only [List.set_cons_zero, List.set_cons_succ]
        refine WH.only 8 _ rfl (by kernel_rfl) rfl (fun K hK => ?_)
        refine ow_store _ _ _ rfl _ (bcells (layP (layP L q) p)) rfl rfl _ _ HBa (Try.blockFits HN2.out) (by rw [bcells_size, bcells_size, HN2.out, zeros_len]) (oneCell_bcells _) ?_
        apply Stop.go
        intro w9 Ho9 HxG
        have D9 := Lib.hid (bonly hSn Ho9.out hle)
        have hSn := D9.out; refine hK _ _ hSn ?_; clear hK; clear K; simp only [Act.put, List.set_cons_zero, List.set_cons_succ]
        refine WH.done (by kernel_rfl) ?_
        generalize wa.heap.size = G at *
        clear HBa Ho9 hle hSn
        clear hpa
        clear hpc))
    rotate_left 4
    focus (
      have hle := hSn.size
      have hbl := hSn
      refine ow_alloc _ rfl _ Try.blockZero ?_
      apply Stop.go
      intro wN HgN HBa
      have HBa := HBa.out
      have hgN := HgN.out.1
      have hSn := bt hbl hgN; refine hK _ _ hSn ?_; clear hK; clear K; simp only [Act.put, List.setIfInBounds_toArray, List.set_cons_zero, List.set_cons_succ]
      clear hbl HgN
      refine WH.only 2 _ rfl (by kernel_rfl) rfl (fun K hK => ?_); go_simp; refine (to_any q A' n' c' _ (HQ0.out.below hSn) (by omega)).mono ?_; rintro e wa ⟨ga, na, ca, rfl, hpa, hba, -⟩; go_simp
      have HBa := HBa.ext hba
      have hSn := bt hSn hba; refine hK _ _ hSn ?_; clear hK; clear K; simp only [List.set_cons_zero, List.set_cons_succ]
      refine WH.only 3 _ rfl (by kernel_rfl) rfl (fun K hK => ?_); go_simp; refine (play_any (L) HL.out q (some ⟨ga, 0, none⟩) na ca _ hpa).mono ?_; rintro e wb ⟨rfl, hbb⟩; go_simp
      have hpa := hpa.below hbb
      have HBa := HBa.ext hbb
      have hSn := bt hSn hbb; refine hK _ _ hSn ?_; clear hK; clear K; simp only [List.set_cons_zero, List.set_cons_succ]
      refine WH.only 5 _ rfl (by kernel_rfl) rfl (fun K hK => ?_); go_simp; refine (to_any p A n c _ (HP0.out.below hSn) (by omega)).mono ?_; rintro e wc ⟨gc, nc, cc, rfl, hpc, hbc, -⟩; go_simp
      have hpa := hpa.below hbc
      have HBa := HBa.ext hbc
      have hSn := bt hSn hbc; refine hK _ _ hSn ?_; clear hK; clear K; simp only [List.set_cons_zero, List.set_cons_succ]
      refine WH.only 6 _ rfl (by kernel_rfl) rfl (fun K hK => ?_); go_simp; refine (play_any (layP L q) HN1.out p (some ⟨gc, 0, none⟩) nc cc _ hpc).mono ?_; rintro e wd ⟨rfl, hbd⟩; go_simp
      have hpa := hpa.below hbd
      have hpc := hpc.below hbd
      have HBa := HBa.ext hbd
      have hSn := bt hSn hbd; refine hK _ _ hSn ?_; clear hK; clear K; simp only [List.set_cons_zero, List.set_cons_succ]
      refine WH.only 8 _ rfl (by kernel_rfl) rfl (fun K hK => ?_)
      refine ow_store _ _ _ rfl _ (bcells (layP (layP L q) p)) rfl rfl _ _ HBa (Try.blockFits HN2.out) (by rw [bcells_size, bcells_size, HN2.out, zeros_len]) (oneCell_bcells _) ?_
      apply Stop.go
      intro w9 Ho9 HxG
      have D9 := Lib.hid (bonly hSn Ho9.out hle)
      have hSn := D9.out; refine hK _ _ hSn ?_; clear hK; clear K; simp only [Act.put, List.set_cons_zero, List.set_cons_succ]
      refine WH.done (by kernel_rfl) ?_
      generalize wS.heap.size = G at *
      clear HBa Ho9 hle hSn
      clear hpa
      clear hpc)
    all_goals
      go_wp2_with fail
      go_meet
      exact ⟨G, rfl, HxG.out, D9.out⟩
  case rest =>
  obtain ⟨G2, rfl, hx, hd⟩ := hcut
  have HY6 := Lib.hid hx
  have HX6 := Lib.hid (HX5.out.ext hd)
  have HB6 := Lib.hid (HB4.out.ext hd)
  have HC6 := Lib.hid (Hb3.out.ext hd)
  have HP6 := Lib.hid (HP0.out.below hd)
  have HQ6 := Lib.hid (HQ0.out.below hd)
  have Hw6 := Lib.hid (bt Hw0.out hd)
  clear hx hd
  have HSw := Lib.hid (fun h => lay_swap (L := L) p q HL.out h)
  have HWq := Lib.hid (fun h => lay_last (L := layP L p) q HM1.out h)
  have HX := HM2
  have HY := HN2
  generalize layP (layP L p) q = X at *
  generalize layP (layP L q) p = Y at *
  generalize wc = w6 at *
  go_wp2_with fail
  refine WH.start (S := fun w' : World => Below w6.heap.size w6 w') (List.replicate 11 false) 11 rfl rfl (by kernel_rfl) (bdrew w6 1) (fun hSn => ?_)
  simp only [List.replicate]
  obtain ⟨wS, hwS⟩ : ∃ x, w6.drew = x := ⟨_, rfl⟩
  rw [hwS] at hSn ⊢
  clear hwS
  refine WH.take 0 _ _ rfl (by kernel_rfl) (fun _ _ _ h => h) rfl (by assumption) (fun w' hSw => exec_load_blk _ _ rfl _ rfl _ _ (HB6.out.ext hSw) _ (Try.underlying25) rfl (Try.rpatchSize)) ?_; simp only [Act.put, List.setIfInBounds_toArray, List.set_cons_zero, List.set_cons_succ]
  refine WH.take 2 _ _ rfl (by kernel_rfl) (fun _ _ _ h => h) rfl (by assumption) (fun w' hSw => exec_load_blk _ _ rfl _ rfl _ _ (HC6.out.ext hSw) _ (Try.underlying25) rfl (Try.rpatchSize)) ?_; simp only [Act.put, List.setIfInBounds_toArray, List.set_cons_zero, List.set_cons_succ]
  refine WH.only 1 _ rfl (by kernel_rfl) rfl (fun K hK => ?_); go_simp; refine (to_any p A n c _ (HP6.out.below hSn) (by omega)).mono ?_; rintro e wa ⟨ga, na, ca, rfl, hpa, hba, -⟩; go_simp
  have hSn := bt hSn hba; refine hK _ _ hSn ?_; clear hK; clear K; simp only [List.set_cons_zero, List.set_cons_succ]
  refine WH.only 3 _ rfl (by kernel_rfl) rfl (fun K hK => ?_); go_simp; refine (to_any q A' n' c' _ (HQ6.out.below hSn) (by omega)).mono ?_; rintro e wb ⟨gb, nb, cb, rfl, hpb, hbb, -⟩; go_simp
  have hpa := hpa.below hbb
  have hSn := bt hSn hbb; refine hK _ _ hSn ?_; clear hK; clear K; simp only [List.set_cons_zero, List.set_cons_succ]
  refine WH.only 4 _ rfl (by kernel_rfl) rfl (fun K hK => ?_); go_simp; refine (meet_any p (some ⟨ga, 0, none⟩) na ca q (some ⟨gb, 0, none⟩) nb cb _ hpa hpb).mono ?_; rintro e wc ⟨rfl, hbc⟩; go_simp
  have hSn := bt hSn hbc; refine hK _ _ hSn ?_; clear hK; clear K; simp only [List.set_cons_zero, List.set_cons_succ]
  refine WH.take 5 _ ?_ rfl (by kernel_rfl) (fun _ _ _ h => h) rfl (by assumption) ?_ ?_; rotate_left; (focus (intro w hSw; (try dsimp only at hSw); (first | (go_simp; done) | (go_simp; with_reducible rfl)))); simp only [Act.put, List.setIfInBounds_toArray, List.set_cons_zero, List.set_cons_succ]
  refine WH.take 6 _ ?_ rfl (by kernel_rfl) (fun _ _ _ h => h) rfl (by assumption) ?_ ?_; rotate_left; (focus (intro w hSw; (try dsimp only at hSw); (first | (go_simp; done) | (go_simp; with_reducible rfl)))); simp only [Act.put, List.setIfInBounds_toArray, List.set_cons_zero, List.set_cons_succ]
  cases hm : meetP p q
  focus (
    have HE := Lib.hid (show (!(X == Y)) = false by rw [HSw.out hm]; simp)
    refine WH.take 7 _ _ rfl (by kernel_rfl) (fun _ _ _ h => h) rfl (by assumption) (fun w' hSw => exec_load_blk _ _ rfl _ rfl _ _ (HX6.out.ext hSw) _ (Try.underlying27) rfl (Try.blockFits HX.out)) ?_; simp only [Act.put, List.setIfInBounds_toArray, List.set_cons_zero, List.set_cons_succ]
    refine WH.take 8 _ _ rfl (by kernel_rfl) (fun _ _ _ h => h) rfl (by assumption) (fun w' hSw => exec_load_blk _ _ rfl _ rfl _ _ (HY6.out.ext hSw) _ (Try.underlying27) rfl (Try.blockFits HY.out)) ?_; simp only [Act.put, List.setIfInBounds_toArray, List.set_cons_zero, List.set_cons_succ]
    refine WH.take 9 _ _ rfl (by kernel_rfl) (fun _ _ _ h => h) rfl (by assumption) (fun w' hSw => exec_neq_arr _ _ _ _ rfl Try.blockGuard _ _ Try.underlying27 Try.underlying5 Try.byteSize X Y rfl rfl HX.out HY.out false HE.out) ?_; simp only [Act.put, List.setIfInBounds_toArray, List.set_cons_zero, List.set_cons_succ]
    refine WH.take 10 _ ?_ rfl (by kernel_rfl) (fun _ _ _ h => h) rfl (by assumption) ?_ ?_; rotate_left; (focus (intro w hSw; (try dsimp only at hSw); (first | (go_simp; done) | (go_simp; with_reducible rfl)))); simp only [Act.put, List.setIfInBounds_toArray, List.set_cons_zero, List.set_cons_succ])
  rotate_left
  focus (
    refine WH.skip 7 _ rfl (by kernel_rfl) (fun _ _ _ h => h) rfl (by assumption) ?_; simp only [Act.put, List.setIfInBounds_toArray, List.set_cons_zero, List.set_cons_succ]
    refine WH.skip 8 _ rfl (by kernel_rfl) (fun _ _ _ h => h) rfl (by assumption) ?_; simp only [Act.put, List.setIfInBounds_toArray, List.set_cons_zero, List.set_cons_succ]
    refine WH.skip 9 _ rfl (by kernel_rfl) (fun _ _ _ h => h) rfl (by assumption) ?_; simp only [Act.put, List.setIfInBounds_toArray, List.set_cons_zero, List.set_cons_succ]
    refine WH.take 10 _ ?_ rfl (by kernel_rfl) (fun _ _ _ h => h) rfl (by assumption) ?_ ?_; rotate_left; (focus (intro w hSw; (try dsimp only at hSw); (first | (go_simp; done) | (go_simp; with_reducible rfl)))); simp only [Act.put, List.setIfInBounds_toArray, List.set_cons_zero, List.set_cons_succ])
  rotate_left
  all_goals
    refine WH.done (by kernel_rfl) ?_
    have D7 := Lib.hid hSn
    clear hSn hba hbb hbc hpa hpb
    have HX7 := Lib.hid (HX6.out.ext D7.out)
    have HC7 := Lib.hid (HC6.out.ext D7.out)
    have HQ7 := Lib.hid (HQ6.out.below D7.out)
    have Hw7 := Lib.hid (bt Hw6.out D7.out)
    generalize wc = w7 at *
    cases hqr : q.right
    focus (
    have Hck := Lib.hid (show checkI q = 2 by unfold checkI; rw [hqr]; rfl)
    go_wp2_with fail
    refine WH.start (S := fun w' : World => Below w7.heap.size w7 w') (List.replicate 14 false) 14 rfl rfl (by kernel_rfl) (bdrew w7 1) (fun hSn => ?_)
    simp only [List.replicate]
    obtain ⟨wS, hwS⟩ : ∃ x, w7.drew = x := ⟨_, rfl⟩
    rw [hwS] at hSn ⊢
    clear hwS
    refine WH.take 0 _ _ rfl (by kernel_rfl) (fun _ _ _ h => h) rfl (by assumption) (fun w' hSw => exec_load_blk _ _ rfl _ rfl _ _ (HC7.out.ext hSw) _ (Try.underlying25) rfl (Try.rpatchSize)) ?_; simp only [Act.put, List.setIfInBounds_toArray, List.set_cons_zero, List.set_cons_succ]
    refine WH.only 1 _ rfl (by kernel_rfl) rfl (fun K hK => ?_); go_simp; refine (to_any q A' n' c' _ (HQ7.out.below hSn) (by omega)).mono ?_; rintro e wa ⟨ga, na, ca, rfl, hpa, hba, -⟩; go_simp
    have hSn := bt hSn hba; refine hK _ _ hSn ?_; clear hK; clear K; simp only [List.set_cons_zero, List.set_cons_succ]
    refine WH.only 2 _ rfl (by kernel_rfl) rfl (fun K hK => ?_); go_simp; refine (check_any q (some ⟨ga, 0, none⟩) na ca _ hpa).mono ?_; rintro e wb ⟨rfl, hbb⟩; go_simp
    rw [Hck.out]
    have hSn := bt hSn hbb; refine hK _ _ hSn ?_; clear hK; clear K; simp only [List.set_cons_zero, List.set_cons_succ]
    refine WH.take 3 _ ?_ rfl (by kernel_rfl) (fun _ _ _ h => h) rfl (by assumption) ?_ ?_; rotate_left; (focus (intro w hSw; (try dsimp only at hSw); (first | (go_simp; done) | (go_simp; with_reducible rfl)))); simp only [Act.put, List.setIfInBounds_toArray, List.set_cons_zero, List.set_cons_succ]
    refine WH.take 4 _ ?_ rfl (by kernel_rfl) (fun _ _ _ h => h) rfl (by assumption) ?_ ?_; rotate_left; (focus (intro w hSw; (try dsimp only at hSw); (first | (go_simp; done) | (go_simp; with_reducible rfl)))); simp only [Act.put, List.setIfInBounds_toArray, List.set_cons_zero, List.set_cons_succ]
    refine WH.skip 5 _ rfl (by kernel_rfl) (fun _ _ _ h => h) rfl (by assumption) ?_; simp only [Act.put, List.setIfInBounds_toArray, List.set_cons_zero, List.set_cons_succ]
    refine WH.skip 6 _ rfl (by kernel_rfl) (fun _ _ _ h => h) rfl (by assumption) ?_; simp only [Act.put, List.setIfInBounds_toArray, List.set_cons_zero, List.set_cons_succ]
    refine WH.skip 9 _ rfl (by kernel_rfl) (fun _ _ _ h => h) rfl (by assumption) ?_; simp only [Act.put, List.setIfInBounds_toArray, List.set_cons_zero, List.set_cons_succ]
    refine WH.onlySkip 7 _ rfl (by kernel_rfl) rfl (by assumption) ?_; simp only [Act.put, List.setIfInBounds_toArray, List.set_cons_zero, List.set_cons_succ]
    refine WH.onlySkip 8 _ rfl (by kernel_rfl) rfl (by assumption) ?_; simp only [Act.put, List.setIfInBounds_toArray, List.set_cons_zero, List.set_cons_succ]
    refine WH.onlySkip 10 _ rfl (by kernel_rfl) rfl (by assumption) ?_; simp only [Act.put, List.setIfInBounds_toArray, List.set_cons_zero, List.set_cons_succ]
    refine WH.onlySkip 11 _ rfl (by kernel_rfl) rfl (by assumption) ?_; simp only [Act.put, List.setIfInBounds_toArray, List.set_cons_zero, List.set_cons_succ]
    refine WH.skip 12 _ rfl (by kernel_rfl) (fun _ _ _ h => h) rfl (by assumption) ?_; simp only [Act.put, List.setIfInBounds_toArray, List.set_cons_zero, List.set_cons_succ]
    refine WH.take 13 _ ?_ rfl (by kernel_rfl) (fun _ _ _ h => h) rfl (by assumption) ?_ ?_; rotate_left; (focus (intro w hSw; (try dsimp only at hSw); (first | (go_simp; done) | (go_simp; with_reducible rfl)))); simp only [Act.put, List.setIfInBounds_toArray, List.set_cons_zero, List.set_cons_succ])
    rotate_left
    focus (
    have Hck := Lib.hid (show checkI q = 0 by unfold checkI; rw [hqr]; rfl)
    have HW := Lib.hid (HWq.out hqr)
    go_wp2_with fail
    refine WH.start (S := fun w' : World => Below w7.heap.size w7 w') (List.replicate 14 false) 14 rfl rfl (by kernel_rfl) (bdrew w7 1) (fun hSn => ?_)
    simp only [List.replicate]
    obtain ⟨wS, hwS⟩ : ∃ x, w7.drew = x := ⟨_, rfl⟩
    rw [hwS] at hSn ⊢
    clear hwS
    refine WH.take 0 _ _ rfl (by kernel_rfl) (fun _ _ _ h => h) rfl (by assumption) (fun w' hSw => exec_load_blk _ _ rfl _ rfl _ _ (HC7.out.ext hSw) _ (Try.underlying25) rfl (Try.rpatchSize)) ?_; simp only [Act.put, List.setIfInBounds_toArray, List.set_cons_zero, List.set_cons_succ]
    refine WH.only 1 _ rfl (by kernel_rfl) rfl (fun K hK => ?_); go_simp; refine (to_any q A' n' c' _ (HQ7.out.below hSn) (by omega)).mono ?_; rintro e wa ⟨ga, na, ca, rfl, hpa, hba, -⟩; go_simp
    have hSn := bt hSn hba; refine hK _ _ hSn ?_; clear hK; clear K; simp only [List.set_cons_zero, List.set_cons_succ]
    refine WH.only 2 _ rfl (by kernel_rfl) rfl (fun K hK => ?_); go_simp; refine (check_any q (some ⟨ga, 0, none⟩) na ca _ hpa).mono ?_; rintro e wb ⟨rfl, hbb⟩; go_simp
    rw [Hck.out]
    have hSn := bt hSn hbb; refine hK _ _ hSn ?_; clear hK; clear K; simp only [List.set_cons_zero, List.set_cons_succ]
    refine WH.take 3 _ ?_ rfl (by kernel_rfl) (fun _ _ _ h => h) rfl (by assumption) ?_ ?_; rotate_left; (focus (intro w hSw; (try dsimp only at hSw); (first | (go_simp; done) | (go_simp; with_reducible rfl)))); simp only [Act.put, List.setIfInBounds_toArray, List.set_cons_zero, List.set_cons_succ]
    refine WH.take 4 _ ?_ rfl (by kernel_rfl) (fun _ _ _ h => h) rfl (by assumption) ?_ ?_; rotate_left; (focus (intro w hSw; (try dsimp only at hSw); (first | (go_simp; done) | (go_simp; with_reducible rfl)))); simp only [Act.put, List.setIfInBounds_toArray, List.set_cons_zero, List.set_cons_succ]
    refine WH.take 5 _ _ rfl (by kernel_rfl) (fun _ _ _ h => h) rfl (by assumption) (fun w' hSw => exec_load_blk _ _ rfl _ rfl _ _ (HX7.out.ext hSw) _ (Try.underlying27) rfl (Try.blockFits HX.out)) ?_; simp only [Act.put, List.setIfInBounds_toArray, List.set_cons_zero, List.set_cons_succ]
    refine WH.take 6 _ _ rfl (by kernel_rfl) (fun _ _ _ h => h) rfl (by assumption) (fun w' hSw => exec_load_blk _ _ rfl _ rfl _ _ (HC7.out.ext hSw) _ (Try.underlying25) rfl (Try.rpatchSize)) ?_; simp only [Act.put, List.setIfInBounds_toArray, List.set_cons_zero, List.set_cons_succ]
    refine WH.take 9 _ _ rfl (by kernel_rfl) (fun _ _ _ h => h) rfl (by assumption) (fun w' hSw => exec_load_blk _ _ rfl _ rfl _ _ (HC7.out.ext hSw) _ (Try.underlying25) rfl (Try.rpatchSize)) ?_; simp only [Act.put, List.setIfInBounds_toArray, List.set_cons_zero, List.set_cons_succ]
    refine WH.only 7 _ rfl (by kernel_rfl) rfl (fun K hK => ?_); go_simp; refine (to_any q A' n' c' _ (HQ7.out.below hSn) (by omega)).mono ?_; rintro e wc ⟨gc, nc, cc, rfl, hpc, hbc, -⟩; go_simp
    have hSn := bt hSn hbc; refine hK _ _ hSn ?_; clear hK; clear K; simp only [List.set_cons_zero, List.set_cons_succ]
    refine WH.only 8 _ rfl (by kernel_rfl) rfl (fun K hK => ?_); go_simp; refine (was_any X HX.out q (some ⟨gc, 0, none⟩) nc cc _ hpc).mono ?_; rintro e wd ⟨A2, n2, c2, rfl, hp2, hbd, -⟩; go_simp
    rw [HW.out] at hp2 ⊢
    obtain ⟨ad2, rfl⟩ := hp2.read.addr (Pt.right_iff.1 hqr).1
    have hSn := bt hSn hbd; refine hK _ _ hSn ?_; clear hK; clear K; simp only [List.set_cons_zero, List.set_cons_succ]
    refine WH.only 10 _ rfl (by kernel_rfl) rfl (fun K hK => ?_); go_simp; refine (to_any q A' n' c' _ (HQ7.out.below hSn) (by omega)).mono ?_; rintro e we ⟨ge, ne, ce, rfl, hpe, hbe, -⟩; go_simp
    have hp2 := hp2.below hbe
    have hSn := bt hSn hbe; refine hK _ _ hSn ?_; clear hK; clear K; simp only [List.set_cons_zero, List.set_cons_succ]
    refine WH.only 11 _ rfl (by kernel_rfl) rfl (fun K hK => ?_); go_simp; refine (psame_any q ad2 n2 c2 q ⟨ge, 0, none⟩ ne ce _ hp2 hpe).mono ?_; rintro e wf ⟨rfl, hbf⟩; go_simp
    rw [sameP_self]
    have hSn := bt hSn hbf; refine hK _ _ hSn ?_; clear hK; clear K; simp only [List.set_cons_zero, List.set_cons_succ]
    refine WH.take 12 _ ?_ rfl (by kernel_rfl) (fun _ _ _ h => h) rfl (by assumption) ?_ ?_; rotate_left; (focus (intro w hSw; (try dsimp only at hSw); (first | (go_simp; done) | (go_simp; with_reducible rfl)))); simp only [Act.put, List.setIfInBounds_toArray, List.set_cons_zero, List.set_cons_succ]
    refine WH.take 13 _ ?_ rfl (by kernel_rfl) (fun _ _ _ h => h) rfl (by assumption) ?_ ?_; rotate_left; (focus (intro w hSw; (try dsimp only at hSw); (first | (go_simp; done) | (go_simp; with_reducible rfl)))); simp only [Act.put, List.setIfInBounds_toArray, List.set_cons_zero, List.set_cons_succ])
    rotate_left
    all_goals
      refine WH.done (by kernel_rfl) ?_
      have Hw8 := Lib.hid (bt Hw7.out hSn)
      clear hSn
      go_wp2_with fail
      refine (works07_any _).mono ?_; rintro e w9 ⟨rfl, hb9⟩
      go_wp2_with fail
      go_ret
      exact ⟨rfl, bt Hw8.out hb9⟩

end Go.Proofs.Ytnlcpkffaiegaaa
