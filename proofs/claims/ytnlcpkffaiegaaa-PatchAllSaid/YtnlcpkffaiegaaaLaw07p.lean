/-
  The walk of PatchBack.
-/
import Derived.Test.YtnlcpkffaiegaaaLaw07
namespace Go.Proofs.Ytnlcpkffaiegaaa
open Go.RowKit

theorem Try.blockGuard : Try.prog.eqGuardType Try.prog.depth 27 = false := by kernel_rfl
section
variable {P : Program} {a : Act} {w : World}
theorem exec_eql_arr {o : Oper} (t t' : TypeId) (x y : Operand) (ho : o.op = .binOp .eql t x y t') (hm : P.eqGuardType P.depth t = false) (n e : Nat) (ht : P.underlying t = some (.array n e)) (he : P.underlying e = some (.int .u8)) (hs : (P.info? e).map (·.size) = some 1)
    (xs ys : List UInt8) (hx : a.eval x = .agg (bcells xs)) (hy : a.eval y = .agg (bcells ys)) (hxl : xs.length = n) (hyl : ys.length = n) (r : Bool) (hr : (xs == ys) = r) : (execOp a.eval o).run P w = .ok (.value (.bool r)) w := by
  have hrun : (binOp .eql t (.agg (bcells xs)) (.agg (bcells ys))).run P w = .ok (.bool (xs == ys)) w := run_eql_bytes w t e n ht he (sizeOf_of hs) xs ys hxl hyl
  rw [hr] at hrun
  unfold execOp
  simp only [ho, hx, hy, Sem.run_bind, run_eqGuard_agg w .eql t x y (bcells xs) (bcells ys) hm, Result.andThen_ok, hrun]
  rfl
end

set_option maxHeartbeats 4000000 in
theorem patchBack_any (L : List UInt8) (hL : L.length = 256) (p : Pt) (A : Option Addr) (n c : Nat) (w : World) (hp : PV w p A n c) :
    Calls Try.prog 7 #[.agg (bcells L), .agg #[.int .i64 p.at_, .slice A n c]] w fun e w' => e = .returned (.bool true) ∧ Below w.heap.size w w' := by
  have HL := Lib.hid hL
  have Hp := Lib.hid hp
  clear hL hp
  go_enter Try.func7, Try.ntmps7
  go_wp2_with (refine wpList_box_row rfl _ _ rfl _ rfl ?_)
  apply Stop.go; intro w1 Hg1 Hb1
  go_wp2_with (refine wpList_box_row rfl _ _ rfl _ rfl ?_)
  apply Stop.go; intro w2 Hg2 Hb2
  have Hw0 := Lib.hid (bt Hg1.out.1 Hg2.out.1)
  have k1 : w2.cell? ⟨w1.heap.size, 1, none⟩ = some (.slice A n c) := Hb2.out.cell 1
  by_cases h6 : n ≤ 600
  focus (
  have d1 : decide ((600 : Int) < n) = false := by simp; omega
  have Hx2 := Lib.hid (Hb1.out.ext Hg2.out.1)
  go_wp2_with (first | refine wpList_load_arr rfl _ _ rfl _ rfl _ _ Hx2.out _ _ Try.underlying22 (Try.arr256Fits HL.out) ?_ | refine wpList_alloc_row rfl _ rfl _ Try.blockZero ?_)
  apply Stop.go; intro w3 Hg3 Hb3
  go_wp2_with (refine wpList_store_arr rfl _ _ _ rfl _ _ rfl rfl _ _ Hb3.out (Try.blockFits HL.out) (by rw [bcells_size, bcells_size, HL.out, zeros_len]) (oneCell_bcells _) ?_)
  apply Stop.go; intro w4 Ho4 HX4
  have D4 := Lib.hid (bonly Hg3.out.1 Ho4.out (Nat.le_refl _))
  have HB4 := Lib.hid (Hb2.out.ext D4.out)
  have Hw4 := Lib.hid (bt Hw0.out D4.out)
  have HP0 := Lib.hid (Hp.out.below Hw4.out)
  have HM := Lib.hid (layP_len p HL.out)
  clear k1 d1
  go_wp2_with fail
  refine WH.start (S := fun w' : World => Below w4.heap.size w4 w') (List.replicate 6 false) 6 rfl rfl (by kernel_rfl) (bdrew w4 1) (fun hSn => ?_)
  simp only [List.replicate]
  obtain ⟨wS, hwS⟩ : ∃ x, w4.drew = x := ⟨_, rfl⟩
  rw [hwS] at hSn ⊢
  clear hwS
  refine WH.take 0 _ _ rfl (by kernel_rfl) (fun _ _ _ h => h) rfl (by assumption) (fun w' hSw => exec_load_blk _ _ rfl _ rfl _ _ (HX4.out.ext hSw) _ (Try.underlying27) rfl (Try.blockFits HL.out)) ?_; simp only [Act.put, List.setIfInBounds_toArray, List.set_cons_zero, List.set_cons_succ]
  refine WH.take 1 _ _ rfl (by kernel_rfl) (fun _ _ _ h => h) rfl (by assumption) (fun w' hSw => exec_load_blk _ _ rfl _ rfl _ _ (HB4.out.ext hSw) _ (Try.underlying25) rfl (Try.rpatchSize)) ?_; simp only [Act.put, List.setIfInBounds_toArray, List.set_cons_zero, List.set_cons_succ]
  refine WH.two 2 4 _ _ rfl rfl (by kernel_rfl) rfl rfl (fun K hK => ?_) (fun K hK => ?_)
  focus (
    go_simp; refine (to_any p A n c _ (HP0.out.below hSn) (by omega)).mono ?_; rintro e wa ⟨ga, na, ca, rfl, hpa, hba, -⟩; go_simp
    have hSn := bt hSn hba; refine hK _ _ hSn ?_; clear hK; clear K; simp only [List.set_cons_zero, List.set_cons_succ]
    refine WH.two 3 4 _ _ rfl rfl (by kernel_rfl) rfl rfl (fun K hK => ?_) (fun K hK => ?_)
    focus (
      go_simp; refine (play_any L HL.out p (some ⟨ga, 0, none⟩) na ca _ hpa).mono ?_; rintro e wb ⟨rfl, hbb⟩; go_simp
      have hpa := hpa.below hbb
      have hSn := bt hSn hbb; refine hK _ _ hSn ?_; clear hK; clear K; simp only [List.set_cons_zero, List.set_cons_succ]
      refine WH.only 4 _ rfl (by kernel_rfl) rfl (fun K hK => ?_)
      have hle := hSn.size
      have hbl := hSn
      refine ow_alloc _ rfl _ Try.blockZero ?_
      apply Stop.go
      intro wN HgN HBa
      have HBa := HBa.out
      have hgN := HgN.out.1
      have hpa := hpa.below hgN
      have hSn := bt hbl hgN; refine hK _ _ hSn ?_; clear hK; clear K; simp only [Act.put, List.setIfInBounds_toArray, List.set_cons_zero, List.set_cons_succ]
      clear hbl HgN
      refine WH.only 5 _ rfl (by kernel_rfl) rfl (fun K hK => ?_)
      refine ow_store _ _ _ rfl _ (bcells (layP L p)) rfl rfl _ _ HBa (Try.blockFits HM.out) (by rw [bcells_size, bcells_size, HM.out, zeros_len]) (oneCell_bcells _) ?_
      apply Stop.go
      intro w9 Ho9 HxG
      have D9 := Lib.hid (bonly hSn Ho9.out hle)
      have hSn := D9.out; refine hK _ _ hSn ?_; clear hK; clear K; simp only [Act.put, List.set_cons_zero, List.set_cons_succ]
      refine WH.done (by kernel_rfl) ?_
      generalize wb.heap.size = G at *
      clear HBa Ho9 hle hSn
      clear hpa)
    rotate_left 1
    focus (
      have hle := hSn.size
      have hbl := hSn
      refine ow_alloc _ rfl _ Try.blockZero ?_
      apply Stop.go
      intro wN HgN HBa
      have HBa := HBa.out
      have hgN := HgN.out.1
      have hpa := hpa.below hgN
      have hSn := bt hbl hgN; refine hK _ _ hSn ?_; clear hK; clear K; simp only [Act.put, List.setIfInBounds_toArray, List.set_cons_zero, List.set_cons_succ]
      clear hbl HgN
      refine WH.only 3 _ rfl (by kernel_rfl) rfl (fun K hK => ?_); go_simp; refine (play_any L HL.out p (some ⟨ga, 0, none⟩) na ca _ hpa).mono ?_; rintro e wb ⟨rfl, hbb⟩; go_simp
      have hpa := hpa.below hbb
      have HBa := HBa.ext hbb
      have hSn := bt hSn hbb; refine hK _ _ hSn ?_; clear hK; clear K; simp only [List.set_cons_zero, List.set_cons_succ]
      refine WH.only 5 _ rfl (by kernel_rfl) rfl (fun K hK => ?_)
      refine ow_store _ _ _ rfl _ (bcells (layP L p)) rfl rfl _ _ HBa (Try.blockFits HM.out) (by rw [bcells_size, bcells_size, HM.out, zeros_len]) (oneCell_bcells _) ?_
      apply Stop.go
      intro w9 Ho9 HxG
      have D9 := Lib.hid (bonly hSn Ho9.out hle)
      have hSn := D9.out; refine hK _ _ hSn ?_; clear hK; clear K; simp only [Act.put, List.set_cons_zero, List.set_cons_succ]
      refine WH.done (by kernel_rfl) ?_
      generalize wa.heap.size = G at *
      clear HBa Ho9 hle hSn
      clear hpa))
  rotate_left 2
  focus (
    have hle := hSn.size
    have hbl := hSn
    refine ow_alloc _ rfl _ Try.blockZero ?_
    apply Stop.go
    intro wN HgN HBa
    have HBa := HBa.out
    have hgN := HgN.out.1
    have hSn := bt hbl hgN; refine hK _ _ hSn ?_; clear hK; clear K; simp only [Act.put, List.setIfInBounds_toArray, List.set_cons_zero, List.set_cons_succ]
    clear hbl HgN
    refine WH.only 2 _ rfl (by kernel_rfl) rfl (fun K hK => ?_); go_simp; refine (to_any p A n c _ (HP0.out.below hSn) (by omega)).mono ?_; rintro e wa ⟨ga, na, ca, rfl, hpa, hba, -⟩; go_simp
    have HBa := HBa.ext hba
    have hSn := bt hSn hba; refine hK _ _ hSn ?_; clear hK; clear K; simp only [List.set_cons_zero, List.set_cons_succ]
    refine WH.only 3 _ rfl (by kernel_rfl) rfl (fun K hK => ?_); go_simp; refine (play_any L HL.out p (some ⟨ga, 0, none⟩) na ca _ hpa).mono ?_; rintro e wb ⟨rfl, hbb⟩; go_simp
    have hpa := hpa.below hbb
    have HBa := HBa.ext hbb
    have hSn := bt hSn hbb; refine hK _ _ hSn ?_; clear hK; clear K; simp only [List.set_cons_zero, List.set_cons_succ]
    refine WH.only 5 _ rfl (by kernel_rfl) rfl (fun K hK => ?_)
    refine ow_store _ _ _ rfl _ (bcells (layP L p)) rfl rfl _ _ HBa (Try.blockFits HM.out) (by rw [bcells_size, bcells_size, HM.out, zeros_len]) (oneCell_bcells _) ?_
    apply Stop.go
    intro w9 Ho9 HxG
    have D9 := Lib.hid (bonly hSn Ho9.out hle)
    have hSn := D9.out; refine hK _ _ hSn ?_; clear hK; clear K; simp only [Act.put, List.set_cons_zero, List.set_cons_succ]
    refine WH.done (by kernel_rfl) ?_
    generalize wS.heap.size = G at *
    clear HBa Ho9 hle hSn
    clear hpa)
  all_goals
    have HX9 := Lib.hid (HX4.out.ext D9.out)
    have HY9 := Lib.hid HxG.out
    have HB9 := Lib.hid (HB4.out.ext D9.out)
    have HP9 := Lib.hid (HP0.out.below D9.out)
    have Hw9 := Lib.hid (bt Hw4.out D9.out)
    have HE1 := Lib.hid (show (layP (layP L p) (wasP L p) == L) = true by rw [lay_back p HL.out]; simp)
    have HE2 := Lib.hid (show (layP (layP L p) p == layP L p) = true by rw [lay_twice p HL.out]; simp)
    have HM2 := Lib.hid (layP_len (wasP L p) HM.out)
    have HM3 := Lib.hid (layP_len p HM.out)
    generalize layP L p = M at *
    clear HxG D9
    go_wp2_with fail
    refine WH.start (S := fun w' : World => Below w9.heap.size w9 w') (List.replicate 20 false) 20 rfl rfl (by kernel_rfl) (bdrew w9 1) (fun hSn => ?_)
    simp only [List.replicate]
    obtain ⟨wS, hwS⟩ : ∃ x, w9.drew = x := ⟨_, rfl⟩
    rw [hwS] at hSn ⊢
    clear hwS
    refine WH.take 0 _ _ rfl (by kernel_rfl) (fun _ _ _ h => h) rfl (by assumption) (fun w' hSw => exec_load_blk _ _ rfl _ rfl _ _ (HY9.out.ext hSw) _ (Try.underlying27) rfl (Try.blockFits HM.out)) ?_; simp only [Act.put, List.setIfInBounds_toArray, List.set_cons_zero, List.set_cons_succ]
    refine WH.take 1 _ _ rfl (by kernel_rfl) (fun _ _ _ h => h) rfl (by assumption) (fun w' hSw => exec_load_blk _ _ rfl _ rfl _ _ (HX9.out.ext hSw) _ (Try.underlying27) rfl (Try.blockFits HL.out)) ?_; simp only [Act.put, List.setIfInBounds_toArray, List.set_cons_zero, List.set_cons_succ]
    refine WH.take 2 _ _ rfl (by kernel_rfl) (fun _ _ _ h => h) rfl (by assumption) (fun w' hSw => exec_load_blk _ _ rfl _ rfl _ _ (HB9.out.ext hSw) _ (Try.underlying25) rfl (Try.rpatchSize)) ?_; simp only [Act.put, List.setIfInBounds_toArray, List.set_cons_zero, List.set_cons_succ]
    refine WH.take 6 _ _ rfl (by kernel_rfl) (fun _ _ _ h => h) rfl (by assumption) (fun w' hSw => exec_load_blk _ _ rfl _ rfl _ _ (HX9.out.ext hSw) _ (Try.underlying27) rfl (Try.blockFits HL.out)) ?_; simp only [Act.put, List.setIfInBounds_toArray, List.set_cons_zero, List.set_cons_succ]
    refine WH.only 3 _ rfl (by kernel_rfl) rfl (fun K hK => ?_); go_simp; refine (to_any p A n c _ (HP9.out.below hSn) (by omega)).mono ?_; rintro e wa ⟨ga, na, ca, rfl, hpa, hba, -⟩; go_simp
    have hSn := bt hSn hba; refine hK _ _ hSn ?_; clear hK; clear K; simp only [List.set_cons_zero, List.set_cons_succ]
    refine WH.only 4 _ rfl (by kernel_rfl) rfl (fun K hK => ?_); go_simp; refine (was_any L HL.out p (some ⟨ga, 0, none⟩) na ca _ hpa).mono ?_; rintro e wb ⟨A2, n2, c2, rfl, hp2, hbb, -⟩; go_simp
    have hSn := bt hSn hbb; refine hK _ _ hSn ?_; clear hK; clear K; simp only [List.set_cons_zero, List.set_cons_succ]
    refine WH.only 5 _ rfl (by kernel_rfl) rfl (fun K hK => ?_); go_simp; refine (play_any M HM.out (wasP L p) A2 n2 c2 _ hp2).mono ?_; rintro e wc ⟨rfl, hbc⟩; go_simp
    have hSn := bt hSn hbc; refine hK _ _ hSn ?_; clear hK; clear K; simp only [List.set_cons_zero, List.set_cons_succ]
    refine WH.take 7 _ _ rfl (by kernel_rfl) (fun _ _ _ h => h) rfl (by assumption) (fun w' hSw => exec_eql_arr _ _ _ _ rfl Try.blockGuard _ _ Try.underlying27 Try.underlying5 Try.byteSize (layP M (wasP L p)) (L) rfl rfl HM2.out HL.out true (HE1.out)) ?_; simp only [Act.put, List.setIfInBounds_toArray, List.set_cons_zero, List.set_cons_succ]
    refine WH.take 8 _ ?_ rfl (by kernel_rfl) (fun _ _ _ h => h) rfl (by assumption) ?_ ?_; rotate_left; (focus (intro w hSw; (try dsimp only at hSw); (first | (go_simp; done) | (go_simp; with_reducible rfl)))); simp only [Act.put, List.setIfInBounds_toArray, List.set_cons_zero, List.set_cons_succ]
    refine WH.take 9 _ _ rfl (by kernel_rfl) (fun _ _ _ h => h) rfl (by assumption) (fun w' hSw => exec_load_blk _ _ rfl _ rfl _ _ (HY9.out.ext hSw) _ (Try.underlying27) rfl (Try.blockFits HM.out)) ?_; simp only [Act.put, List.setIfInBounds_toArray, List.set_cons_zero, List.set_cons_succ]
    refine WH.take 10 _ _ rfl (by kernel_rfl) (fun _ _ _ h => h) rfl (by assumption) (fun w' hSw => exec_load_blk _ _ rfl _ rfl _ _ (HB9.out.ext hSw) _ (Try.underlying25) rfl (Try.rpatchSize)) ?_; simp only [Act.put, List.setIfInBounds_toArray, List.set_cons_zero, List.set_cons_succ]
    refine WH.take 13 _ _ rfl (by kernel_rfl) (fun _ _ _ h => h) rfl (by assumption) (fun w' hSw => exec_load_blk _ _ rfl _ rfl _ _ (HY9.out.ext hSw) _ (Try.underlying27) rfl (Try.blockFits HM.out)) ?_; simp only [Act.put, List.setIfInBounds_toArray, List.set_cons_zero, List.set_cons_succ]
    refine WH.only 11 _ rfl (by kernel_rfl) rfl (fun K hK => ?_); go_simp; refine (to_any p A n c _ (HP9.out.below hSn) (by omega)).mono ?_; rintro e wd ⟨gd, nd, cd, rfl, hpd, hbd, -⟩; go_simp
    have hSn := bt hSn hbd; refine hK _ _ hSn ?_; clear hK; clear K; simp only [List.set_cons_zero, List.set_cons_succ]
    refine WH.only 12 _ rfl (by kernel_rfl) rfl (fun K hK => ?_); go_simp; refine (play_any M HM.out p (some ⟨gd, 0, none⟩) nd cd _ hpd).mono ?_; rintro e we ⟨rfl, hbe⟩; go_simp
    have hSn := bt hSn hbe; refine hK _ _ hSn ?_; clear hK; clear K; simp only [List.set_cons_zero, List.set_cons_succ]
    refine WH.take 14 _ _ rfl (by kernel_rfl) (fun _ _ _ h => h) rfl (by assumption) (fun w' hSw => exec_eql_arr _ _ _ _ rfl Try.blockGuard _ _ Try.underlying27 Try.underlying5 Try.byteSize (layP M p) (M) rfl rfl HM3.out HM.out true (HE2.out)) ?_; simp only [Act.put, List.setIfInBounds_toArray, List.set_cons_zero, List.set_cons_succ]
    refine WH.take 15 _ ?_ rfl (by kernel_rfl) (fun _ _ _ h => h) rfl (by assumption) ?_ ?_; rotate_left; (focus (intro w hSw; (try dsimp only at hSw); (first | (go_simp; done) | (go_simp; with_reducible rfl)))); simp only [Act.put, List.setIfInBounds_toArray, List.set_cons_zero, List.set_cons_succ]
    refine WH.take 16 _ ?_ rfl (by kernel_rfl) (fun _ _ _ h => h) rfl (by assumption) ?_ ?_; rotate_left; (focus (intro w hSw; (try dsimp only at hSw); (first | (go_simp; done) | (go_simp; with_reducible rfl)))); simp only [Act.put, List.setIfInBounds_toArray, List.set_cons_zero, List.set_cons_succ]
    refine WH.only 17 _ rfl (by kernel_rfl) rfl (fun K hK => ?_); go_simp; refine (works07_any _).mono ?_; rintro e wf ⟨rfl, hbf⟩; go_simp
    have hSn := bt hSn hbf; refine hK _ _ hSn ?_; clear hK; clear K; simp only [List.set_cons_zero, List.set_cons_succ]
    refine WH.take 18 _ ?_ rfl (by kernel_rfl) (fun _ _ _ h => h) rfl (by assumption) ?_ ?_; rotate_left; (focus (intro w hSw; (try dsimp only at hSw); (first | (go_simp; done) | (go_simp; with_reducible rfl)))); simp only [Act.put, List.setIfInBounds_toArray, List.set_cons_zero, List.set_cons_succ]
    refine WH.take 19 _ ?_ rfl (by kernel_rfl) (fun _ _ _ h => h) rfl (by assumption) ?_ ?_; rotate_left; (focus (intro w hSw; (try dsimp only at hSw); (first | (go_simp; done) | (go_simp; with_reducible rfl)))); simp only [Act.put, List.setIfInBounds_toArray, List.set_cons_zero, List.set_cons_succ]
    refine WH.done (by kernel_rfl) ?_
    have Hfin := Lib.hid (bt Hw9.out hSn)
    clear hSn
    go_wp2_with fail
    go_ret
    exact ⟨rfl, Hfin.out⟩)
  rotate_left
  focus (
  have d1 : decide ((600 : Int) < n) = true := by simp; omega
  go_wp2_with fail
  refine (works07_any _).mono ?_; rintro e w9 ⟨rfl, hb9⟩
  go_wp2_with fail
  go_ret
  exact ⟨rfl, bt Hw0.out hb9⟩)

end Go.Proofs.Ytnlcpkffaiegaaa
