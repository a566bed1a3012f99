/-
  Walks of the laws of stage 4: works, ChartMakes, ChartBits.
-/
import Derived.Test.YtcoefbgidfgblaaChart3
import Derived.Test.YtcoefbgidfgblaaRef04l
import Derived.Test.YtcoefbgidfgblaaSame
namespace Go.Proofs.Ytcoefbgidfgblaa
open Go.RowKit

theorem works04_b0 : (blockL 256 (makeF [0, 9]))[0]? = some 1 := by
  unfold blockL
  rw [List.getElem?_map, List.getElem?_range (by omega)]
  decide
theorem works04_b1 : (blockL 256 (makeF [0, 9]))[1]? = some 2 := by
  unfold blockL
  rw [List.getElem?_map, List.getElem?_range (by omega)]
  decide
theorem works04_first : firstO (bitAt (blockL 256 (makeF [0, 1]))) 0 (topN 3) = some 2 := by
  refine firstO_some _ _ _ 2 (by decide) (by decide) ?_ ?_
  · rw [bitAt_blockL _ _ _ (by omega)]
    decide
  · intro j _ hj
    rw [bitAt_blockL _ _ _ (by omega)]
    match j, hj with
    | 0, _ => decide
    | 1, _ => decide
set_option maxHeartbeats 800000 in
theorem works04_any (w : World) : Calls Try.prog 14 #[] w fun e w' => e = .returned (.bool true) ∧ Below w.heap.size w w' := by
  have HF := Lib.hid works04_first
  have HL := Lib.hid (blockL_len 256 (makeF [0, 9]))
  have HB0 := Lib.hid works04_b0
  have HB1 := Lib.hid works04_b1
  have HL1 := Lib.hid (blockL_len 256 (makeF [0, 1]))
  go_enter Try.func14, Try.ntmps14
  have Ha1 := Lib.hid (Grew.alloc w (.cells #[.int .i64 0, .int .i64 9] 3)).1
  have HR1 := Lib.hid (RC.of_blk (Blk.new w 3 #[.int .i64 0, .int .i64 9]) (ivals [0, 9]) rfl)
  go_wp2_with fail
  refine (make_any _ 2 2 [0, 9] rfl (by decide) _ HR1.out).mono ?_; rintro e w1 ⟨rfl, hb1⟩
  have Hw1 := Lib.hid (bt Ha1.out hb1)
  clear hb1 HR1 Ha1
  go_wp2_with (refine wpList_alloc_row rfl _ rfl _ Try.blockZero ?_)
  apply Stop.go; intro w2 Hg2 Hx2
  go_wp2_with (refine wpList_store_arr rfl _ _ _ rfl _ _ rfl rfl _ _ Hx2.out (Try.blockFits HL.out) (by rw [bcells_size, bcells_size, HL.out, zeros_len]) (oneCell_bcells _) ?_)
  apply Stop.go; intro w3 Ho3 Hx3
  have Hw3 := Lib.hid (bonly (bt Hw1.out Hg2.out.1) Ho3.out Hw1.out.size)
  have Ha4 := Lib.hid (Grew.alloc w3 (.cells #[.int .i64 0, .int .i64 1] 3)).1
  have HR4 := Lib.hid (RC.of_blk (Blk.new w3 3 #[.int .i64 0, .int .i64 1]) (ivals [0, 1]) rfl)
  go_wp2_with fail
  refine (make_any _ 2 2 [0, 1] rfl (by decide) _ HR4.out).mono ?_; rintro e w4 ⟨rfl, hb4⟩
  have Hb4 := Lib.hid (bt Ha4.out hb4)
  clear hb4 HR4 Ha4
  go_wp2_with fail
  refine (first_any _ HL1.out 0 3 (by decide) _).mono ?_; rintro e w5 ⟨rfl, hb5⟩
  rw [HF.out]
  have Hb5 := Lib.hid (bt Hb4.out hb5)
  have Hx5 := Lib.hid (Hx3.out.ext Hb5.out)
  clear hb5
  have c0 : w5.cell? ⟨w1.heap.size, 0, none⟩ = some (.int .u8 1) := by rw [Hx5.out.cell, bcells_get, HB0.out]; rfl
  have c1 : w5.cell? ⟨w1.heap.size, 1, none⟩ = some (.int .u8 2) := by rw [Hx5.out.cell, bcells_get, HB1.out]; rfl
  have Hfin := Lib.hid (bt Hw3.out Hb5.out)
  go_wp2_with fail
  go_ret
  exact ⟨rfl, Hfin.out⟩

set_option maxHeartbeats 1600000 in
theorem chartMakes_any (A : Option Addr) (n cap : Nat) (l : List Int) (hn : l.length = n) (hm : n ≤ maxLen) (w : World) (hr : RC w A (ivals l)) :
    Calls Try.prog 5 #[.slice A n cap] w fun e w' => e = .returned (.bool true) ∧ Below w.heap.size w w' := by
  have Hn := Lib.hid hn
  have Hr := Lib.hid hr
  clear hn hr
  by_cases h1 : n ≤ 60
  · have d1 : decide ((60 : Int) < n) = false := by simp; omega
    have HL := Lib.hid (blockL_len 256 (makeF l))
    have sl : ∀ (g : Nat) (w' : World), (Instr.sliceAt 23 (.pointer (some ⟨g, 0, none⟩)) none none none).run Try.prog w' = .ok (.slice (some ⟨g, 0, none⟩) 256 256) w' := fun g w' => (run_slice_arr Try.prog w' 23 256 5 Try.underlying23 Try.byteSize g 0 256 (by omega) (by omega) (by omega) .i64 .i64).2.2.2 rfl rfl
    go_enter Try.func5, Try.ntmps5
    go_wp2_with fail
    refine (make_any A n cap l Hn.out hm _ Hr.out).mono ?_; rintro e w1 ⟨rfl, hb1⟩
    have Hw1 := Lib.hid hb1
    clear hb1
    go_wp2_with (refine wpList_alloc_row rfl _ rfl _ Try.blockZero ?_)
    apply Stop.go; intro w2 Hg2 Hx2
    go_wp2_with (refine wpList_store_arr rfl _ _ _ rfl _ _ rfl rfl _ _ Hx2.out (Try.blockFits HL.out) (by rw [bcells_size, bcells_size, HL.out, zeros_len]) (oneCell_bcells _) ?_)
    apply Stop.go; intro w3 Ho3 Hx3
    have Hw3 := Lib.hid (bonly (bt Hw1.out Hg2.out.1) Ho3.out Hw1.out.size)
    have Hr3 := Lib.hid (Hr.out.below Hw3.out)
    go_wp2_with fail
    refine WH.start (S := fun w' : World => Below w3.heap.size w3 w') [false, false, false, false, false, false, false, false] 8 rfl rfl (by kernel_rfl) (bdrew w3 1) (fun hSn => ?_)
    refine WH.take 0 _ ?_ rfl (by kernel_rfl) (fun _ _ _ h => h) rfl (by assumption) ?_ ?_; rotate_left; (focus (intro w hSw; (try dsimp only at hSw); (first | (go_simp; done) | (go_simp; with_reducible rfl)))); simp only [Act.put, List.setIfInBounds_toArray, List.set_cons_zero, List.set_cons_succ]
    refine WH.take 1 _ ?_ rfl (by kernel_rfl) (fun _ _ _ h => h) rfl (by assumption) ?_ ?_; rotate_left; (focus (intro w hSw; (try dsimp only at hSw); (first | (go_simp; done) | (go_simp; with_reducible rfl)))); simp only [Act.put, List.setIfInBounds_toArray, List.set_cons_zero, List.set_cons_succ]
    refine WH.only 2 _ rfl (by kernel_rfl) rfl (fun K hK => ?_); go_simp; refine (rmake_any A n cap l Hn.out hm _ (Hr3.out.below hSn)).mono ?_; rintro e wa ⟨ga, rfl, hba, hwa⟩; go_simp
    have hSn := bt hSn hwa; refine hK _ _ hSn ?_; clear hK; clear K; simp only [List.set_cons_zero, List.set_cons_succ]
    refine WH.only 3 _ rfl (by kernel_rfl) rfl (fun K hK => ?_); go_simp; refine (same_any _ _ _ (blockL 256 (makeF l)) HL.out _ _ _ (blockL 256 (makeF l)) HL.out (by decide) (by decide) _ (RB.of_blk0 (Hx3.out.ext hSn)) (RB.of_blk0 hba)).mono ?_; rintro e wb ⟨rfl, kq, rfl⟩; go_simp
    have hSn := bt hSn (bdrew _ kq); refine hK _ _ hSn ?_; clear hK; clear K; simp only [List.set_cons_zero, List.set_cons_succ]
    refine WH.take 4 _ ?_ rfl (by kernel_rfl) (fun _ _ _ h => h) rfl (by assumption) ?_ ?_; rotate_left; (focus (intro w hSw; (try dsimp only at hSw); (first | (go_simp; done) | (go_simp; with_reducible rfl)))); simp only [Act.put, List.setIfInBounds_toArray, List.set_cons_zero, List.set_cons_succ]
    refine WH.only 5 _ rfl (by kernel_rfl) rfl (fun K hK => ?_); go_simp; refine (works04_any _).mono ?_; rintro e wc ⟨rfl, hwc⟩; go_simp
    have hSn := bt hSn hwc; refine hK _ _ hSn ?_; clear hK; clear K; simp only [List.set_cons_zero, List.set_cons_succ]
    refine WH.take 6 _ ?_ rfl (by kernel_rfl) (fun _ _ _ h => h) rfl (by assumption) ?_ ?_; rotate_left; (focus (intro w hSw; (try dsimp only at hSw); (first | (go_simp; done) | (go_simp; with_reducible rfl)))); simp only [Act.put, List.setIfInBounds_toArray, List.set_cons_zero, List.set_cons_succ]
    refine WH.take 7 _ ?_ rfl (by kernel_rfl) (fun _ _ _ h => h) rfl (by assumption) ?_ ?_; rotate_left; (focus (intro w hSw; (try dsimp only at hSw); (first | (go_simp; done) | (go_simp; with_reducible rfl)))); simp only [Act.put, List.setIfInBounds_toArray, List.set_cons_zero, List.set_cons_succ]
    refine WH.done (by kernel_rfl) ?_
    have Hfin := Lib.hid (bt Hw3.out hSn)
    clear hSn
    go_wp2_with fail
    go_ret
    exact ⟨rfl, Hfin.out⟩
  · have d1 : decide ((60 : Int) < n) = true := by simp; omega
    go_enter Try.func5, Try.ntmps5
    go_wp2_with fail
    refine (works04_any _).mono ?_; rintro e w3 ⟨rfl, hb3⟩
    go_wp2_with fail
    go_ret
    exact ⟨rfl, hb3⟩

theorem Try.arr256Size : (Try.prog.info? 22).map (·.size) = some 256 := by kernel_rfl
theorem Try.arr256Fits {l : List UInt8} (h : l.length = 256) : (Try.prog.info? 22).map (·.size) = some (bcells l).size := by rw [bcells_size, h]; exact Try.arr256Size
theorem Try.patchZero : (Try.prog.info? 28).map (·.zero) = some (some (.agg #[.int .i64 0, .slice none 0 0])) := by kernel_rfl
theorem hasB_rhas {L : List UInt8} (hL : L.length = 256) (i : Int) : rhasB L i = hasB L i := by
  unfold rhasB hasB isBitB
  rw [hL]
  rfl
set_option maxHeartbeats 4000000 in
theorem chartBits_any (L : List UInt8) (hL : L.length = 256) (i : Int) (hi : i < 9223372036854775808) (on : Bool) (w : World) :
    Calls Try.prog 3 #[.agg (bcells L), .int .i64 i, .bool on] w fun e w' => e = .returned (.bool true) ∧ Below w.heap.size w w' := by
  have HL := Lib.hid hL
  have HW := Lib.hid (show (withL L i on).length = 256 by rw [withL_len, hL])
  have HR := Lib.hid (hasB_rhas hL i)
  have Hi := Lib.hid hi
  clear hL hi
  go_enter Try.func3, Try.ntmps3
  go_wp2_with (refine wpList_box_row rfl _ _ rfl _ rfl ?_)
  apply Stop.go; intro w1 Hg1 Hb1
  go_wp2_with (first | refine wpList_load_arr rfl _ _ rfl _ rfl _ _ Hb1.out _ _ Try.underlying22 (Try.arr256Fits HL.out) ?_ | refine wpList_alloc_row rfl _ rfl _ Try.blockZero ?_)
  apply Stop.go; intro w2 Hg2 Hx2
  go_wp2_with (refine wpList_store_arr rfl _ _ _ rfl _ _ rfl rfl _ _ Hx2.out (Try.blockFits HL.out) (by rw [bcells_size, bcells_size, HL.out, zeros_len]) (oneCell_bcells _) ?_)
  apply Stop.go; intro w3 Ho3 Hx3
  have Hw3 := Lib.hid (bonly (bt Hg1.out.1 Hg2.out.1) Ho3.out Hg1.out.1.size)
  have Hb3 := Lib.hid ((Hb1.out.ext Hg2.out.1).only Ho3.out (Nat.ne_of_lt Hb1.out.lt))
  go_wp2_with (refine wpList_load_arr rfl _ _ rfl _ rfl _ _ Hx3.out _ _ Try.underlying23 (Try.blockFits HL.out) ?_)
  refine (cwith_any L HL.out i on _).mono ?_; rintro e w4 ⟨rfl, hb4⟩
  have Hb4 := Lib.hid hb4
  clear hb4
  go_wp2_with (refine wpList_alloc_row rfl _ rfl _ Try.blockZero ?_)
  apply Stop.go; intro w5 Hg5 Hy5
  go_wp2_with (refine wpList_store_arr rfl _ _ _ rfl _ _ rfl rfl _ _ Hy5.out (Try.blockFits HW.out) (by rw [bcells_size, bcells_size, HW.out, zeros_len]) (oneCell_bcells _) ?_)
  apply Stop.go; intro w6 Ho6 Hy6
  have D6 := Lib.hid (bonly (bt Hb4.out Hg5.out.1) Ho6.out Hb4.out.size)
  go_wp2_with (refine wpList_slice_arr_all rfl _ _ rfl _ _ Try.underlying22 Try.byteSize _ rfl (by omega) ?_)
  refine (rwith_any _ 256 256 L HL.out (by omega) i on _ (RB.of_blk0 (Hb3.out.ext D6.out))).mono ?_; rintro e w7 ⟨gw, rfl, hz7, hb7⟩
  have Hz7 := Lib.hid hz7
  have Hb7 := Lib.hid (bt D6.out hb7)
  have Hy7 := Lib.hid (Hy6.out.ext hb7)
  clear hz7 hb7
  go_wp2_with (refine wpList_load_arr rfl _ _ rfl _ rfl _ _ (Hx3.out.ext Hb7.out) _ _ Try.underlying23 (Try.blockFits HL.out) ?_)
  refine (patch_any L HL.out i on _).mono ?_; rintro e w8 ⟨Ap, cp, rfl, hr8, hb8⟩
  have Hr8 := Lib.hid hr8
  have Hb8 := Lib.hid (bt Hb7.out hb8)
  have Hy8 := Lib.hid (Hy7.out.ext hb8)
  have Hz8 := Lib.hid (Hz7.out.ext hb8)
  clear hr8 hb8
  go_wp2_with (refine wpList_alloc_row rfl _ rfl _ Try.patchZero ?_)
  apply Stop.go; intro w9 Hg9 Hp9
  go_wp2_with (refine wpList_store_arr rfl _ _ _ rfl _ #[.int .i64 (patchAt i), .slice Ap (patchL L i on).length cp] rfl rfl _ _ Hp9.out Try.patchSize rfl (by simp [Value.oneCell']) ?_)
  apply Stop.go; intro w10 Ho10 Hp10
  have D10 := Lib.hid (bonly Hg9.out.1 Ho10.out (Nat.le_refl _))
  have Hb10 := Lib.hid (bt Hb8.out D10.out)
  have Hy10 := Lib.hid (Hy8.out.ext D10.out)
  have Hz10 := Lib.hid (Hz8.out.ext D10.out)
  have Hr10 := Lib.hid (Hr8.out.below D10.out)
  have Hx10 := Lib.hid (Hx3.out.ext Hb10.out)
  have Hq10 := Lib.hid (Hb3.out.ext Hb10.out)
  have Hw10 := Lib.hid (bt Hw3.out Hb10.out)
  have c0 : w10.cell? ⟨w8.heap.size, 0, none⟩ = some (.int .i64 (patchAt i)) := Hp10.out.cell 0
  have c1 : w10.cell? ⟨w8.heap.size, 1, none⟩ = some (.slice Ap (patchL L i on).length cp) := Hp10.out.cell 1
  have sl1 : ∀ (g : Nat) (w' : World), (Instr.sliceAt 23 (.pointer (some ⟨g, 0, none⟩)) none none none).run Try.prog w' = .ok (.slice (some ⟨g, 0, none⟩) 256 256) w' := fun g w' => (run_slice_arr Try.prog w' 23 256 5 Try.underlying23 Try.byteSize g 0 256 (by omega) (by omega) (by omega) .i64 .i64).2.2.2 rfl rfl
  have sl2 : ∀ (g : Nat) (w' : World), (Instr.sliceAt 22 (.pointer (some ⟨g, 0, none⟩)) none none none).run Try.prog w' = .ok (.slice (some ⟨g, 0, none⟩) 256 256) w' := fun g w' => (run_slice_arr Try.prog w' 22 256 5 Try.underlying22 Try.byteSize g 0 256 (by omega) (by omega) (by omega) .i64 .i64).2.2.2 rfl rfl
  have hcases : (i < 0 ∨ 2048 ≤ i) ∨ isBitB i = true := by
    unfold isBitB
    simp only [decide_eq_true_eq]
    omega
  rcases hcases with (h | h) | h
  focus (
    have hf : isBitB i = false := by unfold isBitB; simp; omega
    rw [show patchAt i = 0 by unfold patchAt; rw [hf]; rfl] at c0
    rw [show (patchL L i on).length = 0 by unfold patchL; rw [hf]; rfl] at c1
    have d0 : decide (i < 0) = true := by simpa using h
    clear hf h
    go_wp2_with fail
    clear c0 c1
    generalize w10 = wT at *)
  rotate_left
  focus (
    have hf : isBitB i = false := by unfold isBitB; simp; omega
    rw [show patchAt i = 0 by unfold patchAt; rw [hf]; rfl] at c0
    rw [show (patchL L i on).length = 0 by unfold patchL; rw [hf]; rfl] at c1
    have d0 : decide (i < 0) = false := by simp; omega
    have d1 : decide (2048 ≤ i) = true := by simpa using h
    clear hf h
    go_wp2_with fail
    clear c0 c1
    generalize w10 = wT at *)
  rotate_left
  focus (
    have h2 := h
    simp only [isBitB, decide_eq_true_eq] at h2
    obtain ⟨p, rfl⟩ := Int.eq_ofNat_of_zero_le h2.1
    have hp : p < 2048 := by omega
    have d0 : decide ((p : Int) < 0) = false := by simp
    have d1 : decide (2048 ≤ (p : Int)) = false := by simp; omega
    obtain ⟨x, hx, -, hxd⟩ := byte_of_bit HW.out hp
    obtain ⟨q, hq⟩ : ∃ q, p / 8 = q := ⟨_, rfl⟩
    have hqq : (p : Int) / 8 = q := by omega
    have hqw : IntKind.i64.wrap (q : Int) = q := IntWalk.i64_in _ (by omega)
    have hqn : q < 256 := by omega
    have hql : (q : Int) < 256 := by omega
    have hpl : patchL L p on = [x] := by unfold patchL; rw [h, ← hxd]; rfl
    rw [show patchAt p = q by unfold patchAt; rw [h, ← hq]; rfl] at c0
    rw [hpl] at c1 Hr10
    rw [hq] at hx
    obtain ⟨ad, rfl, c2⟩ := Hr10.out 0 (by simp)
    have c2 : w10.cell? ad = some (.int .u8 (x.toNat : Int)) := c2
    have c3 : w10.cell? ⟨gw, q, none⟩ = some (.int .u8 (x.toNat : Int)) := by rw [Hz10.out.cell, bcells_get, hx]; rfl
    have t1 : ((q : Int) != q) = false := by simp
    have t2 : ((x.toNat : Int) != x.toNat) = false := by simp
    clear h h2 hq hx hxd hpl Hr8
    go_wp2_with fail
    go_quiet (fail)
    go_wp2_with fail
    have D := Lib.hid (bdrew w10 nq)
    have Hb10 := Lib.hid (bt Hb10.out D.out)
    have Hy10 := Lib.hid (Hy10.out.ext D.out)
    have Hz10 := Lib.hid (Hz10.out.ext D.out)
    have Hx10 := Lib.hid (Hx10.out.ext D.out)
    have Hq10 := Lib.hid (Hq10.out.ext D.out)
    have Hw10 := Lib.hid (bt Hw10.out D.out)
    clear D c0 c1 c2 c3
    generalize w10.drewN nq = wT at *)
  rotate_left
  all_goals
    refine WH.start (S := fun w' : World => Below wT.heap.size wT w') [false, false, false, false, false, false, false, false, false, false, false, false, false, false, false, false] 16 rfl rfl (by kernel_rfl) (bdrew wT 1) (fun hSn => ?_)
    refine WH.take 0 _ _ rfl (by kernel_rfl) (fun _ _ _ h => h) rfl (by assumption) (fun w' hSw => run_load_arr _ _ rfl _ rfl _ _ (Hx10.out.ext hSw) _ _ (Try.underlying23) (Try.blockFits HL.out)) ?_; simp only [Act.put, List.setIfInBounds_toArray, List.set_cons_zero, List.set_cons_succ]
    refine WH.take 1 _ ?_ rfl (by kernel_rfl) (fun _ _ _ h => h) rfl (by assumption) ?_ ?_; rotate_left; (focus (intro w hSw; (try dsimp only at hSw); (first | (go_simp; done) | (go_simp; with_reducible rfl)))); simp only [Act.put, List.setIfInBounds_toArray, List.set_cons_zero, List.set_cons_succ]
    refine WH.take 3 _ ?_ rfl (by kernel_rfl) (fun _ _ _ h => h) rfl (by assumption) ?_ ?_; rotate_left; (focus (intro w hSw; (try dsimp only at hSw); (first | (go_simp; done) | (go_simp; with_reducible rfl)))); simp only [Act.put, List.setIfInBounds_toArray, List.set_cons_zero, List.set_cons_succ]
    refine WH.take 4 _ ?_ rfl (by kernel_rfl) (fun _ _ _ h => h) rfl (by assumption) ?_ ?_; rotate_left; (focus (intro w hSw; (try dsimp only at hSw); (first | (go_simp; done) | (go_simp; with_reducible rfl)))); simp only [Act.put, List.setIfInBounds_toArray, List.set_cons_zero, List.set_cons_succ]
    refine WH.only 2 _ rfl (by kernel_rfl) rfl (fun K hK => ?_); go_simp; refine (has_any L HL.out _ _).mono ?_; rintro e wa ⟨rfl, hba⟩; go_simp
    have hSn := bt hSn hba; refine hK _ _ hSn ?_; clear hK; clear K; simp only [List.set_cons_zero, List.set_cons_succ]
    refine WH.only 5 _ rfl (by kernel_rfl) rfl (fun K hK => ?_); go_simp; refine (rhas_any _ 256 256 L HL.out (by omega) _ Hi.out _ (RB.of_blk0 (Hq10.out.ext hSn))).mono ?_; rintro e wb ⟨rfl, rfl⟩; go_simp
    rw [HR.out]
    have hSn := hSn; refine hK _ _ hSn ?_; clear hK; clear K; simp only [List.set_cons_zero, List.set_cons_succ]
    refine WH.take 6 _ ?_ rfl (by kernel_rfl) (fun _ _ _ h => h) rfl (by assumption) ?_ ?_; rotate_left; (focus (intro w hSw; (try dsimp only at hSw); (first | (go_simp; done) | (go_simp; with_reducible rfl)))); simp only [Act.put, List.setIfInBounds_toArray, List.set_cons_zero, List.set_cons_succ]
    refine WH.take 7 _ ?_ rfl (by kernel_rfl) (fun _ _ _ h => h) rfl (by assumption) ?_ ?_; rotate_left; (focus (intro w hSw; (try dsimp only at hSw); (first | (go_simp; done) | (go_simp; with_reducible rfl)))); simp only [Act.put, List.setIfInBounds_toArray, List.set_cons_zero, List.set_cons_succ]
    refine WH.take 8 _ ?_ rfl (by kernel_rfl) (fun _ _ _ h => h) rfl (by assumption) ?_ ?_; rotate_left; (focus (intro w hSw; (try dsimp only at hSw); (first | (go_simp; done) | (go_simp; with_reducible rfl)))); simp only [Act.put, List.setIfInBounds_toArray, List.set_cons_zero, List.set_cons_succ]
    refine WH.take 9 _ ?_ rfl (by kernel_rfl) (fun _ _ _ h => h) rfl (by assumption) ?_ ?_; rotate_left; (focus (intro w hSw; (try dsimp only at hSw); (first | (go_simp; done) | (go_simp; with_reducible rfl)))); simp only [Act.put, List.setIfInBounds_toArray, List.set_cons_zero, List.set_cons_succ]
    refine WH.only 10 _ rfl (by kernel_rfl) rfl (fun K hK => ?_); go_simp; refine (same_any _ _ _ _ HW.out _ _ _ _ HW.out (by decide) (by decide) _ (RB.of_blk0 (Hy10.out.ext hSn)) (RB.of_blk0 (Hz10.out.ext hSn))).mono ?_; rintro e wc ⟨rfl, kq, rfl⟩; go_simp
    have hSn := bt hSn (bdrew _ kq); refine hK _ _ hSn ?_; clear hK; clear K; simp only [List.set_cons_zero, List.set_cons_succ]
    refine WH.take 11 _ ?_ rfl (by kernel_rfl) (fun _ _ _ h => h) rfl (by assumption) ?_ ?_; rotate_left; (focus (intro w hSw; (try dsimp only at hSw); (first | (go_simp; done) | (go_simp; with_reducible rfl)))); simp only [Act.put, List.setIfInBounds_toArray, List.set_cons_zero, List.set_cons_succ]
    refine WH.take 12 _ ?_ rfl (by kernel_rfl) (fun _ _ _ h => h) rfl (by assumption) ?_ ?_; rotate_left; (focus (intro w hSw; (try dsimp only at hSw); (first | (go_simp; done) | (go_simp; with_reducible rfl)))); simp only [Act.put, List.setIfInBounds_toArray, List.set_cons_zero, List.set_cons_succ]
    refine WH.only 13 _ rfl (by kernel_rfl) rfl (fun K hK => ?_); go_simp; refine (works04_any _).mono ?_; rintro e wd ⟨rfl, hwd⟩; go_simp
    have hSn := bt hSn hwd; refine hK _ _ hSn ?_; clear hK; clear K; simp only [List.set_cons_zero, List.set_cons_succ]
    refine WH.take 14 _ ?_ rfl (by kernel_rfl) (fun _ _ _ h => h) rfl (by assumption) ?_ ?_; rotate_left; (focus (intro w hSw; (try dsimp only at hSw); (first | (go_simp; done) | (go_simp; with_reducible rfl)))); simp only [Act.put, List.setIfInBounds_toArray, List.set_cons_zero, List.set_cons_succ]
    refine WH.take 15 _ ?_ rfl (by kernel_rfl) (fun _ _ _ h => h) rfl (by assumption) ?_ ?_; rotate_left; (focus (intro w hSw; (try dsimp only at hSw); (first | (go_simp; done) | (go_simp; with_reducible rfl)))); simp only [Act.put, List.setIfInBounds_toArray, List.set_cons_zero, List.set_cons_succ]
    refine WH.done (by kernel_rfl) ?_
    have Hfin := Lib.hid (bt Hw10.out hSn)
    clear hSn
    go_wp2_with fail
    go_ret
    exact ⟨rfl, Hfin.out⟩

end Go.Proofs.Ytcoefbgidfgblaa
