/-
  Walks of the laws of stage 4: ChartLooks, ChartFull.
-/
import Derived.Test.YtcoefbgidfgblaaLaw04
import Derived.Test.YtcoefbgidfgblaaRef04m
namespace Go.Proofs.Ytcoefbgidfgblaa
open Go.RowKit

set_option maxHeartbeats 4000000 in
theorem chartLooks_any (L : List UInt8) (hL : L.length = 256) (fr n : Int) (hfr : fr < 9223372036854775808) (w : World) :
    Calls Try.prog 4 #[.agg (bcells L), .int .i64 fr, .int .i64 n] w fun e w' => e = .returned (.bool true) ∧ Below w.heap.size w w' := by
  have HL := Lib.hid hL
  have Hfr := Lib.hid hfr
  have sl2 : ∀ (g : Nat) (w' : World), (Instr.sliceAt 22 (.pointer (some ⟨g, 0, none⟩)) none none none).run Try.prog w' = .ok (.slice (some ⟨g, 0, none⟩) 256 256) w' := fun g w' => (run_slice_arr Try.prog w' 22 256 5 Try.underlying22 Try.byteSize g 0 256 (by omega) (by omega) (by omega) .i64 .i64).2.2.2 rfl rfl
  obtain ⟨K, hK⟩ : ∃ K : Nat, (firstO (bitAt L) fr (topN n)).getD 0 = K := ⟨_, rfl⟩
  obtain ⟨O, hO⟩ : ∃ O : Bool, (firstO (bitAt L) fr (topN n)).isSome = O := ⟨_, rfl⟩
  obtain ⟨C, hC⟩ : ∃ C : Nat, (setN (bitAt L) (topN n)).length = C := ⟨_, rfl⟩
  have hCl : C ≤ 2048 := by
    have h1 := setN_len (bitAt L) (topN n)
    have h2 := topN_le n
    omega
  have HCI := Lib.hid (show (setI (bitAt L) (topN n)).length = C by rw [setI_len, hC])
  have HK := Lib.hid hK
  have HO := Lib.hid hO
  have HC := Lib.hid hC
  clear hL hfr hK hO hC
  go_enter Try.func4, Try.ntmps4
  go_wp2_with (refine wpList_box_row rfl _ _ rfl _ rfl ?_)
  apply Stop.go; intro w1 Hg1 Hb1
  go_wp2_with (first | refine wpList_load_arr rfl _ _ rfl _ rfl _ _ Hb1.out _ _ Try.underlying22 (Try.arr256Fits HL.out) ?_ | refine wpList_alloc_row rfl _ rfl _ Try.blockZero ?_)
  apply Stop.go; intro w2 Hg2 Hx2
  go_wp2_with (refine wpList_store_arr rfl _ _ _ rfl _ _ rfl rfl _ _ Hx2.out (Try.blockFits HL.out) (by rw [bcells_size, bcells_size, HL.out, zeros_len]) (oneCell_bcells _) ?_)
  apply Stop.go; intro w3 Ho3 Hx3
  have Hw3 := Lib.hid (bonly (bt Hg1.out.1 Hg2.out.1) Ho3.out Hg1.out.1.size)
  have Hb3 := Lib.hid ((Hb1.out.ext Hg2.out.1).only Ho3.out (Nat.ne_of_lt Hb1.out.lt))
  go_wp2_with (refine wpList_load_arr rfl _ _ rfl _ rfl _ _ Hx3.out _ _ Try.underlying23 (Try.blockFits HL.out) ?_)
  refine (first_any L HL.out fr n Hfr.out _).mono ?_; rintro e w4 ⟨rfl, hb4⟩
  rw [HK.out, HO.out]
  have Hb4 := Lib.hid hb4
  clear hb4
  go_wp2_with (refine wpList_slice_arr_all rfl _ _ rfl _ _ Try.underlying22 Try.byteSize _ rfl (by omega) ?_)
  refine (rfirst_any _ 256 L HL.out fr n _ (RB.of_blk0 (Hb3.out.ext Hb4.out))).mono ?_; rintro e w5 ⟨rfl, hb5⟩
  rw [HK.out, HO.out]
  have Hb5 := Lib.hid (bt Hb4.out hb5)
  clear hb5
  go_wp2_with fail
  have Hx5 := Lib.hid (Hx3.out.ext Hb5.out)
  have Hq5 := Lib.hid (Hb3.out.ext Hb5.out)
  have Hw5 := Lib.hid (bt Hw3.out Hb5.out)
  refine WH.start (S := fun w' : World => Below w5.heap.size w5 w') [false, false, false, false, false, false, false, false, false, false, false, false, false, false, false, false, false, false, false, false, false, false, false, false, false, false, false, false, false, false, false] 31 rfl rfl (by kernel_rfl) (bdrew w5 1) (fun hSn => ?_)
  refine WH.take 0 _ _ rfl (by kernel_rfl) (fun _ _ _ h => h) rfl (by assumption) (fun w' hSw => run_load_arr _ _ rfl _ rfl _ _ (Hx5.out.ext hSw) _ _ (Try.underlying23) (Try.blockFits HL.out)) ?_; simp only [Act.put, List.setIfInBounds_toArray, List.set_cons_zero, List.set_cons_succ]
  refine WH.take 1 _ ?_ rfl (by kernel_rfl) (fun _ _ _ h => h) rfl (by assumption) ?_ ?_; rotate_left; (focus (intro w hSw; (try dsimp only at hSw); (first | (go_simp; done) | (go_simp; with_reducible rfl)))); simp only [Act.put, List.setIfInBounds_toArray, List.set_cons_zero, List.set_cons_succ]
  refine WH.take 3 _ ?_ rfl (by kernel_rfl) (fun _ _ _ h => h) rfl (by assumption) ?_ ?_; rotate_left; (focus (intro w hSw; (try dsimp only at hSw); (first | (go_simp; done) | (go_simp; with_reducible rfl)))); simp only [Act.put, List.setIfInBounds_toArray, List.set_cons_zero, List.set_cons_succ]
  refine WH.take 4 _ ?_ rfl (by kernel_rfl) (fun _ _ _ h => h) rfl (by assumption) ?_ ?_; rotate_left; (focus (intro w hSw; (try dsimp only at hSw); (first | (go_simp; done) | (go_simp; with_reducible rfl)))); simp only [Act.put, List.setIfInBounds_toArray, List.set_cons_zero, List.set_cons_succ]
  refine WH.only 2 _ rfl (by kernel_rfl) rfl (fun K hK => ?_); go_simp; refine (count_any L HL.out n _).mono ?_; rintro e wa ⟨rfl, hwa⟩; go_simp
  rw [HC.out]
  have hSn := bt hSn hwa; refine hK _ _ hSn ?_; clear hK; clear K; simp only [List.set_cons_zero, List.set_cons_succ]
  refine WH.only 5 _ rfl (by kernel_rfl) rfl (fun K hK => ?_); go_simp; refine (rset_any _ 256 L HL.out n _ (RB.of_blk0 (Hq5.out.ext hSn))).mono ?_; rintro e wb ⟨v5, rfl, hv5, hwb⟩; go_simp
  obtain ⟨A5, c5, rfl, -, -, h5⟩ := hv5.ints
  rw [HCI.out]
  have hSn := bt hSn hwb; refine hK _ _ hSn ?_; clear hK; clear K; simp only [List.set_cons_zero, List.set_cons_succ]
  refine WH.take 6 _ ?_ rfl (by kernel_rfl) (fun _ _ _ h => h) rfl (by assumption) ?_ ?_; rotate_left; (focus (intro w hSw; (try dsimp only at hSw); (first | (go_simp; done) | (go_simp; with_reducible rfl)))); simp only [Act.put, List.setIfInBounds_toArray, List.set_cons_zero, List.set_cons_succ]
  refine WH.take 7 _ ?_ rfl (by kernel_rfl) (fun _ _ _ h => h) rfl (by assumption) ?_ ?_; rotate_left; (focus (intro w hSw; (try dsimp only at hSw); (first | (go_simp; done) | (go_simp; with_reducible rfl)))); simp only [Act.put, List.setIfInBounds_toArray, List.set_cons_zero, List.set_cons_succ]
  refine WH.take 8 _ ?_ rfl (by kernel_rfl) (fun _ _ _ h => h) rfl (by assumption) ?_ ?_; rotate_left; (focus (intro w hSw; (try dsimp only at hSw); (first | (go_simp; done) | (go_simp; with_reducible rfl)))); simp only [Act.put, List.setIfInBounds_toArray, List.set_cons_zero, List.set_cons_succ]
  refine WH.take 9 _ _ rfl (by kernel_rfl) (fun _ _ _ h => h) rfl (by assumption) (fun w' hSw => run_load_arr _ _ rfl _ rfl _ _ (Hx5.out.ext hSw) _ _ (Try.underlying23) (Try.blockFits HL.out)) ?_; simp only [Act.put, List.setIfInBounds_toArray, List.set_cons_zero, List.set_cons_succ]
  refine WH.take 10 _ ?_ rfl (by kernel_rfl) (fun _ _ _ h => h) rfl (by assumption) ?_ ?_; rotate_left; (focus (intro w hSw; (try dsimp only at hSw); (first | (go_simp; done) | (go_simp; with_reducible rfl)))); simp only [Act.put, List.setIfInBounds_toArray, List.set_cons_zero, List.set_cons_succ]
  refine WH.take 12 _ ?_ rfl (by kernel_rfl) (fun _ _ _ h => h) rfl (by assumption) ?_ ?_; rotate_left; (focus (intro w hSw; (try dsimp only at hSw); (first | (go_simp; done) | (go_simp; with_reducible rfl)))); simp only [Act.put, List.setIfInBounds_toArray, List.set_cons_zero, List.set_cons_succ]
  refine WH.take 13 _ ?_ rfl (by kernel_rfl) (fun _ _ _ h => h) rfl (by assumption) ?_ ?_; rotate_left; (focus (intro w hSw; (try dsimp only at hSw); (first | (go_simp; done) | (go_simp; with_reducible rfl)))); simp only [Act.put, List.setIfInBounds_toArray, List.set_cons_zero, List.set_cons_succ]
  refine WH.only 11 _ rfl (by kernel_rfl) rfl (fun K hK => ?_); go_simp; refine (cset_any L HL.out n _).mono ?_; rintro e wc ⟨v11, rfl, hv11, hwc⟩; go_simp
  obtain ⟨A11, c11, rfl, -, -, h11⟩ := hv11.ints
  rw [HCI.out]
  have hSn := bt hSn hwc; refine hK _ _ hSn ?_; clear hK; clear K; simp only [List.set_cons_zero, List.set_cons_succ]
  refine WH.only 14 _ rfl (by kernel_rfl) rfl (fun K hK => ?_); go_simp; refine (rset_any _ 256 L HL.out n _ (RB.of_blk0 (Hq5.out.ext hSn))).mono ?_; rintro e wd ⟨v14, rfl, hv14, hwd⟩; go_simp
  obtain ⟨A14, c14, rfl, -, -, h14⟩ := hv14.ints
  rw [HCI.out]
  have hSn := bt hSn hwd; refine hK _ _ hSn ?_; clear hK; clear K; simp only [List.set_cons_zero, List.set_cons_succ]
  refine WH.only 15 _ rfl (by kernel_rfl) rfl (fun K hK => ?_); go_simp; refine (ints_any A11 C c11 _ HCI.out A14 C c14 _ HCI.out (by unfold maxLen; omega) (by unfold maxLen; omega) _ (h11.below hwd) h14).mono ?_; rintro e we ⟨rfl, kq, rfl⟩; go_simp
  have hSn := bt hSn (bdrew _ kq); refine hK _ _ hSn ?_; clear hK; clear K; simp only [List.set_cons_zero, List.set_cons_succ]
  refine WH.take 16 _ ?_ rfl (by kernel_rfl) (fun _ _ _ h => h) rfl (by assumption) ?_ ?_; rotate_left; (focus (intro w hSw; (try dsimp only at hSw); (first | (go_simp; done) | (go_simp; with_reducible rfl)))); simp only [Act.put, List.setIfInBounds_toArray, List.set_cons_zero, List.set_cons_succ]
  refine WH.take 17 _ ?_ rfl (by kernel_rfl) (fun _ _ _ h => h) rfl (by assumption) ?_ ?_; rotate_left; (focus (intro w hSw; (try dsimp only at hSw); (first | (go_simp; done) | (go_simp; with_reducible rfl)))); simp only [Act.put, List.setIfInBounds_toArray, List.set_cons_zero, List.set_cons_succ]
  refine WH.take 18 _ ?_ rfl (by kernel_rfl) (fun _ _ _ h => h) rfl (by assumption) ?_ ?_; rotate_left; (focus (intro w hSw; (try dsimp only at hSw); (first | (go_simp; done) | (go_simp; with_reducible rfl)))); simp only [Act.put, List.setIfInBounds_toArray, List.set_cons_zero, List.set_cons_succ]
  refine WH.take 19 _ ?_ rfl (by kernel_rfl) (fun _ _ _ h => h) rfl (by assumption) ?_ ?_; rotate_left; (focus (intro w hSw; (try dsimp only at hSw); (first | (go_simp; done) | (go_simp; with_reducible rfl)))); simp only [Act.put, List.setIfInBounds_toArray, List.set_cons_zero, List.set_cons_succ]
  refine WH.take 20 _ ?_ rfl (by kernel_rfl) (fun _ _ _ h => h) rfl (by assumption) ?_ ?_; rotate_left; (focus (intro w hSw; (try dsimp only at hSw); (first | (go_simp; done) | (go_simp; with_reducible rfl)))); simp only [Act.put, List.setIfInBounds_toArray, List.set_cons_zero, List.set_cons_succ]
  refine WH.take 21 _ ?_ rfl (by kernel_rfl) (fun _ _ _ h => h) rfl (by assumption) ?_ ?_; rotate_left; (focus (intro w hSw; (try dsimp only at hSw); (first | (go_simp; done) | (go_simp; with_reducible rfl)))); simp only [Act.put, List.setIfInBounds_toArray, List.set_cons_zero, List.set_cons_succ]
  refine WH.take 22 _ ?_ rfl (by kernel_rfl) (fun _ _ _ h => h) rfl (by assumption) ?_ ?_; rotate_left; (focus (intro w hSw; (try dsimp only at hSw); (first | (go_simp; done) | (go_simp; with_reducible rfl)))); simp only [Act.put, List.setIfInBounds_toArray, List.set_cons_zero, List.set_cons_succ]
  refine WH.take 23 _ ?_ rfl (by kernel_rfl) (fun _ _ _ h => h) rfl (by assumption) ?_ ?_; rotate_left; (focus (intro w hSw; (try dsimp only at hSw); (first | (go_simp; done) | (go_simp; with_reducible rfl)))); simp only [Act.put, List.setIfInBounds_toArray, List.set_cons_zero, List.set_cons_succ]
  refine WH.take 24 _ ?_ rfl (by kernel_rfl) (fun _ _ _ h => h) rfl (by assumption) ?_ ?_; rotate_left; (focus (intro w hSw; (try dsimp only at hSw); (first | (go_simp; done) | (go_simp; with_reducible rfl)))); simp only [Act.put, List.setIfInBounds_toArray, List.set_cons_zero, List.set_cons_succ]
  refine WH.take 25 _ ?_ rfl (by kernel_rfl) (fun _ _ _ h => h) rfl (by assumption) ?_ ?_; rotate_left; (focus (intro w hSw; (try dsimp only at hSw); (first | (go_simp; done) | (go_simp; with_reducible rfl)))); simp only [Act.put, List.setIfInBounds_toArray, List.set_cons_zero, List.set_cons_succ]
  refine WH.take 26 _ ?_ rfl (by kernel_rfl) (fun _ _ _ h => h) rfl (by assumption) ?_ ?_; rotate_left; (focus (intro w hSw; (try dsimp only at hSw); (first | (go_simp; done) | (go_simp; with_reducible rfl)))); simp only [Act.put, List.setIfInBounds_toArray, List.set_cons_zero, List.set_cons_succ]
  refine WH.take 27 _ ?_ rfl (by kernel_rfl) (fun _ _ _ h => h) rfl (by assumption) ?_ ?_; rotate_left; (focus (intro w hSw; (try dsimp only at hSw); (first | (go_simp; done) | (go_simp; with_reducible rfl)))); simp only [Act.put, List.setIfInBounds_toArray, List.set_cons_zero, List.set_cons_succ]
  refine WH.only 28 _ rfl (by kernel_rfl) rfl (fun K hK => ?_); go_simp; refine (works04_any _).mono ?_; rintro e wf ⟨rfl, hwf⟩; go_simp
  have hSn := bt hSn hwf; refine hK _ _ hSn ?_; clear hK; clear K; simp only [List.set_cons_zero, List.set_cons_succ]
  refine WH.take 29 _ ?_ rfl (by kernel_rfl) (fun _ _ _ h => h) rfl (by assumption) ?_ ?_; rotate_left; (focus (intro w hSw; (try dsimp only at hSw); (first | (go_simp; done) | (go_simp; with_reducible rfl)))); simp only [Act.put, List.setIfInBounds_toArray, List.set_cons_zero, List.set_cons_succ]
  refine WH.take 30 _ ?_ rfl (by kernel_rfl) (fun _ _ _ h => h) rfl (by assumption) ?_ ?_; rotate_left; (focus (intro w hSw; (try dsimp only at hSw); (first | (go_simp; done) | (go_simp; with_reducible rfl)))); simp only [Act.put, List.setIfInBounds_toArray, List.set_cons_zero, List.set_cons_succ]
  refine WH.done (by kernel_rfl) ?_
  have Hfin := Lib.hid (bt Hw5.out hSn)
  clear hSn
  go_wp2_with fail
  go_ret
  exact ⟨rfl, Hfin.out⟩

theorem topN_nat (M : Nat) (h : M ≤ 2048) : topN (M : Int) = M := by unfold topN; omega
set_option maxHeartbeats 4000000 in
theorem chartFull_any (L : List UInt8) (hL : L.length = 256) (fr n : Nat) (hfr : fr < 65536) (hn : n < 65536) (w : World) :
    Calls Try.prog 7 #[.agg (bcells L), .int .u16 fr, .int .u16 n] w fun e w' => e = .returned (.bool true) ∧ Below w.heap.size w w' := by
  have HL := Lib.hid hL
  obtain ⟨F, hF⟩ : ∃ F, fr % 2048 = F := ⟨_, rfl⟩
  obtain ⟨M, hM⟩ : ∃ M, n % 2049 = M := ⟨_, rfl⟩
  have hfF : (fr : Int) % 2048 = F := by omega
  have hnM : (n : Int) % 2049 = M := by omega
  have hF2 : F < 2048 := by omega
  have hM2 : M ≤ 2048 := by omega
  have hFi : (F : Int) < 2048 := by omega
  have hMi : (M : Int) ≤ 2048 := by omega
  have hT := topN_nat M hM2
  have HT := Lib.hid hT
  obtain ⟨C, hC⟩ : ∃ C : Nat, (setN (bitAt L) (topN (M : Int))).length = C := ⟨_, rfl⟩
  obtain ⟨D, hD⟩ : ∃ D : Nat, (setN (bitAt L) (topN 2048)).length = D := ⟨_, rfl⟩
  have hCD : C ≤ D := by
    rw [← hC, ← hD, hT, show topN 2048 = 2048 from topN_nat 2048 (Nat.le_refl _)]
    exact setN_mono _ hM2
  have hDl : D ≤ 2048 := by
    have h1 := setN_len (bitAt L) (topN 2048)
    have h2 := topN_le 2048
    omega
  have HCI := Lib.hid (show (setI (bitAt L) (topN (M : Int))).length = C by rw [setI_len, hC])
  have HC := Lib.hid hC
  have HD := Lib.hid hD
  clear hL hF hM hT hC hD
  go_enter Try.func7, Try.ntmps7
  go_wp2_with (refine wpList_box_row rfl _ _ rfl _ rfl ?_)
  apply Stop.go; intro w1 Hg1 Hb1
  go_wp2_with (first | refine wpList_load_arr rfl _ _ rfl _ rfl _ _ Hb1.out _ _ Try.underlying22 (Try.arr256Fits HL.out) ?_ | refine wpList_alloc_row rfl _ rfl _ Try.blockZero ?_)
  apply Stop.go; intro w2 Hg2 Hx2
  go_wp2_with (refine wpList_store_arr rfl _ _ _ rfl _ _ rfl rfl _ _ Hx2.out (Try.blockFits HL.out) (by rw [bcells_size, bcells_size, HL.out, zeros_len]) (oneCell_bcells _) ?_)
  apply Stop.go; intro w3 Ho3 Hx3
  have Hw3 := Lib.hid (bonly (bt Hg1.out.1 Hg2.out.1) Ho3.out Hg1.out.1.size)
  go_wp2_with (refine wpList_load_arr rfl _ _ rfl _ rfl _ _ Hx3.out _ _ Try.underlying23 (Try.blockFits HL.out) ?_)
  refine (first_any L HL.out (F : Int) (M : Int) (by omega) _).mono ?_; rintro e w4 ⟨rfl, hb4⟩
  have Hx4 := Lib.hid (Hx3.out.ext hb4)
  have Hw4 := Lib.hid (bt Hw3.out hb4)
  clear hb4
  rw [HT.out]
  cases hfo : firstO (bitAt L) (F : Int) M with
  | none =>
    have HA := Lib.hid (show ∀ j : Nat, F ≤ j → j < M → bitAt L j = true from fun j h1 h2 => firstO_not hfo j (by omega) h2)
    clear hfo
    go_wp2_with fail
    go_loopw [13] (fun i wr => ∃ j : Nat, F ≤ j ∧ (j ≤ M ∨ j = F) ∧ i = .int .i64 j ∧ Below w4.heap.size w4 wr) (fun i _ => M - (intOf i).toNat)
    case atStart => exact ⟨F, Nat.le_refl _, Or.inr rfl, rfl, Below.refl _ _⟩
    case round =>
      obtain ⟨j, hj1, hj2, rfl, hbw⟩ := hrel
      have Hbw := Lib.hid hbw
      clear hbw
      have Hx := Lib.hid (Hx4.out.ext Hbw.out)
      by_cases hlt : j < M
      · have d2 : decide ((j : Int) < M) = true := by simpa using hlt
        have Hj := Lib.hid (HA.out j hj1 hlt)
        have HJ := Lib.hid (show hasB L (j : Int) = true by unfold hasB isBitB; rw [decide_eq_true (by omega)]; exact Hj.out)
        go_wp2_with (refine wpList_load_arr rfl _ _ rfl _ rfl _ _ Hx.out _ _ Try.underlying23 (Try.blockFits HL.out) ?_)
        refine (has_any L HL.out _ _).mono ?_; rintro e w5 ⟨rfl, hb5⟩
        rw [HJ.out]
        have Hb5 := Lib.hid hb5
        clear hb5
        go_wp2_with fail
        go_roundw
        case rel => exact ⟨j + 1, by omega, by omega, by go_num, bt Hbw.out Hb5.out⟩
        case measure => simp [intOf]; omega
      · have d2 : decide ((j : Int) < M) = false := by simpa using hlt
        go_wp2_with (refine wpList_load_arr rfl _ _ rfl _ rfl _ _ Hx.out _ _ Try.underlying23 (Try.blockFits HL.out) ?_)
        refine (cset_any L HL.out (M : Int) _).mono ?_; rintro e w5 ⟨v, rfl, hv, hb5⟩
        obtain ⟨Av, cv, rfl, -, -, -⟩ := hv.ints
        rw [HCI.out]
        have Hb5 := Lib.hid hb5
        have Hx5 := Lib.hid (Hx.out.ext hb5)
        clear hb5 hv
        go_wp2_with (refine wpList_load_arr rfl _ _ rfl _ rfl _ _ Hx5.out _ _ Try.underlying23 (Try.blockFits HL.out) ?_)
        refine (count_any L HL.out (M : Int) _).mono ?_; rintro e w6 ⟨rfl, hb6⟩
        rw [HC.out]
        have Hb6 := Lib.hid (bt Hb5.out hb6)
        have Hx6 := Lib.hid (Hx5.out.ext hb6)
        clear hb6
        go_wp2_with (refine wpList_load_arr rfl _ _ rfl _ rfl _ _ Hx6.out _ _ Try.underlying23 (Try.blockFits HL.out) ?_)
        refine (count_any L HL.out 2048 _).mono ?_; rintro e w7 ⟨rfl, hb7⟩
        rw [HD.out]
        have Hb7 := Lib.hid (bt Hb6.out hb7)
        clear hb7
        have d3 : decide ((C : Int) ≤ D) = true := by simpa using hCD
        go_wp2_with fail
        refine (works04_any _).mono ?_; rintro e w8 ⟨rfl, hb8⟩
        have Hb8 := Lib.hid (bt Hb7.out hb8)
        clear hb8
        go_wp2_with fail
        go_ret
        exact ⟨rfl, bt Hw4.out (bt Hbw.out Hb8.out)⟩
  | some k =>
    obtain ⟨hk1, hk2, hk3, hk4⟩ := firstO_is hfo
    have HA := Lib.hid (show ∀ j : Nat, F ≤ j → j < k → bitAt L j = true from fun j h1 h2 => hk4 j (by omega) h2)
    have HJ := Lib.hid (show hasB L (k : Int) = false by unfold hasB isBitB; rw [decide_eq_true (by omega)]; exact hk3)
    have d0 : decide (k < F) = false := by simp; omega
    have d1 : decide (M ≤ k) = false := by simp; omega
    clear hfo hk3 hk4
    simp only [Option.getD_some, Option.isSome_some]
    go_wp2_with (refine wpList_load_arr rfl _ _ rfl _ rfl _ _ Hx4.out _ _ Try.underlying23 (Try.blockFits HL.out) ?_)
    refine (has_any L HL.out _ _).mono ?_; rintro e w5 ⟨rfl, hb5⟩
    rw [HJ.out]
    have Hx4 := Lib.hid (Hx4.out.ext hb5)
    have Hw4 := Lib.hid (bt Hw4.out hb5)
    clear hb5
    go_wp2_with fail
    go_loopw [13] (fun i wr => ∃ j : Nat, F ≤ j ∧ (j ≤ k ∨ j = F) ∧ i = .int .i64 j ∧ Below w5.heap.size w5 wr) (fun i _ => k - (intOf i).toNat)
    case atStart => exact ⟨F, Nat.le_refl _, Or.inr rfl, rfl, Below.refl _ _⟩
    case round =>
      obtain ⟨j, hj1, hj2, rfl, hbw⟩ := hrel
      have Hbw := Lib.hid hbw
      clear hbw
      have Hx := Lib.hid (Hx4.out.ext Hbw.out)
      by_cases hlt : j < k
      · have d2 : decide ((j : Int) < k) = true := by simpa using hlt
        have Hj := Lib.hid (HA.out j hj1 hlt)
        have HJ := Lib.hid (show hasB L (j : Int) = true by unfold hasB isBitB; rw [decide_eq_true (by omega)]; exact Hj.out)
        go_wp2_with (refine wpList_load_arr rfl _ _ rfl _ rfl _ _ Hx.out _ _ Try.underlying23 (Try.blockFits HL.out) ?_)
        refine (has_any L HL.out _ _).mono ?_; rintro e w5 ⟨rfl, hb5⟩
        rw [HJ.out]
        have Hb5 := Lib.hid hb5
        clear hb5
        go_wp2_with fail
        go_roundw
        case rel => exact ⟨j + 1, by omega, by omega, by go_num, bt Hbw.out Hb5.out⟩
        case measure => simp [intOf]; omega
      · have d2 : decide ((j : Int) < k) = false := by simpa using hlt
        go_wp2_with (refine wpList_load_arr rfl _ _ rfl _ rfl _ _ Hx.out _ _ Try.underlying23 (Try.blockFits HL.out) ?_)
        refine (cset_any L HL.out (M : Int) _).mono ?_; rintro e w5' ⟨v, rfl, hv, hb5⟩
        obtain ⟨Av, cv, rfl, -, -, -⟩ := hv.ints
        rw [HCI.out]
        have Hb5 := Lib.hid hb5
        have HX5 := Lib.hid (Hx.out.ext hb5)
        clear hb5 hv
        go_wp2_with (refine wpList_load_arr rfl _ _ rfl _ rfl _ _ HX5.out _ _ Try.underlying23 (Try.blockFits HL.out) ?_)
        refine (count_any L HL.out (M : Int) _).mono ?_; rintro e w6 ⟨rfl, hb6⟩
        rw [HC.out]
        have Hb6 := Lib.hid (bt Hb5.out hb6)
        have Hx6 := Lib.hid (HX5.out.ext hb6)
        clear hb6
        go_wp2_with (refine wpList_load_arr rfl _ _ rfl _ rfl _ _ Hx6.out _ _ Try.underlying23 (Try.blockFits HL.out) ?_)
        refine (count_any L HL.out 2048 _).mono ?_; rintro e w7 ⟨rfl, hb7⟩
        rw [HD.out]
        have Hb7 := Lib.hid (bt Hb6.out hb7)
        clear hb7
        have d3 : decide ((C : Int) ≤ D) = true := by simpa using hCD
        go_wp2_with fail
        refine (works04_any _).mono ?_; rintro e w8 ⟨rfl, hb8⟩
        have Hb8 := Lib.hid (bt Hb7.out hb8)
        clear hb8
        go_wp2_with fail
        go_ret
        exact ⟨rfl, bt Hw4.out (bt Hbw.out Hb8.out)⟩

end Go.Proofs.Ytcoefbgidfgblaa
