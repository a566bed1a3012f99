/-
  Whatever the arguments of NumBlocks are, it answers true and leaves them. No condition.
-/
import Derived.Test.YtpegdcgpohdhnaaLaw01b
import Derived.Test.YtpegdcgpohdhnaaHeld
namespace Go.Proofs.Ytpegdcgpohdhnaa
open Go.ChangeShapes Go.WideShapes Go.ChangeAt Go.RowKit

theorem layL_rlay (L : List UInt8) (hL : L.length = 256) (a : Int) (l : List UInt8) : rlayL L a l = layL L a l := by
  unfold rlayL layL isPlaceB
  rw [hL]
  by_cases h1 : 0 ≤ a
  · by_cases h2 : a < 256
    · rw [if_pos (by simp; omega), if_pos (by simp; omega)]
    · by_cases h3 : a ≤ 256
      · obtain rfl : a = 256 := by omega
        rw [if_pos (by simp), if_neg (by simp)]
        simp [splice_nil]
      · rw [if_neg (by simp; omega), if_neg (by simp; omega)]
  · rw [if_neg (by simp; omega), if_neg (by simp; omega)]

set_option maxHeartbeats 2000000 in
theorem numBlocks_any (L : List UInt8) (hL : L.length = 256) (n0 n1 n2 : Int) (V : Nat) (hV : IntKind.u64.wrap n2 = V) (hV2 : V < 18446744073709551616) (A : Option Addr) (n c : Nat) (l : List UInt8) (hl : l.length = n) (hcap : n ≤ c) (w : World) (r : RB w A l) :
    Calls Try.prog 4 #[.agg (bcells L), .agg #[.int .i64 n0, .int .i64 n1, .int .i64 n2], .slice A n c] w fun e w' => e = .returned (.bool true) ∧ Below w.heap.size w w' := by
  have HL := Lib.hid hL
  have Hl := Lib.hid hl
  clear hL hl
  by_cases h6 : n ≤ 600
  · have d1 : decide ((600 : Int) < n) = false := by simp; omega
    have lw : Hid ((withL L n0 n1 V).length = 256) := Lib.hid (by rw [withL_len, HL.out])
    have ll : Hid ((layL L n0 l).length = 256) := Lib.hid (layL_len _ _ _ HL.out)
    have lo : Hid ((layL (zeros 256) 0 l).length = 256) := Lib.hid (layL_len _ _ _ (zeros_len _))
    go_enter Try.func4, Try.ntmps4
    go_wp2_with (refine wpList_box_row rfl _ _ rfl _ rfl ?_)
    apply Stop.go; intro w1 Hg1 Hb1
    go_wp2_with (first | refine wpList_load_arr rfl _ _ rfl _ rfl _ _ (Hb1.out.ext (Grew.alloc _ _).1) _ _ Try.underlying32 (Try.arr256Fits HL.out) ?_ | refine wpList_alloc_row rfl _ rfl _ Try.blockZero ?_)
    have Hg2 := Lib.hid (Grew.alloc w1 (.cells #[.int .i64 n0, .int .i64 n1, .int .i64 n2] 33))
    have Hb2 := Lib.hid (Hb1.out.ext Hg2.out.1)
    have Hn2 := Lib.hid (Blk.new w1 33 #[.int .i64 n0, .int .i64 n1, .int .i64 n2])
    have Hw2 := Lib.hid (bt Hg1.out.1 Hg2.out.1)
    generalize w1.alloc (.cells #[.int .i64 n0, .int .i64 n1, .int .i64 n2] 33) = w2 at *
    apply Stop.go; intro w3 Hg3 Hx3
    go_wp2_with (refine wpList_store_arr rfl _ _ _ rfl _ _ rfl rfl _ _ Hx3.out (Try.blockFits HL.out) (by rw [bcells_size, bcells_size, HL.out, zeros_len]) (oneCell_bcells _) ?_)
    apply Stop.go; intro w4 Ho4 Hx4
    have Hw4 := Lib.hid (bonly (bt Hw2.out Hg3.out.1) Ho4.out (by have h1 := Hw2.out.size; have h2 := Hg2.out.2; omega))
    have Hb4 := Lib.hid ((Hb2.out.ext Hg3.out.1).only Ho4.out (by have h1 := Hb2.out.lt; have h2 := Hg2.out.2; omega))
    have Hn4 := Lib.hid ((Hn2.out.ext Hg3.out.1).only Ho4.out (by have h1 := Hn2.out.lt; have h2 := Hg2.out.2; omega))
    have c0 := Hn4.out.cell 0; have c1 := Hn4.out.cell 1; have c2 := Hn4.out.cell 2
    go_wp2_with (first | refine wpList_load_arr rfl _ _ rfl _ rfl _ _ Hx4.out _ _ Try.underlying34 (Try.blockFits HL.out) ?_ | refine wpList_alloc_row rfl _ rfl _ Try.blockZero ?_)
    refine (with_any L HL.out _ _ _ V hV hV2 _).mono ?_; rintro e w5 ⟨rfl, hb5⟩
    have Hw5 := Lib.hid (bt Hw4.out hb5)
    have Hb5 := Lib.hid (Hb4.out.ext hb5)
    have Hn5 := Lib.hid (Hn4.out.ext hb5)
    have Hx5 := Lib.hid (Hx4.out.ext hb5)
    clear hb5 c0 c1 c2
    go_wp2_with (refine wpList_alloc_row rfl _ rfl _ Try.blockZero ?_)
    apply Stop.go; intro w6 Hg6 Hy6
    go_wp2_with (refine wpList_store_arr rfl _ _ _ rfl _ _ rfl rfl _ _ Hy6.out (Try.blockFits lw.out) (by rw [bcells_size, bcells_size, lw.out, zeros_len]) (oneCell_bcells _) ?_)
    apply Stop.go; intro w7 Ho7 Hy7
    have Hw7 := Lib.hid (bonly (bt Hw5.out Hg6.out.1) Ho7.out Hw5.out.size)
    have Hb7 := Lib.hid ((Hb5.out.ext Hg6.out.1).only Ho7.out (Nat.ne_of_lt Hb5.out.lt))
    have Hn7 := Lib.hid ((Hn5.out.ext Hg6.out.1).only Ho7.out (Nat.ne_of_lt Hn5.out.lt))
    have Hx7 := Lib.hid ((Hx5.out.ext Hg6.out.1).only Ho7.out (Nat.ne_of_lt Hx5.out.lt))
    have c0 := Hn7.out.cell 0; have c1 := Hn7.out.cell 1; have c2 := Hn7.out.cell 2
    go_wp2_with (first | refine wpList_load_arr rfl _ _ rfl _ rfl _ _ Hx7.out _ _ Try.underlying34 (Try.blockFits HL.out) ?_ | refine wpList_alloc_row rfl _ rfl _ Try.blockZero ?_)
    refine (lay_any L HL.out _ _ _ _ l Hl.out _ (r.below Hw7.out)).mono ?_; rintro e w8 ⟨rfl, hb8⟩
    have Hw8 := Lib.hid (bt Hw7.out hb8)
    have Hb8 := Lib.hid (Hb7.out.ext hb8)
    have Hn8 := Lib.hid (Hn7.out.ext hb8)
    have Hx8 := Lib.hid (Hx7.out.ext hb8)
    have Hy8 := Lib.hid (Hy7.out.ext hb8)
    clear hb8 c0 c1 c2
    go_wp2_with (refine wpList_alloc_row rfl _ rfl _ Try.blockZero ?_)
    apply Stop.go; intro w9 Hg9 Hz9
    go_wp2_with (refine wpList_store_arr rfl _ _ _ rfl _ _ rfl rfl _ _ Hz9.out (Try.blockFits ll.out) (by rw [bcells_size, bcells_size, ll.out, zeros_len]) (oneCell_bcells _) ?_)
    apply Stop.go; intro w10 Ho10 Hz10
    have Hw10 := Lib.hid (bonly (bt Hw8.out Hg9.out.1) Ho10.out Hw8.out.size)
    have Hb10 := Lib.hid ((Hb8.out.ext Hg9.out.1).only Ho10.out (Nat.ne_of_lt Hb8.out.lt))
    have Hn10 := Lib.hid ((Hn8.out.ext Hg9.out.1).only Ho10.out (Nat.ne_of_lt Hn8.out.lt))
    have Hx10 := Lib.hid ((Hx8.out.ext Hg9.out.1).only Ho10.out (Nat.ne_of_lt Hx8.out.lt))
    have Hy10 := Lib.hid ((Hy8.out.ext Hg9.out.1).only Ho10.out (Nat.ne_of_lt Hy8.out.lt))
    go_wp2_with (refine wpList_alloc_row rfl _ rfl _ Try.blockZero ?_)
    refine (of_any _ _ _ l Hl.out _ (r.below Hw10.out)).mono ?_; rintro e w11 ⟨rfl, hb11⟩
    have Hw11 := Lib.hid (bt Hw10.out hb11)
    have Hb11 := Lib.hid (Hb10.out.ext hb11)
    have Hn11 := Lib.hid (Hn10.out.ext hb11)
    have Hx11 := Lib.hid (Hx10.out.ext hb11)
    have Hy11 := Lib.hid (Hy10.out.ext hb11)
    have Hz11 := Lib.hid (Hz10.out.ext hb11)
    clear hb11
    go_wp2_with (refine wpList_alloc_row rfl _ rfl _ Try.blockZero ?_)
    apply Stop.go; intro w12 Hg12 Hu12
    go_wp2_with (refine wpList_store_arr rfl _ _ _ rfl _ _ rfl rfl _ _ Hu12.out (Try.blockFits lo.out) (by rw [bcells_size, bcells_size, lo.out, zeros_len]) (oneCell_bcells _) ?_)
    apply Stop.go; intro w13 Ho13 Hu13
    have Hw13 := Lib.hid (bonly (bt Hw11.out Hg12.out.1) Ho13.out Hw11.out.size)
    have Hb13 := Lib.hid ((Hb11.out.ext Hg12.out.1).only Ho13.out (Nat.ne_of_lt Hb11.out.lt))
    have Hn13 := Lib.hid ((Hn11.out.ext Hg12.out.1).only Ho13.out (Nat.ne_of_lt Hn11.out.lt))
    have Hx13 := Lib.hid ((Hx11.out.ext Hg12.out.1).only Ho13.out (Nat.ne_of_lt Hx11.out.lt))
    have Hy13 := Lib.hid ((Hy11.out.ext Hg12.out.1).only Ho13.out (Nat.ne_of_lt Hy11.out.lt))
    have Hz13 := Lib.hid ((Hz11.out.ext Hg12.out.1).only Ho13.out (Nat.ne_of_lt Hz11.out.lt))
    have S0 : Hid (rlayL L n0 l = layL L n0 l) := Lib.hid (layL_rlay L HL.out n0 l)
    have S1 : Hid (rlayL (zeros 256) 0 l = layL (zeros 256) 0 l) := Lib.hid (layL_rlay (zeros 256) (zeros_len _) 0 l)
    have S2 : Hid (rcutL L n0 n2 = cutL L n0 n2) := Lib.hid (rcutL_cut L HL.out n0 n2)
    generalize hX : withL L n0 n1 V = X at *
    generalize hY : layL L n0 l = Y at *
    generalize hO : layL (zeros 256) 0 l = O at *
    generalize hC : cutL L n0 n2 = C at *
    have HX := Lib.hid hX
    have HC := Lib.hid hC
    clear hX hY hO hC
    have hS : ∀ w' : World, Below w13.heap.size w13 w' → (Below w13.heap.size w13 w' ∧ w'.cell? ⟨w1.heap.size, 0, none⟩ = some (.int .i64 n0) ∧ w'.cell? ⟨w1.heap.size, 1, none⟩ = some (.int .i64 n1) ∧ w'.cell? ⟨w1.heap.size, 2, none⟩ = some (.int .i64 n2) ) := by
      intro w' hb
      have h1 := Hn13.out.ext hb
      exact ⟨hb, h1.cell 0, h1.cell 1, h1.cell 2⟩
    have HS := Lib.hid hS
    clear hS
    have sl0 : ∀ w' : World, (Instr.sliceAt 32 (.pointer (some ⟨w.heap.size, 0, none⟩)) none none none).run Try.prog w' = .ok (.slice (some ⟨w.heap.size, 0, none⟩) 256 256) w' := fun w' => (run_slice_arr Try.prog w' 32 256 5 Try.underlying32 Try.byteSize w.heap.size 0 256 (by omega) (by omega) (by omega) .i64 .i64).2.2.2 rfl rfl
    have sl1 : ∀ (g : Nat) (w' : World), (Instr.sliceAt 34 (.pointer (some ⟨g, 0, none⟩)) none none none).run Try.prog w' = .ok (.slice (some ⟨g, 0, none⟩) 256 256) w' := fun g w' => (run_slice_arr Try.prog w' 34 256 5 Try.underlying34 Try.byteSize g 0 256 (by omega) (by omega) (by omega) .i64 .i64).2.2.2 rfl rfl
    have mk : ∀ w' : World, (Instr.makeSlice 22 (.int .i64 256) (.int .i64 256)).run Try.prog w' = .ok (.slice (some ⟨w'.heap.size, 0, none⟩) 256 256) (w'.alloc (.cells (bcells (zeros 256)) 5)) := fun w' => run_make_zeros Try.prog w' 22 5 Try.underlying22 Try.byteInfo .i64 .i64 256 (by omega)
    iterate 4 go_step
    refine WH.start (S := fun w' : World => Below w13.heap.size w13 w' ∧ w'.cell? ⟨w1.heap.size, 0, none⟩ = some (.int .i64 n0) ∧ w'.cell? ⟨w1.heap.size, 1, none⟩ = some (.int .i64 n1) ∧ w'.cell? ⟨w1.heap.size, 2, none⟩ = some (.int .i64 n2)) [false, false, false, false, false, false, false, false, false, false, false, false, false, false, false, false, false, false, false, false, false, false, false, false, false, false, false, false, false, false, false, false, false, false, false, false, false, false, false, false, false, false, false, false, false, false, false, false, false, false, false, false, false, false, false, false, false, false, false, false] 60 rfl rfl (by kernel_rfl) (HS.out _ (bdrew w13 1)) (fun hSn => ?_)
    refine WH.take 0 _ _ rfl (by kernel_rfl) (fun _ _ _ h => h) rfl (by assumption) (fun w' hSw => run_load_arr _ _ rfl _ rfl _ _ (Hx13.out.ext hSw.1) _ _ (Try.underlying34) (Try.blockFits HL.out)) ?_; simp only [Act.put, List.setIfInBounds_toArray, List.set_cons_zero, List.set_cons_succ]
    refine WH.take 1 _ ?_ rfl (by kernel_rfl) (fun _ _ _ h => h) rfl (by assumption) ?_ ?_; rotate_left; (focus (intro w hSw; (try dsimp only at hSw); (first | (go_simp; done) | (go_simp; with_reducible rfl)))); simp only [Act.put, List.setIfInBounds_toArray, List.set_cons_zero, List.set_cons_succ]
    refine WH.take 2 _ ?_ rfl (by kernel_rfl) (fun _ _ _ h => h) rfl (by assumption) ?_ ?_; rotate_left; (focus (intro w hSw; (try dsimp only at hSw); (first | (go_simp; done) | (go_simp; with_reducible rfl)))); simp only [Act.put, List.setIfInBounds_toArray, List.set_cons_zero, List.set_cons_succ]
    refine WH.take 3 _ ?_ rfl (by kernel_rfl) (fun _ _ _ h => h) rfl (by assumption) ?_ ?_; rotate_left; (focus (intro w hSw; (try dsimp only at hSw); (first | (go_simp; done) | (go_simp; with_reducible rfl)))); simp only [Act.put, List.setIfInBounds_toArray, List.set_cons_zero, List.set_cons_succ]
    refine WH.take 4 _ ?_ rfl (by kernel_rfl) (fun _ _ _ h => h) rfl (by assumption) ?_ ?_; rotate_left; (focus (intro w hSw; (try dsimp only at hSw); (first | (go_simp; done) | (go_simp; with_reducible rfl)))); simp only [Act.put, List.setIfInBounds_toArray, List.set_cons_zero, List.set_cons_succ]
    refine WH.take 6 _ ?_ rfl (by kernel_rfl) (fun _ _ _ h => h) rfl (by assumption) ?_ ?_; rotate_left; (focus (intro w hSw; (try dsimp only at hSw); (first | (go_simp; done) | (go_simp; with_reducible rfl)))); simp only [Act.put, List.setIfInBounds_toArray, List.set_cons_zero, List.set_cons_succ]
    refine WH.take 7 _ ?_ rfl (by kernel_rfl) (fun _ _ _ h => h) rfl (by assumption) ?_ ?_; rotate_left; (focus (intro w hSw; (try dsimp only at hSw); (first | (go_simp; done) | (go_simp; with_reducible rfl)))); simp only [Act.put, List.setIfInBounds_toArray, List.set_cons_zero, List.set_cons_succ]
    refine WH.take 8 _ ?_ rfl (by kernel_rfl) (fun _ _ _ h => h) rfl (by assumption) ?_ ?_; rotate_left; (focus (intro w hSw; (try dsimp only at hSw); (first | (go_simp; done) | (go_simp; with_reducible rfl)))); simp only [Act.put, List.setIfInBounds_toArray, List.set_cons_zero, List.set_cons_succ]
    refine WH.take 9 _ ?_ rfl (by kernel_rfl) (fun _ _ _ h => h) rfl (by assumption) ?_ ?_; rotate_left; (focus (intro w hSw; (try dsimp only at hSw); (first | (go_simp; done) | (go_simp; with_reducible rfl)))); simp only [Act.put, List.setIfInBounds_toArray, List.set_cons_zero, List.set_cons_succ]
    refine WH.take 10 _ ?_ rfl (by kernel_rfl) (fun _ _ _ h => h) rfl (by assumption) ?_ ?_; rotate_left; (focus (intro w hSw; (try dsimp only at hSw); (first | (go_simp; done) | (go_simp; with_reducible rfl)))); simp only [Act.put, List.setIfInBounds_toArray, List.set_cons_zero, List.set_cons_succ]
    refine WH.only 5 _ rfl (by kernel_rfl) rfl (fun K hK => ?_); go_simp; refine (at_any L HL.out _ _ _).mono ?_; rintro e wa ⟨rfl, hbq⟩; go_simp
    have hSn := HS.out _ (bt hSn.1 hbq); refine hK _ _ hSn ?_; clear hK; clear K; simp only [Act.put, List.setIfInBounds_toArray, List.set_cons_zero, List.set_cons_succ]
    refine WH.only 11 _ rfl (by kernel_rfl) rfl (fun K hK => ?_); go_simp; refine (rat_any _ _ _ L HL.out (by simp [maxLen]) _ _ _ (RB.of_blk0 (Hb13.out.ext hSn.1))).mono ?_; rintro e wb ⟨rfl, rfl⟩; go_simp
    have hSn := hSn; refine hK _ _ hSn ?_; clear hK; clear K; simp only [Act.put, List.setIfInBounds_toArray, List.set_cons_zero, List.set_cons_succ]
    refine WH.take 12 _ ?_ rfl (by kernel_rfl) (fun _ _ _ h => h) rfl (by assumption) ?_ ?_; rotate_left; (focus (intro w hSw; (try dsimp only at hSw); (first | (go_simp; done) | (go_simp; with_reducible rfl)))); simp only [Act.put, List.setIfInBounds_toArray, List.set_cons_zero, List.set_cons_succ]
    refine WH.take 13 _ ?_ rfl (by kernel_rfl) (fun _ _ _ h => h) rfl (by assumption) ?_ ?_; rotate_left; (focus (intro w hSw; (try dsimp only at hSw); (first | (go_simp; done) | (go_simp; with_reducible rfl)))); simp only [Act.put, List.setIfInBounds_toArray, List.set_cons_zero, List.set_cons_succ]
    refine WH.take 14 _ ?_ rfl (by kernel_rfl) (fun _ _ _ h => h) rfl (by assumption) ?_ ?_; rotate_left; (focus (intro w hSw; (try dsimp only at hSw); (first | (go_simp; done) | (go_simp; with_reducible rfl)))); simp only [Act.put, List.setIfInBounds_toArray, List.set_cons_zero, List.set_cons_succ]
    refine WH.take 15 _ ?_ rfl (by kernel_rfl) (fun _ _ _ h => h) rfl (by assumption) ?_ ?_; rotate_left; (focus (intro w hSw; (try dsimp only at hSw); (first | (go_simp; done) | (go_simp; with_reducible rfl)))); simp only [Act.put, List.setIfInBounds_toArray, List.set_cons_zero, List.set_cons_succ]
    refine WH.take 16 _ ?_ rfl (by kernel_rfl) (fun _ _ _ h => h) rfl (by assumption) ?_ ?_; rotate_left; (focus (intro w hSw; (try dsimp only at hSw); (first | (go_simp; done) | (go_simp; with_reducible rfl)))); simp only [Act.put, List.setIfInBounds_toArray, List.set_cons_zero, List.set_cons_succ]
    refine WH.take 17 _ ?_ rfl (by kernel_rfl) (fun _ _ _ h => h) rfl (by assumption) ?_ ?_; rotate_left; (focus (intro w hSw; (try dsimp only at hSw); (first | (go_simp; done) | (go_simp; with_reducible rfl)))); simp only [Act.put, List.setIfInBounds_toArray, List.set_cons_zero, List.set_cons_succ]
    refine WH.take 18 _ ?_ rfl (by kernel_rfl) (fun _ _ _ h => h) rfl (by assumption) ?_ ?_; rotate_left; (focus (intro w hSw; (try dsimp only at hSw); (first | (go_simp; done) | (go_simp; with_reducible rfl)))); simp only [Act.put, List.setIfInBounds_toArray, List.set_cons_zero, List.set_cons_succ]
    refine WH.take 19 _ ?_ rfl (by kernel_rfl) (fun _ _ _ h => h) rfl (by assumption) ?_ ?_; rotate_left; (focus (intro w hSw; (try dsimp only at hSw); (first | (go_simp; done) | (go_simp; with_reducible rfl)))); simp only [Act.put, List.setIfInBounds_toArray, List.set_cons_zero, List.set_cons_succ]
    refine WH.take 20 _ ?_ rfl (by kernel_rfl) (fun _ _ _ h => h) rfl (by assumption) ?_ ?_; rotate_left; (focus (intro w hSw; (try dsimp only at hSw); (first | (go_simp; done) | (go_simp; with_reducible rfl)))); simp only [Act.put, List.setIfInBounds_toArray, List.set_cons_zero, List.set_cons_succ]
    refine WH.take 21 _ ?_ rfl (by kernel_rfl) (fun _ _ _ h => h) rfl (by assumption) ?_ ?_; rotate_left; (focus (intro w hSw; (try dsimp only at hSw); (first | (go_simp; done) | (go_simp; with_reducible rfl)))); simp only [Act.put, List.setIfInBounds_toArray, List.set_cons_zero, List.set_cons_succ]
    refine WH.only 22 _ rfl (by kernel_rfl) rfl (fun K hK => ?_); go_simp; refine (rwith_any _ _ _ L HL.out (by omega) (by simp [maxLen]) (by omega) _ _ _ V hV hV2 _ (RB.of_blk0 (Hb13.out.ext hSn.1))).mono ?_; rintro e wb ⟨A2, m2, c2, rfl, hl2, hc2, hm2, hr2, hbq⟩; go_simp
    rw [HX.out] at hl2 hr2
    have hSn := HS.out _ (bt hSn.1 hbq); refine hK _ _ hSn ?_; clear hK; clear K; simp only [Act.put, List.setIfInBounds_toArray, List.set_cons_zero, List.set_cons_succ]
    refine WH.only 23 _ rfl (by kernel_rfl) rfl (fun K hK => ?_); go_simp; refine (same_any _ _ _ X lw.out _ _ _ X hl2 (by simp [maxLen]) (Nat.le_trans hc2 hm2) _ (RB.of_blk0 (Hy13.out.ext hSn.1)) hr2).mono ?_; rintro e wc ⟨rfl, kq, rfl⟩; go_simp
    have hSn := HS.out _ (bt hSn.1 (bdrew _ kq)); refine hK _ _ hSn ?_; clear hK; clear K; simp only [Act.put, List.setIfInBounds_toArray, List.set_cons_zero, List.set_cons_succ]
    clear hl2 hc2 hm2 hr2
    refine WH.take 24 _ ?_ rfl (by kernel_rfl) (fun _ _ _ h => h) rfl (by assumption) ?_ ?_; rotate_left; (focus (intro w hSw; (try dsimp only at hSw); (first | (go_simp; done) | (go_simp; with_reducible rfl)))); simp only [Act.put, List.setIfInBounds_toArray, List.set_cons_zero, List.set_cons_succ]
    refine WH.take 25 _ ?_ rfl (by kernel_rfl) (fun _ _ _ h => h) rfl (by assumption) ?_ ?_; rotate_left; (focus (intro w hSw; (try dsimp only at hSw); (first | (go_simp; done) | (go_simp; with_reducible rfl)))); simp only [Act.put, List.setIfInBounds_toArray, List.set_cons_zero, List.set_cons_succ]
    refine WH.take 26 _ _ rfl (by kernel_rfl) (fun _ _ _ h => h) rfl (by assumption) (fun w' hSw => run_load_arr _ _ rfl _ rfl _ _ (Hx13.out.ext hSw.1) _ _ (Try.underlying34) (Try.blockFits HL.out)) ?_; simp only [Act.put, List.setIfInBounds_toArray, List.set_cons_zero, List.set_cons_succ]
    refine WH.take 27 _ ?_ rfl (by kernel_rfl) (fun _ _ _ h => h) rfl (by assumption) ?_ ?_; rotate_left; (focus (intro w hSw; (try dsimp only at hSw); (first | (go_simp; done) | (go_simp; with_reducible rfl)))); simp only [Act.put, List.setIfInBounds_toArray, List.set_cons_zero, List.set_cons_succ]
    refine WH.take 28 _ ?_ rfl (by kernel_rfl) (fun _ _ _ h => h) rfl (by assumption) ?_ ?_; rotate_left; (focus (intro w hSw; (try dsimp only at hSw); (first | (go_simp; done) | (go_simp; with_reducible rfl)))); simp only [Act.put, List.setIfInBounds_toArray, List.set_cons_zero, List.set_cons_succ]
    refine WH.take 29 _ ?_ rfl (by kernel_rfl) (fun _ _ _ h => h) rfl (by assumption) ?_ ?_; rotate_left; (focus (intro w hSw; (try dsimp only at hSw); (first | (go_simp; done) | (go_simp; with_reducible rfl)))); simp only [Act.put, List.setIfInBounds_toArray, List.set_cons_zero, List.set_cons_succ]
    refine WH.take 30 _ ?_ rfl (by kernel_rfl) (fun _ _ _ h => h) rfl (by assumption) ?_ ?_; rotate_left; (focus (intro w hSw; (try dsimp only at hSw); (first | (go_simp; done) | (go_simp; with_reducible rfl)))); simp only [Act.put, List.setIfInBounds_toArray, List.set_cons_zero, List.set_cons_succ]
    refine WH.take 32 _ ?_ rfl (by kernel_rfl) (fun _ _ _ h => h) rfl (by assumption) ?_ ?_; rotate_left; (focus (intro w hSw; (try dsimp only at hSw); (first | (go_simp; done) | (go_simp; with_reducible rfl)))); simp only [Act.put, List.setIfInBounds_toArray, List.set_cons_zero, List.set_cons_succ]
    refine WH.take 33 _ ?_ rfl (by kernel_rfl) (fun _ _ _ h => h) rfl (by assumption) ?_ ?_; rotate_left; (focus (intro w hSw; (try dsimp only at hSw); (first | (go_simp; done) | (go_simp; with_reducible rfl)))); simp only [Act.put, List.setIfInBounds_toArray, List.set_cons_zero, List.set_cons_succ]
    refine WH.take 34 _ ?_ rfl (by kernel_rfl) (fun _ _ _ h => h) rfl (by assumption) ?_ ?_; rotate_left; (focus (intro w hSw; (try dsimp only at hSw); (first | (go_simp; done) | (go_simp; with_reducible rfl)))); simp only [Act.put, List.setIfInBounds_toArray, List.set_cons_zero, List.set_cons_succ]
    refine WH.take 35 _ ?_ rfl (by kernel_rfl) (fun _ _ _ h => h) rfl (by assumption) ?_ ?_; rotate_left; (focus (intro w hSw; (try dsimp only at hSw); (first | (go_simp; done) | (go_simp; with_reducible rfl)))); simp only [Act.put, List.setIfInBounds_toArray, List.set_cons_zero, List.set_cons_succ]
    refine WH.take 36 _ ?_ rfl (by kernel_rfl) (fun _ _ _ h => h) rfl (by assumption) ?_ ?_; rotate_left; (focus (intro w hSw; (try dsimp only at hSw); (first | (go_simp; done) | (go_simp; with_reducible rfl)))); simp only [Act.put, List.setIfInBounds_toArray, List.set_cons_zero, List.set_cons_succ]
    refine WH.only 31 _ rfl (by kernel_rfl) rfl (fun K hK => ?_); go_simp; refine (cut_any L HL.out _ _ _).mono ?_; rintro e wd ⟨A2, m2, c2, rfl, hl2, hc2, hm2, hr2, hbq⟩; go_simp
    rw [HC.out] at hl2 hr2
    have hSn := HS.out _ (bt hSn.1 hbq); refine hK _ _ hSn ?_; clear hK; clear K; simp only [Act.put, List.setIfInBounds_toArray, List.set_cons_zero, List.set_cons_succ]
    refine WH.only 37 _ rfl (by kernel_rfl) rfl (fun K hK => ?_); go_simp; refine (rcut_any _ _ _ L HL.out (by omega) _ _ _ (RB.of_blk0 (Hb13.out.ext hSn.1))).mono ?_; rintro e we ⟨A3, m3, c3, rfl, hl3, hc3, hm3, hr3, hbr⟩; go_simp
    rw [S2.out] at hl3 hr3
    have hSn := HS.out _ (bt hSn.1 hbr); refine hK _ _ hSn ?_; clear hK; clear K; simp only [Act.put, List.setIfInBounds_toArray, List.set_cons_zero, List.set_cons_succ]
    refine WH.only 38 _ rfl (by kernel_rfl) rfl (fun K hK => ?_); go_simp; refine (same_any _ _ _ C hl2 _ _ _ C hl3 (Nat.le_trans hc2 hm2) (Nat.le_trans hc3 hm3) _ (hr2.below hbr) hr3).mono ?_; rintro e wf ⟨rfl, kr, rfl⟩; go_simp
    have hSn := HS.out _ (bt hSn.1 (bdrew _ kr)); refine hK _ _ hSn ?_; clear hK; clear K; simp only [Act.put, List.setIfInBounds_toArray, List.set_cons_zero, List.set_cons_succ]
    clear hl2 hc2 hm2 hr2 hl3 hc3 hm3 hr3
    refine WH.take 39 _ ?_ rfl (by kernel_rfl) (fun _ _ _ h => h) rfl (by assumption) ?_ ?_; rotate_left; (focus (intro w hSw; (try dsimp only at hSw); (first | (go_simp; done) | (go_simp; with_reducible rfl)))); simp only [Act.put, List.setIfInBounds_toArray, List.set_cons_zero, List.set_cons_succ]
    refine WH.take 40 _ ?_ rfl (by kernel_rfl) (fun _ _ _ h => h) rfl (by assumption) ?_ ?_; rotate_left; (focus (intro w hSw; (try dsimp only at hSw); (first | (go_simp; done) | (go_simp; with_reducible rfl)))); simp only [Act.put, List.setIfInBounds_toArray, List.set_cons_zero, List.set_cons_succ]
    refine WH.take 41 _ ?_ rfl (by kernel_rfl) (fun _ _ _ h => h) rfl (by assumption) ?_ ?_; rotate_left; (focus (intro w hSw; (try dsimp only at hSw); (first | (go_simp; done) | (go_simp; with_reducible rfl)))); simp only [Act.put, List.setIfInBounds_toArray, List.set_cons_zero, List.set_cons_succ]
    refine WH.take 42 _ ?_ rfl (by kernel_rfl) (fun _ _ _ h => h) rfl (by assumption) ?_ ?_; rotate_left; (focus (intro w hSw; (try dsimp only at hSw); (first | (go_simp; done) | (go_simp; with_reducible rfl)))); simp only [Act.put, List.setIfInBounds_toArray, List.set_cons_zero, List.set_cons_succ]
    refine WH.take 43 _ ?_ rfl (by kernel_rfl) (fun _ _ _ h => h) rfl (by assumption) ?_ ?_; rotate_left; (focus (intro w hSw; (try dsimp only at hSw); (first | (go_simp; done) | (go_simp; with_reducible rfl)))); simp only [Act.put, List.setIfInBounds_toArray, List.set_cons_zero, List.set_cons_succ]
    refine WH.take 44 _ ?_ rfl (by kernel_rfl) (fun _ _ _ h => h) rfl (by assumption) ?_ ?_; rotate_left; (focus (intro w hSw; (try dsimp only at hSw); (first | (go_simp; done) | (go_simp; with_reducible rfl)))); simp only [Act.put, List.setIfInBounds_toArray, List.set_cons_zero, List.set_cons_succ]
    refine WH.take 45 _ ?_ rfl (by kernel_rfl) (fun _ _ _ h => h) rfl (by assumption) ?_ ?_; rotate_left; (focus (intro w hSw; (try dsimp only at hSw); (first | (go_simp; done) | (go_simp; with_reducible rfl)))); simp only [Act.put, List.setIfInBounds_toArray, List.set_cons_zero, List.set_cons_succ]
    refine WH.only 46 _ rfl (by kernel_rfl) rfl (fun K hK => ?_); go_simp; refine (rlay_any _ _ _ L HL.out (by omega) _ _ _ _ l Hl.out _ (RB.of_blk0 (Hb13.out.ext hSn.1)) (r.below (bt Hw13.out hSn.1))).mono ?_; rintro e wg ⟨A2, m2, c2, rfl, hl2, hc2, hm2, hr2, hbs⟩; go_simp
    rw [S0.out] at hl2 hr2
    have hSn := HS.out _ (bt hSn.1 hbs); refine hK _ _ hSn ?_; clear hK; clear K; simp only [Act.put, List.setIfInBounds_toArray, List.set_cons_zero, List.set_cons_succ]
    refine WH.only 47 _ rfl (by kernel_rfl) rfl (fun K hK => ?_); go_simp; refine (same_any _ _ _ Y ll.out _ _ _ Y hl2 (by simp [maxLen]) (Nat.le_trans hc2 hm2) _ (RB.of_blk0 (Hz13.out.ext hSn.1)) hr2).mono ?_; rintro e wh ⟨rfl, kr2, rfl⟩; go_simp
    have hSn := HS.out _ (bt hSn.1 (bdrew _ kr2)); refine hK _ _ hSn ?_; clear hK; clear K; simp only [Act.put, List.setIfInBounds_toArray, List.set_cons_zero, List.set_cons_succ]
    clear hl2 hc2 hm2 hr2
    refine WH.take 48 _ ?_ rfl (by kernel_rfl) (fun _ _ _ h => h) rfl (by assumption) ?_ ?_; rotate_left; (focus (intro w hSw; (try dsimp only at hSw); (first | (go_simp; done) | (go_simp; with_reducible rfl)))); simp only [Act.put, List.setIfInBounds_toArray, List.set_cons_zero, List.set_cons_succ]
    refine WH.take 49 _ ?_ rfl (by kernel_rfl) (fun _ _ _ h => h) rfl (by assumption) ?_ ?_; rotate_left; (focus (intro w hSw; (try dsimp only at hSw); (first | (go_simp; done) | (go_simp; with_reducible rfl)))); simp only [Act.put, List.setIfInBounds_toArray, List.set_cons_zero, List.set_cons_succ]
    refine WH.take 50 _ ?_ rfl (by kernel_rfl) (fun _ _ _ h => h) rfl (by assumption) ?_ ?_; rotate_left; (focus (intro w hSw; (try dsimp only at hSw); (first | (go_simp; done) | (go_simp; with_reducible rfl)))); simp only [Act.put, List.setIfInBounds_toArray, List.set_cons_zero, List.set_cons_succ]
    refine WH.take 52 _ ?_ rfl (by kernel_rfl) (fun _ _ _ h => h) rfl (by assumption) ?_ ?_; rotate_left; (focus (intro w hSw; (try dsimp only at hSw); (first | (go_simp; done) | (go_simp; with_reducible rfl)))); simp only [Act.put, List.setIfInBounds_toArray, List.set_cons_zero, List.set_cons_succ]
    refine WH.only 51 _ rfl (by kernel_rfl) rfl (fun K hK => ?_)
    go_simp
    have hSn := HS.out _ (bt hSn.1 (Grew.alloc _ (.cells (bcells (zeros 256)) 5)).1); refine hK _ _ hSn ?_; clear hK; clear K; simp only [Act.put, List.setIfInBounds_toArray, List.set_cons_zero, List.set_cons_succ]
    refine WH.only 53 _ rfl (by kernel_rfl) rfl (fun K hK => ?_); go_simp; refine (rlay_any _ _ _ (zeros 256) (zeros_len _) (by omega) _ _ _ _ l Hl.out _ (RB.of_blk0 (Blk.new _ _ _)) (r.below (bt Hw13.out hSn.1))).mono ?_; rintro e wi ⟨A2, m2, c2, rfl, hl2, hc2, hm2, hr2, hbt⟩; go_simp
    rw [S1.out] at hl2 hr2
    have hSn := HS.out _ (bt hSn.1 hbt); refine hK _ _ hSn ?_; clear hK; clear K; simp only [Act.put, List.setIfInBounds_toArray, List.set_cons_zero, List.set_cons_succ]
    refine WH.only 54 _ rfl (by kernel_rfl) rfl (fun K hK => ?_); go_simp; refine (same_any _ _ _ O lo.out _ _ _ O hl2 (by simp [maxLen]) (Nat.le_trans hc2 hm2) _ (RB.of_blk0 (Hu13.out.ext hSn.1)) hr2).mono ?_; rintro e wj ⟨rfl, kr3, rfl⟩; go_simp
    have hSn := HS.out _ (bt hSn.1 (bdrew _ kr3)); refine hK _ _ hSn ?_; clear hK; clear K; simp only [Act.put, List.setIfInBounds_toArray, List.set_cons_zero, List.set_cons_succ]
    refine WH.take 55 _ ?_ rfl (by kernel_rfl) (fun _ _ _ h => h) rfl (by assumption) ?_ ?_; rotate_left; (focus (intro w hSw; (try dsimp only at hSw); (first | (go_simp; done) | (go_simp; with_reducible rfl)))); simp only [Act.put, List.setIfInBounds_toArray, List.set_cons_zero, List.set_cons_succ]
    refine WH.take 56 _ ?_ rfl (by kernel_rfl) (fun _ _ _ h => h) rfl (by assumption) ?_ ?_; rotate_left; (focus (intro w hSw; (try dsimp only at hSw); (first | (go_simp; done) | (go_simp; with_reducible rfl)))); simp only [Act.put, List.setIfInBounds_toArray, List.set_cons_zero, List.set_cons_succ]
    refine WH.only 57 _ rfl (by kernel_rfl) rfl (fun K hK => ?_); go_simp; refine (works01_any _).mono ?_; rintro e wk ⟨rfl, hbu⟩; go_simp
    have hSn := HS.out _ (bt hSn.1 hbu); refine hK _ _ hSn ?_; clear hK; clear K; simp only [Act.put, List.setIfInBounds_toArray, List.set_cons_zero, List.set_cons_succ]
    refine WH.take 58 _ ?_ rfl (by kernel_rfl) (fun _ _ _ h => h) rfl (by assumption) ?_ ?_; rotate_left; (focus (intro w hSw; (try dsimp only at hSw); (first | (go_simp; done) | (go_simp; with_reducible rfl)))); simp only [Act.put, List.setIfInBounds_toArray, List.set_cons_zero, List.set_cons_succ]
    refine WH.take 59 _ ?_ rfl (by kernel_rfl) (fun _ _ _ h => h) rfl (by assumption) ?_ ?_; rotate_left; (focus (intro w hSw; (try dsimp only at hSw); (first | (go_simp; done) | (go_simp; with_reducible rfl)))); simp only [Act.put, List.setIfInBounds_toArray, List.set_cons_zero, List.set_cons_succ]
    refine WH.done (by kernel_rfl) ?_
    have Hfin := Lib.hid (bt Hw13.out hSn.1)
    go_wp2_with fail
    go_ret
    exact ⟨rfl, Hfin.out⟩
  · have d1 : decide ((600 : Int) < n) = true := by simp; omega
    go_enter Try.func4, Try.ntmps4
    go_wp2_with (refine wpList_box_row rfl _ _ rfl _ rfl ?_)
    apply Stop.go; intro w1 Hg1 Hb1
    go_wp2_with fail
    have Hg2 := Lib.hid (Grew.alloc w1 (.cells #[.int .i64 n0, .int .i64 n1, .int .i64 n2] 33))
    have Hw2 := Lib.hid (bt Hg1.out.1 Hg2.out.1)
    generalize w1.alloc (.cells #[.int .i64 n0, .int .i64 n1, .int .i64 n2] 33) = w2 at *
    refine (works01_any _).mono ?_; rintro e w16 ⟨rfl, hb16⟩
    have Hw16 := Lib.hid (bt Hw2.out hb16)
    clear hb16
    go_wp2_with fail
    go_ret
    exact ⟨rfl, Hw16.out⟩

set_option maxRecDepth 100000 in
theorem numBlocks_lifted (os : Os) (started : os.Started) (H : Type) (enc : TypeId × Value → H) :
    ReturnsInHanded {} Try.checked os 4 .any (Rows.numBlocksSpec.pre6 enc Try.prog Try.f4 Rows.numBlocksRow.domain false) (Rows.numBlocksSpec.post enc Try.prog Try.f4 false true false false) := by
  refine returnsInHanded_of_change (C := Try.checked) Try.own started (by kernel_rfl) Try.func4 (ChangeSpec.witness6 (enc := enc) (C := Try.checked) false ⟨#[], #[.agg (bcells (zeros 256)), .agg #[.int .i64 0, .int .i64 0, .int .i64 0], .slice none 0 0], []⟩ 8 (by kernel_rfl) (by kernel_rfl) (by kernel_rfl) (by kernel_rfl)) ?_; intro W base args ds gs before hval0 hW hcnd _; have hval : ∀ (j : Nat) t v, Try.f4.params[j]? = some t → args[j]? = some v → Value.okWide Try.prog W .any base t v := hval0; have hW' := hW; obtain ⟨p, q, hA0, hV, rfl, hfz, hnd⟩ := hW; have hA : DataW.TrodAll enc Try.prog W 0 (fun _ => true) true Try.f4.params.toList args.toList ds p := hA0; rw [Try.params4] at hA hval; obtain ⟨v0, v1, v2, d0, d1, d2, p0, p1, p2, rfl, rfl, rfl, h0, h1, h2⟩ := trodAll_three hA; obtain ⟨rfl, rfl⟩ := trodVars_none hV; clear hA0 hval0
  obtain ⟨L, rfl, hL⟩ := open_byte_array Try.underlying32 Try.underlying5 (by kernel_rfl) (by kernel_rfl) (hval 0 _ v0 rfl rfl) h0
  obtain ⟨zs, rfl, hz, hw⟩ := open_int_array Try.underlying33 Try.underlying3 (by kernel_rfl) (by kernel_rfl) (hval 1 _ v1 rfl rfl) h1
  obtain ⟨A, n, c, l, rfl, hl, hn, hc, hr⟩ := open_bytes Try.underlying22 Try.underlying5 (by kernel_rfl) (hval 2 _ v2 rfl rfl) h2
  obtain ⟨z0, z1, z2, rfl⟩ := list_three hz
  obtain ⟨V, hV, hV2⟩ := wrap_u64_nat z2
  refine (numBlocks_any L hL z0 z1 z2 V hV hV2 A n c l hl hn W hr).mono fun e W' ⟨he, hb⟩ => ?_
  subst he
  exact ⟨_, rfl, law_post Try.laidOut (by rw [Try.params4]; intro t ht; simp at ht; rcases ht with rfl | rfl | rfl <;> exact ⟨by kernel_rfl, of_decide_eq_true (by kernel_rfl)⟩) rfl rfl Try.underlying4 rfl hW' hb⟩

theorem numBlocks_holds : Rows.NumBlocksSaid := OpenClaim.holds_of_wide 4 Try.f4 rfl rfl rfl rfl rfl rfl rfl ⟨rfl, rfl, rfl, rfl, rfl⟩ rfl rfl rfl rfl rfl (by kernel_rfl) Try.func4 (by kernel_rfl) (of_decide_eq_true (by kernel_rfl)) (by unfold Func.isWrapper; first | (rw [if_pos (by decide +kernel)]; kernel_rfl) | (rw [if_neg (by decide +kernel)]; exact ⟨rfl, rfl⟩)) (fun os started H enc _ => numBlocks_lifted os started H enc)

end Go.Proofs.Ytpegdcgpohdhnaa
