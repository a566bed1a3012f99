/-
  The contract of the law's works.
-/
import Derived.Test.YtckkdfpmibipfaaRol3
import Derived.Test.YtckkdfpmibipfaaLw9w
namespace Go.Proofs.Ytckkdfpmibipfaa
open Go.RowKit

/-- The page's example. -/
def ey1 : Cg := ⟨1, 5, ⟨0, [9]⟩, []⟩
def ey2 : Cg := ⟨2, 6, ⟨0, [9]⟩, [1]⟩
theorem ey_a : readyC [ey1, ey2] 6 = [] := by decide +kernel
theorem ey_b : readyC [ey1, ey2] 5 = [1] := by decide +kernel
theorem ey_c : heldC [ey1, ey2] 6 = [2] := by decide +kernel
theorem ey_d : doneC [ey1, ey2] 6 = [] := by decide +kernel
theorem ey_e : imageC (zeros 256) [ey1, ey2] 6 = zeros 256 := by unfold imageC; rw [ey_d]; rfl
theorem ey_f : (imageC (zeros 256) [ey1, ey2] 5)[0]? = some 9 := by decide +kernel
theorem ey_g : (viewC (zeros 256) [ey1, ey2] 6)[0]? = some 9 := by decide +kernel

set_option maxRecDepth 100000 in
set_option maxHeartbeats 8000000 in
theorem works10_any (w : World) : Calls Try.prog 8 #[] w fun e w' => e = .returned (.bool true) ∧ Below w.heap.size w w' := by
  go_enter Try.func8, Try.ntmps8
  go_wp2_with (refine wpList_build_one1 rfl _ _ _ rfl Try.underlying33 1 _ Try.byteInfo (.int .u8 9) rfl rfl rfl ?_)
  apply Stop.go; intro w1 Hg1 Hb1
  go_wp2_with (refine wpList_alloc_row rfl _ rfl _ Try.patchZero ?_)
  apply Stop.go; intro w2 Hg2 Hb2
  go_wp2_with (refine wpList_store_arr rfl _ _ _ rfl _ #[.int .i64 0, .slice (some ⟨w.heap.size, 0, none⟩) 1 1] rfl rfl _ _ Hb2.out Try.patchSize rfl (by simp [Value.oneCell']) ?_)
  apply Stop.go; intro w3 Ho3 Hb3
  have Hp3 := Lib.hid ((Hb1.out.ext Hg2.out.1).only Ho3.out (by have := Hg1.out.2; omega))
  have Hw3 := Lib.hid (bonly (bt Hg1.out.1 Hg2.out.1) Ho3.out Hg1.out.1.size)
  clear Hb1 Hb2 Hg1 Hg2 Ho3
  go_wp2_with (first | refine wpList_load_blk rfl _ _ rfl _ rfl _ _ Hb3.out _ Try.underlying57 rfl Try.patchSize ?_ | refine wpList_build_one1 rfl _ _ _ rfl Try.underlying30 8 _ Try.infoInt (.int .i64 1) rfl rfl rfl ?_)
  apply Stop.go; intro w4 Hg4 Hb4
  go_wp2_with (refine wpList_build_row2 rfl _ _ _ _ rfl Try.underlying26 5 72 _ Try.chgInfo (by decide) (by decide) #[.int .i64 1, .int .i64 5, .int .i64 0, .slice (some ⟨w.heap.size, 0, none⟩) 1 1, .slice none 0 0] #[.int .i64 2, .int .i64 6, .int .i64 0, .slice (some ⟨w.heap.size, 0, none⟩) 1 1, .slice (some ⟨w3.heap.size, 0, none⟩) 1 1] rfl rfl rfl rfl _ rfl ?_)
  apply Stop.go; intro w6 Hg6 Hb6
  have HL : Hid (RCL w6 (some ⟨w4.heap.size, 0, none⟩) [ey1, ey2]) := Lib.hid (fun k hk => by
    have p6 := (Hp3.out.ext Hg4.out.1).ext Hg6.out.1
    have q6 := Hb4.out.ext Hg6.out.1
    have hk' : k = 0 ∨ k = 1 := by simp at hk; omega
    have b6 := Hb6.out
    rcases hk' with rfl | rfl
    · exact ⟨_, _, _, _, _, _, rfl, b6.cell 0, b6.cell 1, b6.cell 2, b6.cell 3, b6.cell 4, CV.rcg (c := ey1) (nd := 1) (nn := 0) ⟨by decide, by decide, by decide, by decide, ⟨by decide, by decide, rfl, Nat.le_refl _, by unfold maxLen; omega, RB.of_blk9 p6⟩, rfl, Nat.le_refl _, by unfold maxLen; omega, RC.nil_ _ _, by decide⟩⟩
    · exact ⟨_, _, _, _, _, _, rfl, b6.cell 5, b6.cell 6, b6.cell 7, b6.cell 8, b6.cell 9, CV.rcg (c := ey2) (nd := 1) (nn := 1) ⟨by decide, by decide, by decide, by decide, ⟨by decide, by decide, rfl, Nat.le_refl _, by unfold maxLen; omega, RB.of_blk9 p6⟩, rfl, Nat.le_refl _, by unfold maxLen; omega, RC.of_blk1 q6, by decide⟩⟩)
  have Hw6 := Lib.hid (show Below w.heap.size w w6 from Hw3.out.trans ((bt Hg4.out.1 Hg6.out.1).mono Hw3.out.size))
  generalize w4.heap.size = g at *
  clear Hb4 Hg4 Hg6 Hb3 Hp3 Hb6 Hw3
  have HD : ∀ c ∈ [ey1, ey2], c.p.data.length ≤ 4096 ∧ c.needs.length ≤ 4096 := by decide
  have HA := Lib.hid (fun w' (hb : Below w6.heap.size w6 w') => pimage_any (zeros 256) (zeros_len 256) (some ⟨g, 0, none⟩) 2 2 [ey1, ey2] rfl (by decide) 6 w' (HL.out.rd.below hb))
  have HB := Lib.hid (fun w' (hb : Below w6.heap.size w6 w') => pimage_any (zeros 256) (zeros_len 256) (some ⟨g, 0, none⟩) 2 2 [ey1, ey2] rfl (by decide) 5 w' (HL.out.rd.below hb))
  have HC := Lib.hid (fun w' (hb : Below w6.heap.size w6 w') => pview_any (zeros 256) (zeros_len 256) (some ⟨g, 0, none⟩) 2 2 [ey1, ey2] rfl (by decide) HD 6 w' (HL.out.rd.below hb))
  have HH := Lib.hid (fun w' (hb : Below w6.heap.size w6 w') => pheld_any (some ⟨g, 0, none⟩) 2 2 [ey1, ey2] rfl (by decide) 6 w' (HL.out.rd.below hb))
  rw [ey_c] at HH
  rw [ey_a, ey_e] at HA
  rw [ey_b] at HB
  have HF := Lib.hid ey_f
  have HG := Lib.hid ey_g
  have HFl := Lib.hid (imageC_len (zeros_len 256) [ey1, ey2] 5)
  generalize imageC (zeros 256) [ey1, ey2] 5 = X at *
  generalize viewC (zeros 256) [ey1, ey2] 6 = Y at *
  clear HL HD
  go_wp2_with (refine wpList_build_zero rfl _ rfl _ Try.blockZero _ _ Try.underlying28 Try.byteSize ?_)
  refine (HA.out _ (Below.refl _ _)).mono ?_; rintro e w7 ⟨A7, n7, c7, rfl, ⟨h1, -, -, -⟩, h5⟩
  obtain rfl : n7 = 0 := h1.symm
  clear h1
  have Hw7 := Lib.hid h5
  clear h5
  go_wp2_with (refine wpList_alloc_row rfl _ rfl _ Try.blockZero ?_)
  apply Stop.go; intro w8 Hg8 Hb8
  go_wp2_with (refine wpList_store_arr rfl _ _ _ rfl _ (bcells (zeros 256)) rfl rfl _ _ Hb8.out (Try.blockFits (zeros_len 256)) rfl (oneCell_bcells _) ?_)
  apply Stop.go; intro w9 Ho9 Hb9
  have Hw9 := Lib.hid (bt Hw7.out (bonly Hg8.out.1 Ho9.out (Nat.le_refl _)))
  clear Hw7 Hg8 Hb8 Ho9
  go_wp2_with (refine wpList_build_zero rfl _ rfl _ Try.blockZero _ _ Try.underlying28 Try.byteSize ?_)
  refine (HB.out _ Hw9.out).mono ?_; rintro e w10 ⟨A10, n10, c10, rfl, ⟨h1, h2, h3, h4⟩, h5⟩
  obtain rfl : n10 = 1 := h1.symm
  have Hw10 := Lib.hid (bt Hw9.out h5)
  have Hx10 := Lib.hid (Hb9.out.ext h5)
  have Hi10 := Lib.hid h4
  clear h1 h2 h3 h4 h5
  go_wp2_with (refine wpList_alloc_row rfl _ rfl _ Try.blockZero ?_)
  apply Stop.go; intro w11 Hg11 Hb11
  go_wp2_with (refine wpList_store_arr rfl _ _ _ rfl _ (bcells X) rfl rfl _ _ Hb11.out (Try.blockFits HFl.out) (by rw [bcells_size, bcells_size, HFl.out, zeros_len]) (oneCell_bcells _) ?_)
  apply Stop.go; intro w12 Ho12 Hb12
  have D12 := Lib.hid (bonly Hg11.out.1 Ho12.out (Nat.le_refl _))
  have Hw12 := Lib.hid (bt Hw10.out D12.out)
  have Hx12 := Lib.hid (Hx10.out.ext D12.out)
  have Hi12 := Lib.hid (Hi10.out.below D12.out)
  clear Hw9 Hb9 Hx10 Hi10 Hg11 Hb11 Ho12
  go_wp2_with (first | refine wpList_load_arr rfl _ _ rfl _ rfl _ _ Hx12.out _ _ Try.underlying28 (Try.blockFits (zeros_len 256)) ?_ | refine wpList_build_zero rfl _ rfl _ Try.blockZero _ _ Try.underlying28 Try.byteSize ?_ | refine wpList_eql_arr rfl _ _ _ _ rfl (by kernel_rfl) _ _ Try.underlying28 Try.underlying5 Try.byteSize (zeros 256) (zeros 256) rfl rfl (zeros_len 256) (zeros_len 256) true (by simp) ?_)
  refine (HC.out _ Hw12.out).mono ?_; rintro e w13 ⟨rfl, h5⟩
  have Hw13 := Lib.hid (bt Hw12.out h5)
  have Hb13 := Lib.hid (Hb12.out.ext h5)
  have Hi13 := Lib.hid (Hi12.out.below h5)
  clear h5
  have c0 : w13.cell? ⟨w10.heap.size, 0, none⟩ = some (.int .u8 9) := by
    rw [Hb13.out.cell, bcells_get, HF.out]; rfl
  go_wp2_with (first | refine wpList_index_byte rfl _ _ _ rfl _ _ Try.underlying28 Try.underlying5 Try.byteSize _ rfl _ _ rfl 0 rfl (by decide) 9 HG.out ?_ | refine wpList_build_one1 rfl _ _ _ rfl Try.underlying30 8 _ Try.infoInt (.int .i64 1) rfl rfl rfl ?_)
  apply Stop.go; intro w14 Hg14 Hb14
  clear c0
  go_wp2_with fail
  refine (ints_any A10 1 c10 [1] rfl (some ⟨w13.heap.size, 0, none⟩) 1 1 [1] rfl (by decide) (by decide) _ (Hi13.out.below Hg14.out.1) (RC.of_blk1 Hb14.out)).mono ?_; rintro e w15 ⟨rfl, q15, rfl⟩
  rw [show decide (([1] : List Int) = [1]) = true from by decide]
  have Hw15 := Lib.hid (bt (bt Hw13.out Hg14.out.1) (bdrew w14 q15))
  generalize w14.drewN q15 = w15 at *
  clear Hg14 Hb14 Hi13 Hi12
  go_wp2_with fail
  refine (HH.out _ Hw15.out).mono ?_; rintro e w16 ⟨A16, n16, c16, rfl, h1, h2, h3, h4, h5⟩
  obtain rfl : n16 = 1 := h1.symm
  have Hw16 := Lib.hid (bt Hw15.out h5)
  have Hi16 := Lib.hid h4
  clear h1 h2 h3 h4 h5
  go_wp2_with (refine wpList_build_one1 rfl _ _ _ rfl Try.underlying30 8 _ Try.infoInt (.int .i64 2) rfl rfl rfl ?_)
  apply Stop.go; intro w17 Hg17 Hb17
  go_wp2_with fail
  refine (ints_any A16 1 c16 [2] rfl (some ⟨w16.heap.size, 0, none⟩) 1 1 [2] rfl (by decide) (by decide) _ (Hi16.out.below Hg17.out.1) (RC.of_blk1 Hb17.out)).mono ?_; rintro e w18 ⟨rfl, q18, rfl⟩
  rw [show decide (([2] : List Int) = [2]) = true from by decide]
  have Hw18 := Lib.hid (bt (bt Hw16.out Hg17.out.1) (bdrew w17 q18))
  generalize w17.drewN q18 = w18 at *
  go_wp2_with fail
  go_ret
  exact ⟨rfl, bt Hw6.out Hw18.out⟩

end Go.Proofs.Ytckkdfpmibipfaa
