/-
  The contract of the law's works.
-/
import Derived.Test.YtmcinaigkjfehaaGrf9
import Derived.Test.YtmcinaigkjfehaaLwB
import Derived.Test.YtmcinaigkjfehaaInts
namespace Go.Proofs.Ytmcinaigkjfehaa
open Go.RowKit

/-- The page's example. -/
def ez1 : Cg := ⟨1, 5, ⟨0, [9]⟩, []⟩
def ez2 : Cg := ⟨2, 6, ⟨0, [9]⟩, [1]⟩
def ez3 : Cg := ⟨3, 5, ⟨4, [1]⟩, [2]⟩
theorem ez_a : allC [ez1, ez2, ez3] 3 = [1, 2, 3] := by decide +kernel
theorem ez_b : depthC [ez1, ez2, ez3] 3 = 3 := by decide +kernel
theorem ez_c : planC [ez1, ez2, ez3] 3 = [5, 6, 5] := by decide +kernel

set_option maxRecDepth 100000 in
set_option maxHeartbeats 8000000 in
theorem works11_any (w : World) : Calls Try.prog 9 #[] w fun e w' => e = .returned (.bool true) ∧ Below w.heap.size w w' := by
  go_enter Try.func9, Try.ntmps9
  go_wp2_with (refine wpList_build_one1 rfl _ _ _ rfl Try.underlying36 1 _ Try.byteInfo (.int .u8 9) rfl rfl rfl ?_)
  apply Stop.go; intro w1 Hg1 Hb1
  go_wp2_with (refine wpList_alloc_row rfl _ rfl _ Try.patchZero ?_)
  apply Stop.go; intro w2 Hg2 Hb2
  go_wp2_with (refine wpList_store_arr rfl _ _ _ rfl _ #[.int .i64 0, .slice (some ⟨w.heap.size, 0, none⟩) 1 1] rfl rfl _ _ Hb2.out Try.patchSize rfl (by simp [Value.oneCell']) ?_)
  apply Stop.go; intro w3 Ho3 Hb3
  have Hp3 := Lib.hid ((Hb1.out.ext Hg2.out.1).only Ho3.out (by have := Hg1.out.2; omega))
  have Hw3 := Lib.hid (bonly (bt Hg1.out.1 Hg2.out.1) Ho3.out Hg1.out.1.size)
  clear Hb1 Hb2 Hg1 Hg2 Ho3
  go_wp2_with (first | refine wpList_load_blk rfl _ _ rfl _ rfl _ _ Hb3.out _ Try.underlying48 rfl Try.patchSize ?_ | refine wpList_build_one1 rfl _ _ _ rfl Try.underlying28 8 _ Try.infoInt (.int .i64 1) rfl rfl rfl ?_)
  apply Stop.go; intro w4 Hg4 Hb4
  have Hb3b := Lib.hid (Hb3.out.ext Hg4.out.1)
  go_wp2_with (refine wpList_build_one1 rfl _ _ _ rfl Try.underlying36 1 _ Try.byteInfo (.int .u8 1) rfl rfl rfl ?_)
  apply Stop.go; intro w5 Hg5 Hb5
  go_wp2_with (refine wpList_build_one1 rfl _ _ _ rfl Try.underlying28 8 _ Try.infoInt (.int .i64 2) rfl rfl rfl ?_)
  apply Stop.go; intro w6 Hg6 Hb6
  go_wp2_with (refine wpList_build_row3 rfl _ _ _ _ _ rfl Try.underlying25 5 72 _ Try.chgInfo (by decide) (by decide) #[.int .i64 1, .int .i64 5, .int .i64 0, .slice (some ⟨w.heap.size, 0, none⟩) 1 1, .slice none 0 0] #[.int .i64 2, .int .i64 6, .int .i64 0, .slice (some ⟨w.heap.size, 0, none⟩) 1 1, .slice (some ⟨w3.heap.size, 0, none⟩) 1 1] #[.int .i64 3, .int .i64 5, .int .i64 4, .slice (some ⟨w4.heap.size, 0, none⟩) 1 1, .slice (some ⟨w5.heap.size, 0, none⟩) 1 1] rfl rfl rfl rfl rfl rfl _ rfl ?_)
  apply Stop.go; intro w7 Hg7 Hb7
  have HL : Hid (RCL w7 (some ⟨w6.heap.size, 0, none⟩) [ez1, ez2, ez3]) := Lib.hid (fun k hk => by
    have p7 := (((Hp3.out.ext Hg4.out.1).ext Hg5.out.1).ext Hg6.out.1).ext Hg7.out.1
    have q7 := ((Hb4.out.ext Hg5.out.1).ext Hg6.out.1).ext Hg7.out.1
    have r7 := (Hb5.out.ext Hg6.out.1).ext Hg7.out.1
    have s7 := Hb6.out.ext Hg7.out.1
    have hk' : k = 0 ∨ k = 1 ∨ k = 2 := by simp at hk; omega
    have b7 := Hb7.out
    rcases hk' with rfl | rfl | rfl
    · exact ⟨_, _, _, _, _, _, rfl, b7.cell 0, b7.cell 1, b7.cell 2, b7.cell 3, b7.cell 4, CV.rcg (c := ez1) (nd := 1) (nn := 0) ⟨by decide, by decide, by decide, by decide, ⟨by decide, by decide, rfl, Nat.le_refl _, by unfold maxLen; omega, RB.of_blk9 p7⟩, rfl, Nat.le_refl _, by unfold maxLen; omega, RC.nil_ _ _, by decide⟩⟩
    · exact ⟨_, _, _, _, _, _, rfl, b7.cell 5, b7.cell 6, b7.cell 7, b7.cell 8, b7.cell 9, CV.rcg (c := ez2) (nd := 1) (nn := 1) ⟨by decide, by decide, by decide, by decide, ⟨by decide, by decide, rfl, Nat.le_refl _, by unfold maxLen; omega, RB.of_blk9 p7⟩, rfl, Nat.le_refl _, by unfold maxLen; omega, RC.of_blk1 q7, by decide⟩⟩
    · exact ⟨_, _, _, _, _, _, rfl, b7.cell 10, b7.cell 11, b7.cell 12, b7.cell 13, b7.cell 14, CV.rcg (c := ez3) (nd := 1) (nn := 1) ⟨by decide, by decide, by decide, by decide, ⟨by decide, by decide, rfl, Nat.le_refl _, by unfold maxLen; omega, RB.of_blk1 r7⟩, rfl, Nat.le_refl _, by unfold maxLen; omega, RC.of_blk1 s7, by decide⟩⟩)
  have Hw7 := Lib.hid (show Below w.heap.size w w7 from Hw3.out.trans ((bt (bt (bt Hg4.out.1 Hg5.out.1) Hg6.out.1) Hg7.out.1).mono Hw3.out.size))
  generalize w6.heap.size = g at *
  clear Hb4 Hg4 Hg5 Hg6 Hg7 Hb3 Hp3 Hb6 Hb5 Hb3b Hb7 Hw3
  have HA := Lib.hid (gAll_any (some ⟨g, 0, none⟩) 3 3 [ez1, ez2, ez3] rfl (by decide) (by decide) (by decide) 3 w7 HL.out.rd)
  have HD := Lib.hid (fun w' (hb : Below w7.heap.size w7 w') => gdepth_any (some ⟨g, 0, none⟩) 3 3 [ez1, ez2, ez3] rfl (by decide) (by decide) (by decide) 3 w' (HL.out.rd.below hb))
  have HP := Lib.hid (fun w' (hb : Below w7.heap.size w7 w') => gplan_any (some ⟨g, 0, none⟩) 3 3 [ez1, ez2, ez3] rfl (by decide) (by decide) (by decide) 3 w' (HL.out.rd.below hb))
  rw [ez_a] at HA
  rw [ez_b] at HD
  rw [ez_c] at HP
  clear HL
  go_wp2_with fail
  refine (HA.out).mono ?_; rintro e w8 ⟨A8, n8, c8, rfl, h1, h2, h3, h4, h5⟩
  obtain rfl : n8 = 3 := h1.symm
  have Hw8 := Lib.hid h5
  have Hi8 := Lib.hid h4
  clear h1 h2 h3 h4 h5
  go_wp2_with (refine wpList_build_three1 rfl _ _ _ _ _ rfl Try.underlying28 8 _ Try.infoInt (.int .i64 1) (.int .i64 2) (.int .i64 3) rfl rfl rfl rfl rfl rfl rfl ?_)
  apply Stop.go; intro w9 Hg9 Hb9
  go_wp2_with fail
  refine (ints_any A8 3 c8 [1, 2, 3] rfl (some ⟨w8.heap.size, 0, none⟩) 3 3 [1, 2, 3] rfl (by decide) (by decide) _ (Hi8.out.below Hg9.out.1) (RC.of_blk3 Hb9.out)).mono ?_; rintro e w10 ⟨rfl, q10, rfl⟩
  rw [show decide (([1, 2, 3] : List Int) = [1, 2, 3]) = true from by decide]
  have Hw10 := Lib.hid (bt (bt Hw8.out Hg9.out.1) (bdrew w9 q10))
  generalize w9.drewN q10 = w10 at *
  clear Hg9 Hb9 Hi8
  go_wp2_with fail
  refine (HD.out _ Hw10.out).mono ?_; rintro e w11 ⟨rfl, h5⟩
  have Hw11 := Lib.hid (bt Hw10.out h5)
  clear h5
  go_wp2_with fail
  refine (HP.out _ Hw11.out).mono ?_; rintro e w12 ⟨A12, n12, c12, rfl, h1, h2, h3, h4, h5⟩
  obtain rfl : n12 = 3 := h1.symm
  have Hw12 := Lib.hid (bt Hw11.out h5)
  have Hi12 := Lib.hid h4
  clear h1 h2 h3 h4 h5
  go_wp2_with (refine wpList_build_three1 rfl _ _ _ _ _ rfl Try.underlying28 8 _ Try.infoInt (.int .i64 5) (.int .i64 6) (.int .i64 5) rfl rfl rfl rfl rfl rfl rfl ?_)
  apply Stop.go; intro w13 Hg13 Hb13
  go_wp2_with fail
  refine (ints_any A12 3 c12 [5, 6, 5] rfl (some ⟨w12.heap.size, 0, none⟩) 3 3 [5, 6, 5] rfl (by decide) (by decide) _ (Hi12.out.below Hg13.out.1) (RC.of_blk3 Hb13.out)).mono ?_; rintro e w14 ⟨rfl, q14, rfl⟩
  rw [show decide (([5, 6, 5] : List Int) = [5, 6, 5]) = true from by decide]
  have Hw14 := Lib.hid (bt (bt Hw12.out Hg13.out.1) (bdrew w13 q14))
  generalize w13.drewN q14 = w14 at *
  go_wp2_with fail
  go_ret
  exact ⟨rfl, bt Hw7.out Hw14.out⟩

end Go.Proofs.Ytmcinaigkjfehaa
