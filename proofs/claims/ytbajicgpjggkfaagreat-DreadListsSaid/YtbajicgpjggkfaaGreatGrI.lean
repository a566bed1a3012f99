/-
  Texts of this claim joined: Ref04, Ref21, Ref20.
-/
import Derived.Test.YtbajicgpjggkfaaGreatGrV
import Derived.Test.YtbajicgpjggkfaaGreatGrD
import Derived.Test.YtbajicgpjggkfaaGreatGrE
import Derived.Test.YtbajicgpjggkfaaGreatGrG
import Derived.Test.YtbajicgpjggkfaaGreatGrH
import Derived.Test.YtbajicgpjggkfaaGreatGrEE
import Derived.Test.YtbajicgpjggkfaaGreatGrX

/-
  Contracts of the document's answers 04: Has, Bits, Block.
-/
namespace Go.Proofs.YtbajicgpjggkfaaGreat
open Go.RowKit

theorem Tryz.boolInfo : (Tryz.prog.info? 4).map (fun i => (i.zero, i.size, i.bytes)) = some (some (.bool false), 1, 1) := by kernel_rfl

theorem Tryz.boolSize : (Tryz.prog.info? 4).map (·.size) = some 1 := by kernel_rfl

/-! Halving, as whole numbers. -/
theorem half_next (x k : Nat) : ((x / 2 ^ k : Nat) : Int) / 2 = ((x / 2 ^ (k + 1) : Nat) : Int) := by
  rw [Nat.pow_succ, ← Nat.div_div_eq_div_mul]
  omega
theorem half_bit (x k : Nat) : (((x / 2 ^ k : Nat) : Int) % 2 == 1) = x.testBit k := by
  rw [← bit_half]
  generalize x / 2 ^ k = y
  rw [Bool.eq_iff_iff]
  simp only [beq_iff_eq, decide_eq_true_eq]
  omega
theorem half_lt (x k : Nat) (h : x < 256) : x / 2 ^ k < 256 := Nat.lt_of_le_of_lt (Nat.div_le_self _ _) h




end Go.Proofs.YtbajicgpjggkfaaGreat

/-
  Contracts of the document's answers of layer 21: Layout, Inode, Used.
-/
namespace Go.Proofs.YtbajicgpjggkfaaGreat
open Go.RowKit
set_option maxRecDepth 10000

set_option maxHeartbeats 1600000 in
theorem rlayout_any (A : Option Addr) (n cap : Nat) (L : List (List UInt8)) (hn : L.length = n) (hL : Bks L) (hm : n ≤ maxLen) (w : World) (hr : RK w A L) :
    Calls Tryz.prog 9 #[.slice A n cap] w fun e w' => e = .returned (.tuple #[.agg (layV L).val, .bool (layW L).isSome]) ∧ Below w.heap.size w w' := by
  unfold maxLen at hm
  have Hn := Lib.hid hn
  have Hr := Lib.hid hr
  have HL := Lib.hid hL
  by_cases h0 : n = 0
  · have H0 := Lib.hid (show layV L = zero14 ∧ layW L = none by unfold layV; rw [layW_nil (hn.trans h0)]; exact ⟨rfl, rfl⟩)
    have d0 : ((n : Int) == 0) = true := by rw [h0]; rfl
    have d1 : (n == 0) = true := by rw [h0]; rfl
    clear hn hr hL h0
    go_enter Tryz.func9, Tryz.ntmps9
    go_wp2_with (refine wpList_alloc_row rfl _ rfl _ Tryz.layZero ?_)
    apply Stop.go; intro w1 Hg1 Hb1
    go_wp2_with (first | refine wpList_store_arr rfl _ _ _ rfl _ zero14.val rfl rfl _ _ Hb1.out Tryz.laySize rfl (val_one _) ?_)
    apply Stop.go; intro wc Hoc Hbc
    go_wp2_with ((with_reducible show bodyPost _ _ _ _ _ _); refine bodyPost_struct_tmp rfl _ rfl _ _ Hbc.out _ Tryz.underlying26 rfl Tryz.laySize rfl _ rfl ?_)
    apply Stop.go
    rw [H0.out.1, H0.out.2]
    exact ⟨⟨rfl, rfl⟩, bonly Hg1.out.1 Hoc.out (Nat.le_refl _)⟩
  · obtain ⟨ad, rfl⟩ := hr.addr (by omega)
    have d0 : ((n : Int) == 0) = false := by simp; omega
    have d1 : (n == 0) = false := by simp; omega
    have p0 : (0 : Int) < (n : Int) := by omega
    have hX : bkV L 0 = L[0]'(by omega) := bkV_at (k := 0) (by omega)
    have HX := Lib.hid (show (bkV L 0).length = 256 from bkV_len hL 0)
    have HRX := Lib.hid (fun w' (h : RK w' (some ad) L) => show RB w' (some ad) (bkV L 0) by
      have := h.at_ hL (k := 0) (by omega)
      rw [Nat.zero_mul, add_nought] at this
      rw [hX]
      exact this)
    have HY1 := Lib.hid (fun h => layW_none (L := L) h)
    have HY2 := Lib.hid (fun l (h : get14 (bkV L 0) = some l) h' => layW_other h h')
    have HY3 := Lib.hid (fun l (h : get14 (bkV L 0) = some l) h' => layW_some (by omega) h h')
    have HGT : Hid (got14 (bkV L 0) = (get14 (bkV L 0)).getD zero14) := Lib.hid rfl
    generalize bkV L 0 = X at *
    clear hn hr hL h0 hX
    go_enter Tryz.func9, Tryz.ntmps9
    go_wp2_with (refine wpList_alloc_row rfl _ rfl _ Tryz.layZero ?_)
    apply Stop.go; intro w1 Hg1 Hb1
    go_wp2_with (refine wpList_slice_ad rfl _ _ rfl 256 _ Tryz.underlying76 Tryz.byteSize _ rfl ?_)
    refine (rget14_any (some ad) 256 256 X HX.out HX.out _ (HRX.out _ (Hr.out.below Hg1.out.1))).mono ?_; rintro e w2 ⟨rfl, hb2⟩
    have HR2 := Lib.hid (Hb1.out.ext hb2)
    have E2 := Lib.hid (bt Hg1.out.1 hb2)
    rw [HGT.out]
    clear Hg1 Hb1 hb2 HRX HX Hr
    generalize hgt : get14 X = gt at *
    go_wp2_with (refine wpList_alloc_row rfl _ rfl _ Tryz.layZero ?_)
    apply Stop.go; intro w3 Hg3 Hb3
    go_wp2_with (refine wpList_store_arr rfl _ _ _ rfl _ (gt.getD zero14).val rfl rfl _ _ Hb3.out Tryz.laySize rfl (val_one _) ?_)
    apply Stop.go; intro w4 Ho4 Hb4
    have D4 := Lib.hid (bonly Hg3.out.1 Ho4.out (Nat.le_refl _))
    have HR4 := Lib.hid (HR2.out.ext D4.out)
    have E4 := Lib.hid (bt E2.out D4.out)
    have z2 := Lib.hid (show w.heap.size < w2.heap.size from HR2.out.lt)
    generalize w2.heap.size = g2 at *
    clear Hg3 Hb3 Ho4 D4 HR2 E2 HGT
    cases gt with
    | none =>
      have H0 := Lib.hid (show layV L = zero14 ∧ layW L = none by unfold layV; rw [HY1.out rfl]; exact ⟨rfl, rfl⟩)
      clear HY1 HY2 HY3 hgt
      go_wp2_with (first | refine wpList_store_arr rfl _ _ _ rfl _ zero14.val rfl rfl _ _ HR4.out Tryz.laySize rfl (val_one _) ?_)
      apply Stop.go; intro wc Hoc Hbc
      go_wp2_with ((with_reducible show bodyPost _ _ _ _ _ _); refine bodyPost_struct_tmp rfl _ rfl _ _ Hbc.out _ Tryz.underlying26 rfl Tryz.laySize rfl _ rfl ?_)
      apply Stop.go
      rw [H0.out.1, H0.out.2]
      exact ⟨⟨rfl, rfl⟩, bonly E4.out Hoc.out (Nat.le_refl _)⟩
    | some l =>
      have Hb4 : Hid (Blk w4 g2 26 l.val) := Hb4
      have c0 : w4.cell? ⟨g2, 0, none⟩ = some (.int .i64 l.blocks) := Hb4.out.cell 0
      by_cases hbn : l.blocks = (n : Int)
      · have H0 := Lib.hid (show layV L = l ∧ layW L = some l by
          have := HY3.out l rfl (by rw [Hn.out]; exact hbn)
          unfold layV
          rw [this]
          exact ⟨rfl, rfl⟩)
        have d2 : (l.blocks != (n : Int)) = false := by rw [hbn]; simp
        clear HY1 HY2 HY3 hgt hbn
        go_wp2_with (first | refine wpList_load_blk rfl _ _ rfl _ rfl _ _ Hb4.out _ Tryz.underlying26 rfl Tryz.laySize ?_ | refine wpList_store_arr rfl _ _ _ rfl _ l.val rfl rfl _ _ HR4.out Tryz.laySize rfl (val_one _) ?_)
        apply Stop.go; intro wc Hoc Hbc
        go_wp2_with ((with_reducible show bodyPost _ _ _ _ _ _); refine bodyPost_struct_tmp rfl _ rfl _ _ Hbc.out _ Tryz.underlying26 rfl Tryz.laySize rfl _ rfl ?_)
        apply Stop.go
        rw [H0.out.1, H0.out.2]
        exact ⟨⟨rfl, rfl⟩, bonly E4.out Hoc.out (Nat.le_refl _)⟩
      · have H0 := Lib.hid (show layV L = zero14 ∧ layW L = none by
          have := HY2.out l rfl (by rw [Hn.out]; exact hbn)
          unfold layV
          rw [this]
          exact ⟨rfl, rfl⟩)
        have d2 : (l.blocks != (n : Int)) = true := by simpa using hbn
        clear HY1 HY2 HY3 hgt hbn
        go_wp2_with (first | refine wpList_store_arr rfl _ _ _ rfl _ zero14.val rfl rfl _ _ HR4.out Tryz.laySize rfl (val_one _) ?_)
        apply Stop.go; intro wc Hoc Hbc
        go_wp2_with ((with_reducible show bodyPost _ _ _ _ _ _); refine bodyPost_struct_tmp rfl _ rfl _ _ Hbc.out _ Tryz.underlying26 rfl Tryz.laySize rfl _ rfl ?_)
        apply Stop.go
        rw [H0.out.1, H0.out.2]
        exact ⟨⟨rfl, rfl⟩, bonly E4.out Hoc.out (Nat.le_refl _)⟩



end Go.Proofs.YtbajicgpjggkfaaGreat

/-
  Contracts of the document's answers of layer 20: Numbers, Fine, Block, Below.
-/
namespace Go.Proofs.YtbajicgpjggkfaaGreat
open Go.RowKit

theorem Tryz.intSz20 : (Tryz.prog.info? 3).map (·.size) = some 1 := by kernel_rfl





end Go.Proofs.YtbajicgpjggkfaaGreat
