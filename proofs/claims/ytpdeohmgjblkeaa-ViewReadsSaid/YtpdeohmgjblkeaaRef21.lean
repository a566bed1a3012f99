/-
  Contracts of the document's answers of layer 21: Layout, Inode, Used.
-/
import Derived.Test.YtpdeohmgjblkeaaViewA
import Derived.Test.YtpdeohmgjblkeaaGrB
import Derived.Test.YtpdeohmgjblkeaaRef14
import Derived.Test.YtpdeohmgjblkeaaRef15
import Derived.Test.YtpdeohmgjblkeaaRef17
import Derived.Test.YtpdeohmgjblkeaaRef04
namespace Go.Proofs.Ytpdeohmgjblkeaa
open Go.RowKit
set_option maxRecDepth 10000

set_option maxHeartbeats 1600000 in
theorem rlayout_any (A : Option Addr) (n cap : Nat) (L : List (List UInt8)) (hn : L.length = n) (hL : Bks L) (hm : n ≤ maxLen) (w : World) (hr : RK w A L) :
    Calls Try.prog 9 #[.slice A n cap] w fun e w' => e = .returned (.tuple #[.agg (layV L).val, .bool (layW L).isSome]) ∧ Below w.heap.size w w' := by
  unfold maxLen at hm
  have Hn := Lib.hid hn
  have Hr := Lib.hid hr
  have HL := Lib.hid hL
  by_cases h0 : n = 0
  · have H0 := Lib.hid (show layV L = zero14 ∧ layW L = none by unfold layV; rw [layW_nil (hn.trans h0)]; exact ⟨rfl, rfl⟩)
    have d0 : ((n : Int) == 0) = true := by rw [h0]; rfl
    have d1 : (n == 0) = true := by rw [h0]; rfl
    clear hn hr hL h0
    go_enter Try.func9, Try.ntmps9
    go_wp2_with (refine wpList_alloc_row rfl _ rfl _ Try.layZero ?_)
    apply Stop.go; intro w1 Hg1 Hb1
    go_wp2_with (first | refine wpList_store_arr rfl _ _ _ rfl _ zero14.val rfl rfl _ _ Hb1.out Try.laySize rfl (val_one _) ?_)
    apply Stop.go; intro wc Hoc Hbc
    go_wp2_with ((with_reducible show bodyPost _ _ _ _ _ _); refine bodyPost_struct_tmp rfl _ rfl _ _ Hbc.out _ Try.underlying26 rfl Try.laySize rfl _ rfl ?_)
    apply Stop.go
    rw [H0.out.1, H0.out.2]
    exact ⟨⟨rfl, rfl⟩, bonly Hg1.out.1 Hoc.out (Nat.le_refl _)⟩
  · obtain ⟨ad, rfl⟩ := hr.addr (by omega)
    have d0 : ((n : Int) == 0) = false := by simp; omega
    have d1 : (n == 0) = false := by simp; omega
    have p0 : (0 : Int) < (n : Int) := by omega
    have hX : bkV L 0 = L[0]'(by omega) := bkV_at (k := 0) (by omega)
    have HX := Lib.hid (show (bkV L 0).length = 256 from bkV_len hL 0)
    have HRX := Lib.hid (fun w' (h : RK w' (some ad) L) => show RB w' (some ad) (bkV L 0) by
      have := h.at_ hL (k := 0) (by omega)
      rw [Nat.zero_mul, add_nought] at this
      rw [hX]
      exact this)
    have HY1 := Lib.hid (fun h => layW_none (L := L) h)
    have HY2 := Lib.hid (fun l (h : get14 (bkV L 0) = some l) h' => layW_other h h')
    have HY3 := Lib.hid (fun l (h : get14 (bkV L 0) = some l) h' => layW_some (by omega) h h')
    have HGT : Hid (got14 (bkV L 0) = (get14 (bkV L 0)).getD zero14) := Lib.hid rfl
    generalize bkV L 0 = X at *
    clear hn hr hL h0 hX
    go_enter Try.func9, Try.ntmps9
    go_wp2_with (refine wpList_alloc_row rfl _ rfl _ Try.layZero ?_)
    apply Stop.go; intro w1 Hg1 Hb1
    go_wp2_with (refine wpList_slice_ad rfl _ _ rfl 256 _ Try.underlying48 Try.byteSize _ rfl ?_)
    refine (rget14_any (some ad) 256 256 X HX.out HX.out _ (HRX.out _ (Hr.out.below Hg1.out.1))).mono ?_; rintro e w2 ⟨rfl, hb2⟩
    have HR2 := Lib.hid (Hb1.out.ext hb2)
    have E2 := Lib.hid (bt Hg1.out.1 hb2)
    rw [HGT.out]
    clear Hg1 Hb1 hb2 HRX HX Hr
    generalize hgt : get14 X = gt at *
    go_wp2_with (refine wpList_alloc_row rfl _ rfl _ Try.layZero ?_)
    apply Stop.go; intro w3 Hg3 Hb3
    go_wp2_with (refine wpList_store_arr rfl _ _ _ rfl _ (gt.getD zero14).val rfl rfl _ _ Hb3.out Try.laySize rfl (val_one _) ?_)
    apply Stop.go; intro w4 Ho4 Hb4
    have D4 := Lib.hid (bonly Hg3.out.1 Ho4.out (Nat.le_refl _))
    have HR4 := Lib.hid (HR2.out.ext D4.out)
    have E4 := Lib.hid (bt E2.out D4.out)
    have z2 := Lib.hid (show w.heap.size < w2.heap.size from HR2.out.lt)
    generalize w2.heap.size = g2 at *
    clear Hg3 Hb3 Ho4 D4 HR2 E2 HGT
    cases gt with
    | none =>
      have H0 := Lib.hid (show layV L = zero14 ∧ layW L = none by unfold layV; rw [HY1.out rfl]; exact ⟨rfl, rfl⟩)
      clear HY1 HY2 HY3 hgt
      go_wp2_with (first | refine wpList_store_arr rfl _ _ _ rfl _ zero14.val rfl rfl _ _ HR4.out Try.laySize rfl (val_one _) ?_)
      apply Stop.go; intro wc Hoc Hbc
      go_wp2_with ((with_reducible show bodyPost _ _ _ _ _ _); refine bodyPost_struct_tmp rfl _ rfl _ _ Hbc.out _ Try.underlying26 rfl Try.laySize rfl _ rfl ?_)
      apply Stop.go
      rw [H0.out.1, H0.out.2]
      exact ⟨⟨rfl, rfl⟩, bonly E4.out Hoc.out (Nat.le_refl _)⟩
    | some l =>
      have Hb4 : Hid (Blk w4 g2 26 l.val) := Hb4
      have c0 : w4.cell? ⟨g2, 0, none⟩ = some (.int .i64 l.blocks) := Hb4.out.cell 0
      by_cases hbn : l.blocks = (n : Int)
      · have H0 := Lib.hid (show layV L = l ∧ layW L = some l by
          have := HY3.out l rfl (by rw [Hn.out]; exact hbn)
          unfold layV
          rw [this]
          exact ⟨rfl, rfl⟩)
        have d2 : (l.blocks != (n : Int)) = false := by rw [hbn]; simp
        clear HY1 HY2 HY3 hgt hbn
        go_wp2_with (first | refine wpList_load_blk rfl _ _ rfl _ rfl _ _ Hb4.out _ Try.underlying26 rfl Try.laySize ?_ | refine wpList_store_arr rfl _ _ _ rfl _ l.val rfl rfl _ _ HR4.out Try.laySize rfl (val_one _) ?_)
        apply Stop.go; intro wc Hoc Hbc
        go_wp2_with ((with_reducible show bodyPost _ _ _ _ _ _); refine bodyPost_struct_tmp rfl _ rfl _ _ Hbc.out _ Try.underlying26 rfl Try.laySize rfl _ rfl ?_)
        apply Stop.go
        rw [H0.out.1, H0.out.2]
        exact ⟨⟨rfl, rfl⟩, bonly E4.out Hoc.out (Nat.le_refl _)⟩
      · have H0 := Lib.hid (show layV L = zero14 ∧ layW L = none by
          have := HY2.out l rfl (by rw [Hn.out]; exact hbn)
          unfold layV
          rw [this]
          exact ⟨rfl, rfl⟩)
        have d2 : (l.blocks != (n : Int)) = true := by simpa using hbn
        clear HY1 HY2 HY3 hgt hbn
        go_wp2_with (first | refine wpList_store_arr rfl _ _ _ rfl _ zero14.val rfl rfl _ _ HR4.out Try.laySize rfl (val_one _) ?_)
        apply Stop.go; intro wc Hoc Hbc
        go_wp2_with ((with_reducible show bodyPost _ _ _ _ _ _); refine bodyPost_struct_tmp rfl _ rfl _ _ Hbc.out _ Try.underlying26 rfl Try.laySize rfl _ rfl ?_)
        apply Stop.go
        rw [H0.out.1, H0.out.2]
        exact ⟨⟨rfl, rfl⟩, bonly E4.out Hoc.out (Nat.le_refl _)⟩

set_option maxHeartbeats 1600000 in
theorem rino21_any (A : Option Addr) (n cap : Nat) (L : List (List UInt8)) (hn : L.length = n) (hL : Bks L) (hm : n ≤ maxLen) (l : Lay14) (i : Int) (w : World) (hr : RK w A L) :
    Calls Try.prog 14 #[.slice A n cap, .agg l.val, .int .i64 i] w fun e w' => e = .returned (.agg (icells (inoW L l i))) ∧ Below w.heap.size w w' := by
  unfold maxLen at hm
  have Hn := Lib.hid hn
  have Hr := Lib.hid hr
  have HL := Lib.hid hL
  have HFL : Hid (freeI.length = 11) := Lib.hid rfl
  clear hn hr hL
  go_enter Try.func14, Try.ntmps14
  go_wp2_with (refine wpList_box_row rfl _ _ rfl _ rfl ?_)
  apply Stop.go; intro w1 Hg1 Hb1
  go_wp2_with (refine wpList_alloc_row rfl _ rfl _ Try.inoZero ?_)
  apply Stop.go; intro w2 Hg2 Hb2
  have HL2 := Lib.hid (Hb1.out.ext Hg2.out.1)
  have E2 := Lib.hid (bt Hg1.out.1 Hg2.out.1)
  have z2 := Lib.hid (show w.heap.size < w1.heap.size by have := Hg1.out.2; omega)
  generalize w1.heap.size = g1 at *
  clear Hg1 Hb1 Hg2
  go_wp2_with (refine wpList_load_blk rfl _ _ rfl _ rfl _ _ HL2.out _ Try.underlying26 rfl Try.laySize ?_)
  refine (rwhere_any l i _).mono ?_; rintro e w3 ⟨rfl, hb3⟩
  have HR3 := Lib.hid (Hb2.out.ext hb3)
  have E3 := Lib.hid (bt E2.out hb3)
  clear hb3 Hb2 E2 HL2
  cases hi : l.isI i
  · have H0 := Lib.hid (inoW_off (L := L) hi)
    clear hi
    go_wp2_with (refine wpList_store_arr rfl _ _ _ rfl _ (icells freeI) rfl rfl _ _ HR3.out Try.inoSize rfl (oneCell_icells _) ?_)
    apply Stop.go; intro wc Hoc Hbc
    go_wp2_with ((with_reducible show bodyPost _ _ _ _ _ _); refine bodyPost_struct rfl _ rfl _ _ Hbc.out _ Try.underlying43 rfl Try.inoSize rfl ?_)
    apply Stop.go
    rw [H0.out]
    exact ⟨rfl, bonly E3.out Hoc.out (by have := z2.out; omega)⟩
  · by_cases hf : (n : Int) ≤ l.wb i
    · have H0 := Lib.hid (inoW_far (L := L) (l := l) (i := i) (by rw [Hn.out]; exact hf))
      have d0 : decide ((n : Int) ≤ l.wb i) = true := decide_eq_true hf
      clear hi hf
      go_wp2_with (refine wpList_store_arr rfl _ _ _ rfl _ (icells freeI) rfl rfl _ _ HR3.out Try.inoSize rfl (oneCell_icells _) ?_)
      apply Stop.go; intro wc Hoc Hbc
      go_wp2_with ((with_reducible show bodyPost _ _ _ _ _ _); refine bodyPost_struct rfl _ rfl _ _ Hbc.out _ Try.underlying43 rfl Try.inoSize rfl ?_)
      apply Stop.go
      rw [H0.out]
      exact ⟨rfl, bonly E3.out Hoc.out (by have := z2.out; omega)⟩
    · have H0 := Lib.hid (inoW_on (L := L) hi (by rw [Hn.out]; omega))
      have hwb : 0 ≤ l.wb i := by
        unfold Lay14.wb
        rw [hi, if_pos rfl]
        have hI := hi
        unfold Lay14.isI at hI
        rw [Bool.and_eq_true, decide_eq_true_eq] at hI
        omega
      obtain ⟨q, hq⟩ := Int.eq_ofNat_of_zero_le hwb
      rw [hq] at hf H0 ⊢
      have hqn : q < n := by omega
      have HX := Lib.hid (bkV_len HL.out (q : Int))
      obtain ⟨ad, rfl⟩ := Hr.out.addr (by rw [Hn.out]; omega)
      have HRX := Lib.hid (fun w' (h : RK w' (some ad) L) => show RB w' (some (ad.add (q * 256))) (bkV L (q : Int)) by
        have := h.at_ HL.out (k := q) (by rw [Hn.out]; exact hqn)
        rw [bkV_at (by rw [Hn.out]; exact hqn)]
        exact this)
      have d0 : decide ((n : Int) ≤ (q : Int)) = false := decide_eq_false (by omega)
      have d1 : decide (n ≤ q) = false := decide_eq_false (by omega)
      have p0 : (0 : Int) ≤ (q : Int) := by omega
      have p1 : (q : Int) < (n : Int) := by omega
      generalize bkV L (q : Int) = X at *
      have HGL := Lib.hid (getTV_len X (l.wk i))
      clear hi hf hwb hq
      go_wp2_with (refine wpList_slice_ad rfl _ _ rfl 256 _ Try.underlying48 Try.byteSize _ rfl ?_)
      refine (rget17_any (some (ad.add (q * 256))) 256 X HX.out (l.wk i) _ (HRX.out _ (Hr.out.below E3.out))).mono ?_; rintro e w4 ⟨rfl, hb4⟩
      have HR4 := Lib.hid (HR3.out.ext hb4)
      have E4 := Lib.hid (bt E3.out hb4)
      clear hb4 HR3 E3
      go_wp2_with (refine wpList_alloc_row rfl _ rfl _ Try.inoZero ?_)
      apply Stop.go; intro w5 Hg5 Hb5
      go_wp2_with (refine wpList_store_arr rfl _ _ _ rfl _ _ rfl rfl _ _ Hb5.out (Try.inoFits HGL.out) (by simp only [icells_size, HGL.out, HFL.out]) (oneCell_icells _) ?_)
      apply Stop.go; intro w6 Ho6 Hb6
      have D6 := Lib.hid (bonly Hg5.out.1 Ho6.out (Nat.le_refl _))
      have HR6 := Lib.hid (HR4.out.ext D6.out)
      have E6 := Lib.hid (bt E4.out D6.out)
      generalize w4.heap.size = g4 at *
      clear Hg5 Hb5 Ho6 D6 HR4 E4
      go_wp2_with (first | refine wpList_load_blk rfl _ _ rfl _ rfl _ _ Hb6.out _ Try.underlying43 rfl (Try.inoFits HGL.out) ?_ | refine wpList_store_arr rfl _ _ _ rfl _ _ rfl rfl _ _ HR6.out (Try.inoFits HGL.out) (by simp only [icells_size, HGL.out, HFL.out]) (oneCell_icells _) ?_)
      apply Stop.go; intro wc Hoc Hbc
      go_wp2_with ((with_reducible show bodyPost _ _ _ _ _ _); refine bodyPost_struct rfl _ rfl _ _ Hbc.out _ Try.underlying43 rfl (Try.inoFits HGL.out) rfl ?_)
      apply Stop.go
      rw [H0.out]
      exact ⟨rfl, bonly E6.out Hoc.out (by have := z2.out; omega)⟩

theorem rhas_has {b : List UInt8} (hb : b.length = 256) (i : Int) : rhasB b i = hasB b i := by
  unfold rhasB hasB isBitB
  rw [hb]
  rfl
set_option maxHeartbeats 1600000 in
theorem rused_any (A : Option Addr) (n cap : Nat) (L : List (List UInt8)) (hn : L.length = n) (hL : Bks L) (hm : n ≤ maxLen) (h2 : 2 ≤ n) (no : Int) (hno : no < 9223372036854775808) (w : World) (hr : RK w A L) :
    Calls Try.prog 15 #[.slice A n cap, .int .i64 no] w fun e w' => e = .returned (.bool (usedW L no)) ∧ w = w' := by
  unfold maxLen at hm
  have Hn := Lib.hid hn
  have Hr := Lib.hid hr
  by_cases h0 : 0 ≤ no
  · by_cases h1 : no < (n : Int)
    · obtain ⟨ad, rfl⟩ := hr.addr (by omega)
      have HU := Lib.hid (usedW_on (L := L) (no := no) ⟨h0, by rw [hn]; exact h1⟩)
      have HX := Lib.hid (bkV_len hL 1)
      have HRX := Lib.hid (show RB w (some (ad.add 256)) (bkV L 1) by
        have := hr.at_ hL (k := 1) (by omega)
        rw [show bkV L 1 = L[1]'(by omega) from bkV_at (k := 1) (by omega)]
        exact this)
      have d0 : decide (0 ≤ no) = true := decide_eq_true h0
      have d1 : decide (no < (n : Int)) = true := decide_eq_true h1
      have p1 : (1 : Int) < (n : Int) := by omega
      have p2 : decide ((1 : Int) < (n : Int)) = true := decide_eq_true p1
      generalize bkV L 1 = X at *
      clear hn hr hL h0 h1 Hr
      go_enter Try.func15, Try.ntmps15
      go_wp2_with (refine wpList_slice_ad rfl _ _ rfl 256 _ Try.underlying48 Try.byteSize _ rfl ?_)
      refine (rhas_any (some (ad.add 256)) 256 256 X HX.out (by omega) no hno _ HRX.out).mono ?_; rintro e w2 ⟨rfl, rfl⟩
      rw [rhas_has HX.out, ← HU.out]
      go_wp2_with fail
      go_ret
      exact ⟨rfl, rfl⟩
    · have HU := Lib.hid (usedW_off (L := L) (no := no) (by rw [hn]; omega))
      have d0 : decide (0 ≤ no) = true := decide_eq_true h0
      have d1 : decide (no < (n : Int)) = false := decide_eq_false h1
      clear hn hr hL h0 h1
      go_enter Try.func15, Try.ntmps15
      go_wp2_with fail
      go_ret
      rw [HU.out]
      exact ⟨rfl, rfl⟩
  · have HU := Lib.hid (usedW_off (L := L) (no := no) (by omega))
    have d0 : decide (0 ≤ no) = false := decide_eq_false h0
    clear hn hr hL h0
    go_enter Try.func15, Try.ntmps15
    go_wp2_with fail
    go_ret
    rw [HU.out]
    exact ⟨rfl, rfl⟩

end Go.Proofs.Ytpdeohmgjblkeaa
