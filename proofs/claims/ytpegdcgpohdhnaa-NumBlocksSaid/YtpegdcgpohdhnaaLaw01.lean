import Derived.Test.YtpegdcgpohdhnaaRef01
namespace Go.Proofs.Ytpegdcgpohdhnaa
open Go.RowKit

theorem works01_put : putL [0, 0, 0] 1 2 258 = [0, 2, 1] := by decide
theorem works01_at : getN (layL (zeros 256) 0 [1, 1]) 0 2 4 = 257 := by kernel_rfl
set_option maxHeartbeats 800000 in
theorem works01_any (w : World) : Calls Try.prog 7 #[] w fun e w' => e = .returned (.bool true) ∧ Below w.heap.size w w' := by
  have hfit : fitsB 3 1 2 8 = true := by decide
  go_enter Try.func7, Try.ntmps7
  go_wp2_with fail
  have B1 : Hid (Blk (w.alloc (.cells #[.int .u8 0, .int .u8 0, .int .u8 0] 5)) w.heap.size 5 (bcells [0, 0, 0])) := Lib.hid (Blk.new w _ _)
  have G1 := Lib.hid (Grew.alloc w (.cells #[.int .u8 0, .int .u8 0, .int .u8 0] 5))
  generalize w.alloc (.cells #[.int .u8 0, .int .u8 0, .int .u8 0] 5) = w1 at *
  refine (put_any _ _ _ [0, 0, 0] rfl (by simp) _ _ 258 (by omega) _ (RB.of_blk0 B1.out)).mono ?_; rintro e w2 ⟨A2, n2, c2, rfl, hl2, hc2, hm2, hr2, hb2⟩
  rw [works01_put] at hl2 hr2
  have Hl2 := Lib.hid hl2
  have Hr2 := Lib.hid hr2
  have Hb2 := Lib.hid hb2
  have Hm2 := Lib.hid hm2
  clear hl2 hr2 hb2 hm2
  go_wp2_with fail
  have B3 : Hid (Blk (w2.alloc (.cells #[.int .u8 0, .int .u8 2, .int .u8 1] 5)) w2.heap.size 5 (bcells [0, 2, 1])) := Lib.hid (Blk.new w2 _ _)
  have G3 := Lib.hid (Grew.alloc w2 (.cells #[.int .u8 0, .int .u8 2, .int .u8 1] 5))
  generalize w2.alloc (.cells #[.int .u8 0, .int .u8 2, .int .u8 1] 5) = w3 at *
  refine (same_any _ _ _ [0, 2, 1] Hl2.out _ _ _ [0, 2, 1] rfl (Nat.le_trans hc2 Hm2.out) (by simp [maxLen]) _ (Hr2.out.below G3.out.1) (RB.of_blk0 B3.out)).mono ?_; rintro e w4 ⟨rfl, k4, rfl⟩
  go_wp2_with fail
  have B5 : Hid (Blk ((w3.drewN k4).alloc (.cells #[.int .u8 1, .int .u8 1] 5)) (w3.drewN k4).heap.size 5 (bcells [1, 1])) := Lib.hid (Blk.new _ _ _)
  have G5 := Lib.hid (Grew.alloc (w3.drewN k4) (.cells #[.int .u8 1, .int .u8 1] 5))
  generalize (w3.drewN k4).alloc (.cells #[.int .u8 1, .int .u8 1] 5) = w5 at *
  refine (of_any _ _ _ [1, 1] rfl _ (RB.of_blk0 B5.out)).mono ?_; rintro e w6 ⟨rfl, hb6⟩
  have Hb6 := Lib.hid hb6
  clear hb6
  go_wp2_with fail
  refine (at_any _ (layL_len _ _ _ (zeros_len _)) _ _ _).mono ?_; rintro e w7 ⟨rfl, hb7⟩
  rw [works01_at]
  have Hb7 := Lib.hid hb7
  clear hb7
  go_wp2_with fail
  go_ret
  refine ⟨rfl, ?_⟩
  have z1 := G1.out.2
  have z2 := Hb2.out.size
  have z3 := G3.out.2
  have z5 := G5.out.2
  have z6 := Hb6.out.size
  have b4 : Below w3.heap.size w3 (w3.drewN k4) := ⟨rfl, rfl, rfl, Nat.le_refl _, fun _ _ => rfl⟩
  have z4 : (w3.drewN k4).heap.size = w3.heap.size := rfl
  exact (((((G1.out.1.trans (Hb2.out.mono (by omega))).trans (G3.out.1.mono (by omega))).trans (b4.mono (by omega))).trans (G5.out.1.mono (by omega))).trans (Hb6.out.mono (by omega))).trans (Hb7.out.mono (by omega))

set_option maxHeartbeats 1000000 in
theorem numLists_any (A : Option Addr) (n cap : Nat) (l : List UInt8) (hn : l.length = n) (hc : n ≤ cap) (hm : cap ≤ maxLen) (a wd : Int) (ha : -9223372036854775808 ≤ a) (v : Nat) (hv : v < 18446744073709551616) (w : World) (hr : RB w A l) :
    Calls Try.prog 3 #[.slice A n cap, .agg #[.int .i64 a, .int .i64 wd], .int .u64 v] w fun e w' => e = .returned (.bool true) ∧ Below w.heap.size w w' := by
  have Hn := Lib.hid hn
  have Hm := Lib.hid hm
  clear hn hm
  by_cases h6 : n ≤ 600
  · have d1 : decide ((600 : Int) < n) = false := by simp; omega
    go_enter Try.func3, Try.ntmps3
    go_wp2_with fail
    have B1 : Hid (Blk (w.alloc (.cells #[.int .i64 a, .int .i64 wd] 23)) w.heap.size 23 #[.int .i64 a, .int .i64 wd]) := Lib.hid (Blk.new _ _ _)
    have G1 := Lib.hid (Grew.alloc w (.cells #[.int .i64 a, .int .i64 wd] 23))
    generalize w.alloc (.cells #[.int .i64 a, .int .i64 wd] 23) = w1 at *
    have c0 : w1.cell? ⟨w.heap.size, 0, none⟩ = some (.int .i64 a) := B1.out.cell 0
    have c1 : w1.cell? ⟨w.heap.size, 1, none⟩ = some (.int .i64 wd) := B1.out.cell 1
    have Hr1 := Lib.hid (hr.below G1.out.1)
    refine (get_any _ _ _ l Hn.out hc Hm.out _ _ _ Hr1.out).mono ?_; rintro e wx ⟨rfl, rfl⟩
    generalize hX : getN l a wd 8 = X at *
    have HX := Lib.hid hX
    clear hX
    generalize hF : fitsB n a wd 8 = F at *
    have HF := Lib.hid hF
    clear hF
    go_wp2_with fail
    refine (rget_any _ _ _ l Hn.out (Nat.le_trans hc Hm.out) _ _ _ Hr1.out).mono ?_; rintro e wx ⟨rfl, rfl⟩
    rw [HX.out, HF.out]
    go_wp2_with fail
    refine (put_any _ _ _ l Hn.out (by omega) _ _ v hv _ Hr1.out).mono ?_; rintro e w2 ⟨A2, n2, cp2, rfl, hl2, hc2, hm2, hr2, hb2⟩
    rw [HF.out]
    have Hl2 := Lib.hid hl2
    have Hr2 := Lib.hid hr2
    have Hb2 := Lib.hid hb2
    have Hm2 := Lib.hid hm2
    clear hl2 hr2 hb2 hm2 c0 c1
    have B2 := Lib.hid (B1.out.below Hb2.out (by rw [G1.out.2]; omega))
    have c0 : w2.cell? ⟨w.heap.size, 0, none⟩ = some (.int .i64 a) := B2.out.cell 0
    have c1 : w2.cell? ⟨w.heap.size, 1, none⟩ = some (.int .i64 wd) := B2.out.cell 1
    go_wp2_with fail
    refine (rput_any _ _ _ l Hn.out (by omega) _ _ v hv _ (Hr1.out.below Hb2.out)).mono ?_; rintro e w3 ⟨A3, n3, cp3, rfl, hl3, hc3, hm3, hr3, hb3⟩
    rw [HF.out]
    have Hl3 := Lib.hid hl3
    have Hr3 := Lib.hid hr3
    have Hb3 := Lib.hid hb3
    have Hm3 := Lib.hid hm3
    clear hl3 hr3 hb3 hm3 c0 c1
    go_wp2_with fail
    refine (same_any _ _ _ _ Hl2.out _ _ _ _ Hl3.out (Nat.le_trans hc2 Hm2.out) (Nat.le_trans hc3 Hm3.out) _ (Hr2.out.below Hb3.out) Hr3.out).mono ?_; rintro e w4 ⟨rfl, k4, rfl⟩
    go_wp2_with fail
    refine (works01_any _).mono ?_; rintro e w5 ⟨rfl, hb5⟩
    have Hb5 := Lib.hid hb5
    clear hb5
    go_wp2_with fail
    go_ret
    refine ⟨rfl, ?_⟩
    have z1 := G1.out.2
    have z2 := Hb2.out.size
    have z3 := Hb3.out.size
    have b4 : Below w3.heap.size w3 (w3.drewN k4) := ⟨rfl, rfl, rfl, Nat.le_refl _, fun _ _ => rfl⟩
    have z4 : (w3.drewN k4).heap.size = w3.heap.size := rfl
    exact (((G1.out.1.trans (Hb2.out.mono (by omega))).trans (Hb3.out.mono (by omega))).trans (b4.mono (by omega))).trans (Hb5.out.mono (by omega))
  · have d1 : decide ((600 : Int) < n) = true := by simp; omega
    go_enter Try.func3, Try.ntmps3
    go_wp2_with fail
    have G1 := Lib.hid (Grew.alloc w (.cells #[.int .i64 a, .int .i64 wd] 23))
    generalize w.alloc (.cells #[.int .i64 a, .int .i64 wd] 23) = w1 at *
    refine (works01_any _).mono ?_; rintro e w2 ⟨rfl, hb1⟩
    have Hb1 := Lib.hid hb1
    clear hb1
    go_wp2_with fail
    go_ret
    exact ⟨rfl, G1.out.1.trans (Hb1.out.mono (by rw [G1.out.2]; omega))⟩

end Go.Proofs.Ytpegdcgpohdhnaa
