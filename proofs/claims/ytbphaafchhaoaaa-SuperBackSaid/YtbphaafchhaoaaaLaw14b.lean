/-
  Layer 14: the walks of SuperGets, SuperBack, SuperApart.
-/
import Derived.Test.YtbphaafchhaoaaaLaw14
namespace Go.Proofs.Ytbphaafchhaoaaa
open Go.RowKit

theorem got14_some {L : List UInt8} {l : Lay14} (h : get14 L = some l) : got14 L = l ∧ okSup (get14 L).isSome = 0 := by
  unfold got14
  rw [h]
  exact ⟨rfl, rfl⟩
theorem got14_none {L : List UInt8} (h : get14 L = none) : got14 L = zero14 ∧ okSup (get14 L).isSome = 13 := by
  unfold got14
  rw [h]
  exact ⟨rfl, rfl⟩

theorem Try.a256Size : (Try.prog.info? 25).map (·.size) = some 256 := by kernel_rfl
theorem Try.a256Fits {l : List UInt8} (h : l.length = 256) : (Try.prog.info? 25).map (·.size) = some (bcells l).size := by rw [bcells_size, h]; exact Try.a256Size
set_option maxHeartbeats 1600000 in
theorem superGets_any (L : List UInt8) (hL : L.length = 256) (w : World) :
    Calls Try.prog 4 #[.agg (bcells L)] w fun e w' => e = .returned (.bool true) ∧ Below w.heap.size w w' := by
  have HL := Lib.hid hL
  clear hL
  obtain ⟨q, Hq⟩ : ∃ q, Hid ((get14 L).isSome = q) := ⟨_, Lib.hid rfl⟩
  obtain ⟨S, HS⟩ : ∃ S, Hid (got14 L = S) := ⟨_, Lib.hid rfl⟩
  have HSS := Lib.hid (S.eqB_self)
  go_enter Try.func4, Try.ntmps4
  go_wp2_with (refine wpList_box_row rfl _ _ rfl _ rfl ?_)
  apply Stop.go; intro w1 Hg1 Hb1
  go_wp2_with (refine wpList_load_arr rfl _ _ rfl _ rfl _ _ Hb1.out _ _ Try.underlying25 (Try.a256Fits HL.out) ?_)
  refine (get14c_any L HL.out _).mono ?_; rintro e w2 ⟨rfl, hb2⟩
  rw [HS.out, Hq.out]
  obtain ⟨ev, Hev⟩ : ∃ v, Hid (okSup q = v) := ⟨_, Lib.hid rfl⟩
  rw [Hev.out]
  have E2 := Lib.hid (bt Hg1.out.1 hb2)
  have HX2 := Lib.hid (Hb1.out.ext hb2)
  clear Hg1 Hb1 hb2
  go_wp2_with (refine wpList_alloc_row rfl _ rfl _ Try.layZero ?_)
  apply Stop.go; intro w3 Hg3 Hb3
  go_wp2_with (refine wpList_store_arr rfl _ _ _ rfl _ _ rfl rfl _ _ Hb3.out Try.laySize rfl (val_one _) ?_)
  apply Stop.go; intro w4 Ho4 Hb4
  have E4 := Lib.hid (bonly (bt E2.out Hg3.out.1) Ho4.out E2.out.size)
  have HX4 := Lib.hid ((HX2.out.ext Hg3.out.1).only Ho4.out (Nat.ne_of_lt HX2.out.lt))
  generalize w2.heap.size = g3 at *
  clear E2 HX2 Hg3 Hb3 Ho4
  go_wp2_with (refine wpList_slice_arr_all rfl _ _ rfl _ _ Try.underlying25 Try.byteSize _ rfl (by omega) ?_)
  refine (rget14_any _ _ _ L HL.out HL.out _ (RB.of_blk0 HX4.out)).mono ?_; rintro e w5 ⟨rfl, hb5⟩
  rw [HS.out, Hq.out]
  have E5 := Lib.hid (bt E4.out hb5)
  have HY5 := Lib.hid (Hb4.out.ext hb5)
  clear E4 HX4 Hb4 hb5
  go_wp2_with (refine wpList_alloc_row rfl _ rfl _ Try.layZero ?_)
  apply Stop.go; intro w6 Hg6 Hb6
  go_wp2_with (refine wpList_store_arr rfl _ _ _ rfl _ _ rfl rfl _ _ Hb6.out Try.laySize rfl (val_one _) ?_)
  apply Stop.go; intro w7 Ho7 Hb7
  have E7 := Lib.hid (bonly (bt E5.out Hg6.out.1) Ho7.out E5.out.size)
  have HY7 := Lib.hid ((HY5.out.ext Hg6.out.1).only Ho7.out (Nat.ne_of_lt HY5.out.lt))
  generalize w5.heap.size = g5 at *
  clear E5 HY5 Hg6 Hb6 Ho7
  have hrun := fun w : World => run_eql_lay S S w
  rw [HSS.out] at hrun
  have HR := Lib.hid hrun
  clear hrun
  cases q
  · obtain rfl : ev = 13 := by rw [← Hev.out]; rfl
    go_wp2_with (first | refine wpList_load_blk rfl _ _ rfl _ rfl _ _ Hb7.out _ Try.underlying24 rfl Try.laySize ?_ | refine wpList_load_blk rfl _ _ rfl _ rfl _ _ HY7.out _ Try.underlying24 rfl Try.laySize ?_ | refine wpList_eql_agg rfl _ _ _ _ _ rfl (by kernel_rfl) _ _ rfl rfl _ (HR.out _) ?_)
    refine (works14_any _).mono ?_; rintro e w8 ⟨rfl, hb8⟩
    have E8 := Lib.hid (bt E7.out hb8)
    clear hb8
    go_wp2_with fail
    go_ret
    exact ⟨rfl, E8.out⟩
  · obtain rfl : ev = 0 := by rw [← Hev.out]; rfl
    go_wp2_with (first | refine wpList_load_blk rfl _ _ rfl _ rfl _ _ Hb7.out _ Try.underlying24 rfl Try.laySize ?_ | refine wpList_load_blk rfl _ _ rfl _ rfl _ _ HY7.out _ Try.underlying24 rfl Try.laySize ?_ | refine wpList_eql_agg rfl _ _ _ _ _ rfl (by kernel_rfl) _ _ rfl rfl _ (HR.out _) ?_)
    refine (works14_any _).mono ?_; rintro e w8 ⟨rfl, hb8⟩
    have E8 := Lib.hid (bt E7.out hb8)
    clear hb8
    go_wp2_with fail
    go_ret
    exact ⟨rfl, E8.out⟩

set_option maxHeartbeats 3200000 in
theorem superBack_any (l : Lay14) (hl : l.merge < 18446744073709551616) (k : Nat) (hk : k < 256) (x : UInt8) (w : World) :
    Calls Try.prog 5 #[.agg l.val, .int .u8 (k : Nat), .int .u8 (x.toNat : Int)] w fun e w' => e = .returned (.bool true) ∧ Below w.heap.size w w' := by
  have HLl := Lib.hid hl
  have HPL := Lib.hid l.blk_len
  obtain ⟨b, Hm⟩ : ∃ b, Hid (l.may = b) := ⟨_, Lib.hid rfl⟩
  have HBk := Lib.hid (show l.blk = if b then l.put else zeros 256 by unfold Lay14.blk; rw [Hm.out])
  clear hl
  go_enter Try.func5, Try.ntmps5
  go_wp2_with (refine wpList_box_row rfl _ _ rfl _ rfl ?_)
  apply Stop.go; intro w1 Hg1 Hb1
  go_wp2_with (refine wpList_load_blk rfl _ _ rfl _ rfl _ _ Hb1.out _ Try.underlying24 rfl Try.laySize ?_)
  refine (put14_any l HLl.out _).mono ?_; rintro e w3 ⟨rfl, hb3⟩
  rw [Hm.out]
  have E3 := Lib.hid (bt Hg1.out.1 hb3)
  have HX3 := Lib.hid (Hb1.out.ext hb3)
  clear hb3 Hg1 Hb1
  cases b
  · rw [okArg_false]
    go_wp2_with (first | refine wpList_alloc_row rfl _ rfl _ Try.blockZero ?_ | refine wpList_store_arr rfl _ _ _ rfl _ _ rfl rfl _ _ Hb4.out (Try.blockFits HPL.out) (by rw [bcells_size, bcells_size, HPL.out, zeros_len]) (oneCell_bcells _) ?_)
    apply Stop.go; intro w4 Hg4 Hb4
    go_wp2_with (refine wpList_store_arr rfl _ _ _ rfl _ _ rfl rfl _ _ Hb4.out (Try.blockFits HPL.out) (by rw [bcells_size, bcells_size, HPL.out, zeros_len]) (oneCell_bcells _) ?_)
    apply Stop.go; intro w5 Ho5 Hb5
    have E5 := Lib.hid (bonly (bt E3.out Hg4.out.1) Ho5.out E3.out.size)
    clear Hg4 Hb4 Ho5 E3 HX3 Hb5
    go_wp2_with fail
    refine (works14_any _).mono ?_; rintro e w8 ⟨rfl, hb8⟩
    have E8 := Lib.hid (bt E5.out hb8)
    clear hb8
    go_wp2_with fail
    go_ret
    exact ⟨rfl, E8.out⟩
  · rw [okArg_true]
    have HB1 : Hid (l.blk = l.put) := HBk
    rw [HB1.out] at HPL ⊢
    go_wp2_with (refine wpList_alloc_row rfl _ rfl _ Try.blockZero ?_)
    apply Stop.go; intro w4 Hg4 Hb4
    go_wp2_with (refine wpList_store_arr rfl _ _ _ rfl _ _ rfl rfl _ _ Hb4.out (Try.blockFits HPL.out) (by rw [bcells_size, bcells_size, HPL.out, zeros_len]) (oneCell_bcells _) ?_)
    apply Stop.go; intro w5 Ho5 Hb5
    have E5 := Lib.hid (bonly (bt E3.out Hg4.out.1) Ho5.out E3.out.size)
    have HX5 := Lib.hid ((HX3.out.ext Hg4.out.1).only Ho5.out (Nat.ne_of_lt HX3.out.lt))
    generalize w3.heap.size = g7 at *
    clear Hg4 Hb4 Ho5 E3 HX3
    have HGet := Lib.hid (got14_some (get_put14 Hm.out HLl.out))
    go_wp2_with (refine wpList_load_arr rfl _ _ rfl _ rfl _ _ Hb5.out _ _ Try.underlying26 (Try.blockFits HPL.out) ?_)
    refine (get14c_any l.put HPL.out _).mono ?_; rintro e w6 ⟨rfl, hb6⟩
    rw [HGet.out.1, HGet.out.2]
    have E6 := Lib.hid (bt E5.out hb6)
    have HX6 := Lib.hid (HX5.out.ext hb6)
    have HB6 := Lib.hid (Hb5.out.ext hb6)
    clear hb6 E5 HX5 Hb5
    go_wp2_with (refine wpList_alloc_row rfl _ rfl _ Try.layZero ?_)
    apply Stop.go; intro w7 Hg7 Hb7
    go_wp2_with (refine wpList_store_arr rfl _ _ _ rfl _ _ rfl rfl _ _ Hb7.out Try.laySize rfl (val_one _) ?_)
    apply Stop.go; intro w8 Ho8 Hb8
    have E8 := Lib.hid (bonly (bt E6.out Hg7.out.1) Ho8.out E6.out.size)
    have HX8 := Lib.hid ((HX6.out.ext Hg7.out.1).only Ho8.out (Nat.ne_of_lt HX6.out.lt))
    have HB8 := Lib.hid ((HB6.out.ext Hg7.out.1).only Ho8.out (Nat.ne_of_lt HB6.out.lt))
    generalize w6.heap.size = g9 at *
    clear Hg7 Hb7 Ho8 E6 HX6 HB6
    go_wp2_with (first | refine wpList_load_arr rfl _ _ rfl _ rfl _ _ HB8.out _ _ Try.underlying26 (Try.blockFits HPL.out) ?_ | refine wpList_alloc_row rfl _ rfl _ Try.blockZero ?_)
    apply Stop.go; intro w9 Hg9 Hb9
    go_wp2_with (first | refine wpList_load_arr rfl _ _ rfl _ rfl _ _ HB8.out _ _ Try.underlying26 (Try.blockFits HPL.out) ?_ | refine wpList_store_arr rfl _ _ _ rfl _ _ rfl rfl _ _ Hb9.out (Try.blockFits HPL.out) (by rw [bcells_size, bcells_size, HPL.out, zeros_len]) (oneCell_bcells _) ?_)
    apply Stop.go; intro w10 Ho10 Hb10
    have E10 := Lib.hid (bonly (bt E8.out Hg9.out.1) Ho10.out E8.out.size)
    have HX10 := Lib.hid ((HX8.out.ext Hg9.out.1).only Ho10.out (Nat.ne_of_lt HX8.out.lt))
    have HB10 := Lib.hid ((HB8.out.ext Hg9.out.1).only Ho10.out (Nat.ne_of_lt HB8.out.lt))
    have HY10 := Lib.hid ((Hb8.out.ext Hg9.out.1).only Ho10.out (Nat.ne_of_lt Hb8.out.lt))
    have Z11 := Lib.hid (show w.heap.size ≤ w8.heap.size ∧ w.heap.size ≠ w8.heap.size ∧ g7 ≠ w8.heap.size ∧ g9 ≠ w8.heap.size from ⟨E8.out.size, Nat.ne_of_lt HX8.out.lt, Nat.ne_of_lt HB8.out.lt, Nat.ne_of_lt Hb8.out.lt⟩)
    generalize w8.heap.size = g11 at *
    clear Hg9 Hb9 Ho10 E8 HX8 HB8 Hb8
    have HK := Lib.hid hk
    have d0 : decide ((k : Int) < 256) = true := by simp; omega
    have d1 : decide (0 ≤ (k : Int)) = true := by simp
    go_wp2_with (refine wpList_store_cell rfl _ _ _ rfl Try.byteSize g11 k rfl _ rfl rfl rfl _ _ Hb10.out (by rw [bcells_size, HPL.out]; exact HK.out) ?_)
    apply Stop.go; intro w11 Ho11 Hb11
    have hb11 := Hb11.out
    rw [bcells_set] at hb11
    obtain ⟨L2, HL2⟩ : ∃ L, Hid (l.put.set k x = L) := ⟨_, Lib.hid rfl⟩
    rw [HL2.out] at hb11
    have HN2 := Lib.hid (show L2.length = 256 by rw [← HL2.out, List.length_set]; exact HPL.out)
    have HB11 := Lib.hid hb11
    have E11 := Lib.hid (bonly E10.out Ho11.out Z11.out.1)
    have HX11 := Lib.hid (HX10.out.only Ho11.out Z11.out.2.1)
    have HP11 := Lib.hid (HB10.out.only Ho11.out Z11.out.2.2.1)
    have HY11 := Lib.hid (HY10.out.only Ho11.out Z11.out.2.2.2)
    clear hb11 Hb11 Ho11 Hb10 E10 HX10 HB10 HY10 d0 d1 hk
    obtain ⟨r, Hr⟩ : ∃ r, Hid ((!(L2 == l.put)) = r) := ⟨_, Lib.hid rfl⟩
    obtain ⟨ev, Hev⟩ : ∃ v, Hid (okSup (get14 L2).isSome = v) := ⟨_, Lib.hid rfl⟩
    obtain ⟨M, HMv⟩ : ∃ m, Hid (got14 L2 = m) := ⟨_, Lib.hid rfl⟩
    have HQ : Hid ((ev == 13) = r) := Lib.hid (by
      cases r
      · have e : L2 = l.put := by simpa using Hr.out
        have h := (got14_some (get_put14 Hm.out HLl.out)).2
        rw [← e, Hev.out] at h
        rw [h]
        rfl
      · have h := (got14_none (one_byte14 Hm.out HLl.out HK.out (x := x) (by rw [HL2.out]; simpa using Hr.out))).2
        rw [HL2.out, Hev.out] at h
        rw [h]
        rfl)
    go_wp2_with (refine wpList_load_arr rfl _ _ rfl _ rfl _ _ HB11.out _ _ Try.underlying26 (Try.blockFits HN2.out) ?_)
    refine (get14c_any L2 HN2.out _).mono ?_; rintro e w12 ⟨rfl, hb12⟩
    rw [Hev.out, HMv.out]
    have E12 := Lib.hid (bt E11.out hb12)
    have HX12 := Lib.hid (HX11.out.ext hb12)
    have HP12 := Lib.hid (HP11.out.ext hb12)
    have HY12 := Lib.hid (HY11.out.ext hb12)
    have HB12 := Lib.hid (HB11.out.ext hb12)
    clear hb12 E11 HX11 HP11 HY11 HB11
    go_wp2_with (refine wpList_alloc_row rfl _ rfl _ Try.layZero ?_)
    apply Stop.go; intro w13 Hg13 Hb13
    go_wp2_with (refine wpList_store_arr rfl _ _ _ rfl _ _ rfl rfl _ _ Hb13.out Try.laySize rfl (val_one _) ?_)
    apply Stop.go; intro w14 Ho14 Hb14
    have E14 := Lib.hid (bonly (bt E12.out Hg13.out.1) Ho14.out E12.out.size)
    have HX14 := Lib.hid ((HX12.out.ext Hg13.out.1).only Ho14.out (Nat.ne_of_lt HX12.out.lt))
    have HP14 := Lib.hid ((HP12.out.ext Hg13.out.1).only Ho14.out (Nat.ne_of_lt HP12.out.lt))
    have HY14 := Lib.hid ((HY12.out.ext Hg13.out.1).only Ho14.out (Nat.ne_of_lt HY12.out.lt))
    have HB14 := Lib.hid ((HB12.out.ext Hg13.out.1).only Ho14.out (Nat.ne_of_lt HB12.out.lt))
    generalize w12.heap.size = g12 at *
    clear Hg13 Hb13 Ho14 E12 HX12 HP12 HY12 HB12 Hb14
    go_wp2_with (first | refine wpList_load_blk rfl _ _ rfl _ rfl _ _ HX14.out _ Try.underlying24 rfl Try.laySize ?_ | refine wpList_load_blk rfl _ _ rfl _ rfl _ _ HY14.out _ Try.underlying24 rfl Try.laySize ?_)
    refine (same14_any l l _).mono ?_; rintro e w15 ⟨rfl, hb15⟩
    rw [l.eqB_self]
    have E15 := Lib.hid (bt E14.out hb15)
    have HP15 := Lib.hid (HP14.out.ext hb15)
    have HB15 := Lib.hid (HB14.out.ext hb15)
    clear hb15 E14 HX14 HP14 HY14 HB14
    have hq := HQ.out
    have hrr : (r == r) = true := by simp
    go_wp2_with (first | refine wpList_load_arr rfl _ _ rfl _ rfl _ _ HB15.out _ _ Try.underlying26 (Try.blockFits HN2.out) ?_ | refine wpList_load_arr rfl _ _ rfl _ rfl _ _ HP15.out _ _ Try.underlying26 (Try.blockFits HPL.out) ?_ | refine wpList_neq_arr rfl _ _ _ _ rfl (by kernel_rfl) _ _ Try.underlying26 Try.underlying5 Try.byteSize _ _ rfl rfl HN2.out HPL.out r Hr.out ?_)
    refine (works14_any _).mono ?_; rintro e w16 ⟨rfl, hb16⟩
    have E16 := Lib.hid (bt E15.out hb16)
    clear hb16
    go_wp2_with fail
    go_ret
    exact ⟨rfl, E16.out⟩

theorem puts_eqB {l m : Lay14} (h1 : l.may = true) (hl : l.merge < 18446744073709551616) (h2 : m.may = true) (hm : m.merge < 18446744073709551616) : (l.put == m.put) = l.eqB m := Bool.eq_iff_iff.2 (by
  rw [Lay14.eqB_iff, beq_iff_eq]
  exact ⟨put_inj14 h1 hl h2 hm, fun e => by rw [e]⟩)
set_option maxHeartbeats 3200000 in
theorem superApart_any (l m : Lay14) (hl : l.merge < 18446744073709551616) (hm : m.merge < 18446744073709551616) (w : World) :
    Calls Try.prog 6 #[.agg l.val, .agg m.val] w fun e w' => e = .returned (.bool true) ∧ Below w.heap.size w w' := by
  have HLl := Lib.hid hl
  have HLm := Lib.hid hm
  have HPL := Lib.hid l.blk_len
  have HPM := Lib.hid m.blk_len
  obtain ⟨b, Hb⟩ : ∃ b, Hid (l.may = b) := ⟨_, Lib.hid rfl⟩
  obtain ⟨c, Hc⟩ : ∃ c, Hid (m.may = c) := ⟨_, Lib.hid rfl⟩
  have HKl := Lib.hid (show l.blk = if b then l.put else zeros 256 by unfold Lay14.blk; rw [Hb.out])
  have HKm := Lib.hid (show m.blk = if c then m.put else zeros 256 by unfold Lay14.blk; rw [Hc.out])
  clear hl hm
  go_enter Try.func6, Try.ntmps6
  go_wp2_with (refine wpList_box_row rfl _ _ rfl _ rfl ?_)
  apply Stop.go; intro w1 Hg1 Hb1
  go_wp2_with (refine wpList_box_row rfl _ _ rfl _ rfl ?_)
  apply Stop.go; intro w2 Hg2 Hb2
  have z1 := Lib.hid Hg1.out.2
  have HX2 := Lib.hid (Hb1.out.below Hg2.out.1 (by rw [z1.out]; omega))
  have E2 := Lib.hid (bt Hg1.out.1 Hg2.out.1)
  clear Hb1 Hg1 Hg2
  go_wp2_with (refine wpList_load_blk rfl _ _ rfl _ rfl _ _ HX2.out _ Try.underlying24 rfl Try.laySize ?_)
  refine (put14_any l HLl.out _).mono ?_; rintro e w3 ⟨rfl, hb3⟩
  rw [Hb.out]
  have E3 := Lib.hid (bt E2.out hb3)
  have HX3 := Lib.hid (HX2.out.ext hb3)
  have HY3 := Lib.hid (Hb2.out.ext hb3)
  clear hb3 E2 HX2 Hb2
  go_wp2_with (refine wpList_alloc_row rfl _ rfl _ Try.blockZero ?_)
  apply Stop.go; intro w4 Hg4 Hb4
  go_wp2_with (refine wpList_store_arr rfl _ _ _ rfl _ _ rfl rfl _ _ Hb4.out (Try.blockFits HPL.out) (by rw [bcells_size, bcells_size, HPL.out, zeros_len]) (oneCell_bcells _) ?_)
  apply Stop.go; intro w5 Ho5 Hb5
  have E5 := Lib.hid (bonly (bt E3.out Hg4.out.1) Ho5.out E3.out.size)
  have HX5 := Lib.hid ((HX3.out.ext Hg4.out.1).only Ho5.out (Nat.ne_of_lt HX3.out.lt))
  have HY5 := Lib.hid ((HY3.out.ext Hg4.out.1).only Ho5.out (Nat.ne_of_lt HY3.out.lt))
  generalize w3.heap.size = g5 at *
  generalize w1.heap.size = g3 at *
  clear Hg4 Hb4 Ho5 E3 HX3 HY3 z1
  go_wp2_with (refine wpList_load_blk rfl _ _ rfl _ rfl _ _ HY5.out _ Try.underlying24 rfl Try.laySize ?_)
  refine (put14_any m HLm.out _).mono ?_; rintro e w6 ⟨rfl, hb6⟩
  rw [Hc.out]
  have E6 := Lib.hid (bt E5.out hb6)
  have HX6 := Lib.hid (HX5.out.ext hb6)
  have HY6 := Lib.hid (HY5.out.ext hb6)
  have HP6 := Lib.hid (Hb5.out.ext hb6)
  clear hb6 E5 HX5 HY5 Hb5
  go_wp2_with (refine wpList_alloc_row rfl _ rfl _ Try.blockZero ?_)
  apply Stop.go; intro w7 Hg7 Hb7
  go_wp2_with (refine wpList_store_arr rfl _ _ _ rfl _ _ rfl rfl _ _ Hb7.out (Try.blockFits HPM.out) (by rw [bcells_size, bcells_size, HPM.out, zeros_len]) (oneCell_bcells _) ?_)
  apply Stop.go; intro w8 Ho8 Hb8
  have E8 := Lib.hid (bonly (bt E6.out Hg7.out.1) Ho8.out E6.out.size)
  have HX8 := Lib.hid ((HX6.out.ext Hg7.out.1).only Ho8.out (Nat.ne_of_lt HX6.out.lt))
  have HY8 := Lib.hid ((HY6.out.ext Hg7.out.1).only Ho8.out (Nat.ne_of_lt HY6.out.lt))
  have HP8 := Lib.hid ((HP6.out.ext Hg7.out.1).only Ho8.out (Nat.ne_of_lt HP6.out.lt))
  generalize w6.heap.size = g7 at *
  clear Hg7 Hb7 Ho8 E6 HX6 HY6 HP6
  cases b
  · rw [okArg_false]
    go_wp2_with fail
    refine (works14_any _).mono ?_; rintro e w9 ⟨rfl, hb9⟩
    have E9 := Lib.hid (bt E8.out hb9)
    clear hb9
    go_wp2_with fail
    go_ret
    exact ⟨rfl, E9.out⟩
  cases c
  · rw [okArg_false, okArg_true]
    go_wp2_with fail
    refine (works14_any _).mono ?_; rintro e w9 ⟨rfl, hb9⟩
    have E9 := Lib.hid (bt E8.out hb9)
    clear hb9
    go_wp2_with fail
    go_ret
    exact ⟨rfl, E9.out⟩
  · rw [okArg_true]
    have HB1 : Hid (l.blk = l.put) := HKl
    have HB2 : Hid (m.blk = m.put) := HKm
    rw [HB1.out] at HP8 HPL ⊢
    rw [HB2.out] at Hb8 HPM ⊢
    obtain ⟨r, Hr⟩ : ∃ r, Hid (l.eqB m = r) := ⟨_, Lib.hid rfl⟩
    have HR := Lib.hid (show (l.put == m.put) = r by rw [puts_eqB Hb.out HLl.out Hc.out HLm.out, Hr.out])
    have hrr : (r == r) = true := by simp
    go_wp2_with fail
    refine WH.start (S := fun w' : World => (Blk w' g5 26 (bcells l.put) ∧ Blk w' g7 26 (bcells m.put)) ∧ (Blk w' w.heap.size 24 l.val ∧ Blk w' g3 24 m.val)) [false, false, false, false, false, false, false, false, false, false, false] 11 rfl rfl (by kernel_rfl) ⟨⟨HP8.out.ext (bdrew w8 1), Hb8.out.ext (bdrew w8 1)⟩, ⟨HX8.out.ext (bdrew w8 1), HY8.out.ext (bdrew w8 1)⟩⟩ (fun hSn => ?_); obtain ⟨wS, hwS⟩ : ∃ x, (w8).drew = x := ⟨_, rfl⟩; have HE := Lib.hid (show Below (w8).heap.size (w8) wS from hwS ▸ bdrew w8 1); rw [hwS] at hSn ⊢; clear hwS
    refine WH.tv 0 rfl (fun w' hSw => run_load_arr _ _ rfl _ rfl _ _ (hSw.1.1) _ _ (Try.underlying26) (Try.blockFits HPL.out)) ?_; simp only [setL]
    refine WH.tv 1 rfl (fun w' hSw => run_load_arr _ _ rfl _ rfl _ _ (hSw.1.2) _ _ (Try.underlying26) (Try.blockFits HPM.out)) ?_; simp only [setL]
    refine WH.tv 2 rfl (fun w' hSw => exec_eql_agg _ _ _ _ _ rfl (by kernel_rfl) _ _ rfl rfl (.bool r) (by rw [← HR.out]; exact run_eql_bytes w' _ _ _ Try.underlying26 Try.underlying5 (sizeOf_of Try.byteSize) l.put m.put HPL.out HPM.out)) ?_; simp only [setL]
    refine WH.tv 3 rfl (fun w' hSw => exec_load_blk _ _ rfl _ rfl _ _ (hSw.2.1) _ (Try.underlying24) rfl (Try.laySize)) ?_; simp only [setL]
    refine WH.tv 4 rfl (fun w' hSw => exec_load_blk _ _ rfl _ rfl _ _ (hSw.2.2) _ (Try.underlying24) rfl (Try.laySize)) ?_; simp only [setL]
    refine WH.only 5 _ rfl (by kernel_rfl) rfl (fun K hK => ?_)
    go_simp; refine (same14_any l m _).mono ?_; rintro e wa ⟨rfl, hba⟩; go_simp
    rw [Hr.out]
    have HE := Lib.hid (bt HE.out hba)
    have hSn := And.intro (And.intro (hSn.1.1.ext hba) (hSn.1.2.ext hba)) (And.intro (hSn.2.1.ext hba) (hSn.2.2.ext hba)); refine hK _ _ hSn ?_; clear hK; clear K; simp only [setL]
    refine WH.tk 6 ?_; simp only [setL]
    refine WH.tk 7 ?_; simp only [setL]
    refine WH.only 8 _ rfl (by kernel_rfl) rfl (fun K hK => ?_)
    go_simp; refine (works14_any _).mono ?_; rintro e wb ⟨rfl, hbb⟩; go_simp
    have HE := Lib.hid (bt HE.out hbb)
    have hSn := And.intro (And.intro (hSn.1.1.ext hbb) (hSn.1.2.ext hbb)) (And.intro (hSn.2.1.ext hbb) (hSn.2.2.ext hbb)); refine hK _ _ hSn ?_; clear hK; clear K; simp only [setL]
    refine WH.tk 9 ?_; simp only [setL]
    refine WH.tk 10 ?_; simp only [setL]
    refine WH.done (by kernel_rfl) ?_
    go_wp2_with fail
    go_ret
    exact ⟨rfl, bt E8.out HE.out⟩

end Go.Proofs.Ytbphaafchhaoaaa
