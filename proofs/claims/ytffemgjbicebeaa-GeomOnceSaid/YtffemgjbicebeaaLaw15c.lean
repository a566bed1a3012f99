/-
  Layer 15: the walk of GeomOnce.
-/
import Derived.Test.YtffemgjbicebeaaLaw15
namespace Go.Proofs.Ytffemgjbicebeaa
open Go.RowKit

/-- The marks after n inodes, row by row: those of the places from 16 on. -/
def seenA (n : Nat) : Array Value := ((List.range 4096).map fun j => Value.bool (decide (16 ≤ j ∧ j < 16 + n))).toArray
theorem seenA_size (n : Nat) : (seenA n).size = 4096 := by simp [seenA]
theorem seenA_get (n j : Nat) (h : j < 4096) : (seenA n)[j]? = some (.bool (decide (16 ≤ j ∧ j < 16 + n))) := by
  simp only [seenA, List.getElem?_toArray, List.getElem?_map, List.getElem?_range h, Option.map_some]
theorem seenA_none (n j : Nat) (h : 4096 ≤ j) : (seenA n)[j]? = none := Array.getElem?_eq_none (by rw [seenA_size]; exact h)
theorem seenA_zero : (List.replicate 4096 (Value.bool false)).toArray = seenA 0 := by
  apply Array.ext_getElem?
  intro j
  rcases Nat.lt_or_ge j 4096 with h | h
  · rw [seenA_get _ _ h, decide_eq_false (by omega), List.getElem?_toArray, List.getElem?_replicate, if_pos h]
  · rw [seenA_none _ _ h, List.getElem?_toArray, List.getElem?_replicate, if_neg (by omega)]
theorem seenA_set (n j : Nat) (hj : j = 16 + n) (h : j < 4096) : (seenA n).setIfInBounds j (.bool true) = seenA (n + 1) := by
  apply Array.ext_getElem?
  intro i
  rw [Array.getElem?_setIfInBounds]
  rcases Nat.lt_or_ge i 4096 with hi | hi
  · rw [seenA_get _ _ hi, seenA_get _ _ hi]
    by_cases e : j = i
    · rw [if_pos e, if_pos (by rw [seenA_size]; exact h), decide_eq_true (by omega)]
    · rw [if_neg e]
      exact congrArg (fun b => some (Value.bool b)) (decide_eq_decide.2 (by omega))
  · rw [seenA_none _ _ hi, seenA_none _ _ hi, if_neg (by omega)]

theorem Try.seenNone : (Try.prog.info? 42).map (·.zero) = some (some (.agg (List.replicate 4096 (Value.bool false)).toArray)) := by kernel_rfl
theorem Try.seenZero : (Try.prog.info? 42).map (·.zero) = some (some (.agg (seenA 0))) := by
  rw [← seenA_zero]
  exact Try.seenNone
theorem Try.boolSize : (Try.prog.info? 4).map (·.size) = some 1 := by kernel_rfl
theorem Try.rowSize : (Try.prog.info? 41).map (·.size) = some 8 := by kernel_rfl
set_option maxRecDepth 100000 in
set_option maxHeartbeats 3200000 in
theorem geomOnce_any (l : Lay14) (w : World) :
    Calls Try.prog 5 #[.agg l.val] w fun e w' => e = .returned (.bool true) ∧ Below w.heap.size w w' := by
  obtain ⟨b, Hm⟩ : ∃ b, Hid (l.may = b) := ⟨_, Lib.hid rfl⟩
  go_enter Try.func5, Try.ntmps5
  go_wp2_with (refine wpList_box_row rfl _ _ rfl _ rfl ?_)
  apply Stop.go; intro w1 Hg1 Hb1
  go_wp2_with (refine wpList_load_blk rfl _ _ rfl _ rfl _ _ Hb1.out _ Try.underlying24 rfl Try.laySize ?_)
  refine (rmay_any l _).mono ?_; rintro e w2 ⟨rfl, hb2⟩
  rw [Hm.out]
  have E2 := Lib.hid (bt Hg1.out.1 hb2)
  have HX2 := Lib.hid (Hb1.out.ext hb2)
  clear Hg1 Hb1 hb2
  cases b
  · go_wp2_with fail
    refine (works15_any _).mono ?_; rintro e w8 ⟨rfl, hb8⟩
    have E8 := Lib.hid (bt E2.out hb8)
    clear hb8
    go_wp2_with fail
    go_ret
    exact ⟨rfl, E8.out⟩
  have ho := Lay14.on Hm.out
  obtain ⟨K, HK⟩ : ∃ n : Nat, Hid (l.blocks = n) := ⟨l.blocks.toNat, Lib.hid (by omega)⟩
  obtain ⟨T, HT⟩ : ∃ n : Nat, Hid (l.data = n) := ⟨l.data.toNat, Lib.hid (by omega)⟩
  obtain ⟨I, HI⟩ : ∃ n : Nat, Hid (l.inodes = n) := ⟨l.inodes.toNat, Lib.hid (by omega)⟩
  obtain ⟨M, HM⟩ : ∃ n : Nat, Hid (l.many = n) := ⟨l.many.toNat, Lib.hid (by omega)⟩
  have HB := Lib.hid (show I ≤ 128 ∧ K ≤ 512 ∧ T ≤ 18 ∧ T < K ∧ M = K - T by
    have h1 := HK.out
    have h2 := HT.out
    have h3 := HI.out
    have h4 := HM.out
    omega)
  have HMn := Lib.hid ho.2.2.2.2.2.2.2.2.2
  clear ho
  go_wp2_with (refine wpList_alloc_row rfl _ rfl _ Try.seenZero ?_)
  apply Stop.go; intro w3 Hg3 Hb3
  have E3 := Lib.hid (bt E2.out Hg3.out.1)
  have HX3 := Lib.hid (HX2.out.ext Hg3.out.1)
  have HZ := Lib.hid (show w.heap.size ≤ w2.heap.size ∧ w.heap.size ≠ w2.heap.size from ⟨E2.out.size, Nat.ne_of_lt HX2.out.lt⟩)
  generalize w2.heap.size = g at *
  clear Hg3 HX2 E2
  go_wp2_with fail
  go_loopw [4] (fun i wr => ∃ n : Nat, n ≤ I ∧ i = .int .i64 ((n : Int) + 1) ∧ Blk wr g 42 (seenA n) ∧ Blk wr w.heap.size 24 l.val ∧ Below w.heap.size w wr) (fun i _ => I + 1 - (intOf i).toNat)
  case atStart => exact ⟨0, Nat.zero_le _, rfl, Hb3.out, HX3.out, E3.out⟩
  case round =>
    obtain ⟨n, hn, rfl, hs, hx, hbw⟩ := hrel
    have Hs := Lib.hid hs
    have Hx := Lib.hid hx
    have Hbw := Lib.hid hbw
    clear hs hx hbw
    have c1 : wr.cell? ⟨w.heap.size, 1, none⟩ = some (.int .i64 (I : Nat)) := by rw [Hx.out.lay1, HI.out]
    have hIb := HB.out.1
    by_cases hlt : n < I
    · have d0 : decide ((n : Int) + 1 ≤ (I : Int)) = true := by simp; omega
      have HIn := Lib.hid (show l.isI ((n : Int) + 1) = true by rw [Lay14.isI_on Hm.out]; exact decide_eq_true (by have := HI.out; omega))
      have hwh := Lay14.where_on HIn.out
      have hwd := of_decide_eq_true hwh.2.2.2.2.2.1
      obtain ⟨Q, HQ⟩ : ∃ q : Nat, Hid (l.wb ((n : Int) + 1) = q) := ⟨(l.wb ((n : Int) + 1)).toNat, Lib.hid (by omega)⟩
      obtain ⟨r, Hr⟩ : ∃ q : Nat, Hid (l.wk ((n : Int) + 1) = q) := ⟨(l.wk ((n : Int) + 1)).toNat, Lib.hid (by omega)⟩
      have HW := Lib.hid (show 2 ≤ Q ∧ Q < T ∧ r < 8 ∧ Q * 8 + r = 16 + n by
        have h1 := HQ.out
        have h2 := Hr.out
        have h3 := HT.out
        have h4 := hwh.2.2.2.1
        have h5 := hwh.2.2.2.2.1
        omega)
      have HF := Lib.hid (show l.has Q r = true ∧ l.ino Q r = (n : Int) + 1 by rw [← HQ.out, ← Hr.out]; exact hwh.2.2.2.2.2)
      have HD := Lib.hid (show l.isD Q = false by rw [Lay14.isD_on Hm.out]; exact decide_eq_false (by have h1 := HT.out; have h2 := HW.out; omega))
      clear hwh hwd
      go_wp2_with (refine wpList_load_blk rfl _ _ rfl _ rfl _ _ Hx.out _ Try.underlying24 rfl Try.laySize ?_)
      refine (gwhere_any l _ _).mono ?_; rintro e w4 ⟨rfl, hb4⟩
      rw [HQ.out, Hr.out, HIn.out]
      have HX4 := Lib.hid (Hx.out.ext hb4)
      have HS4 := Lib.hid (Hs.out.ext hb4)
      have E4 := Lib.hid (bt Hbw.out hb4)
      clear hb4 Hx Hs Hbw c1
      have c0 : w4.cell? ⟨w.heap.size, 0, none⟩ = some (.int .i64 (K : Nat)) := by rw [HX4.out.lay0, HK.out]
      have cs : w4.cell? ⟨g, Q * 8 + r, none⟩ = some (.bool false) := by
        rw [HS4.out.cell, seenA_get _ _ (by have := HW.out; omega), decide_eq_false (by have := HW.out; omega)]
      have q0 : 2 ≤ Q := HW.out.1
      have q1 : Q < 18 := by have h1 := HW.out; have h2 := HB.out; omega
      have q2 : Q < K := by have h1 := HW.out; have h2 := HB.out; omega
      have q3 : r < 8 := HW.out.2.2.1
      have d1 : decide ((Q : Int) < 0) = false := by simp
      have d2 : decide ((K : Int) ≤ (Q : Int)) = false := by simp; omega
      have d3 : decide ((r : Int) < 0) = false := by simp
      have d4 : decide (7 < (r : Int)) = false := by simp; omega
      have d5 : decide (K ≤ Q) = false := by simp; omega
      have d6 : ((Q : Int) == 1) = false := by simp; omega
      have d7 : ((Q : Int) == 0) = false := by simp; omega
      go_wp2_with (refine wpList_load_blk rfl _ _ rfl _ rfl _ _ HX4.out _ Try.underlying24 rfl Try.laySize ?_)
      refine (isdata_any l _ _).mono ?_; rintro e w5 ⟨rfl, hb5⟩
      rw [HD.out]
      have HX5 := Lib.hid (HX4.out.ext hb5)
      have HS5 := Lib.hid (HS4.out.ext hb5)
      have E5 := Lib.hid (bt E4.out hb5)
      clear hb5 HX4 HS4 E4 c0 cs
      go_wp2_with fail
      refine (map_any _).mono ?_; rintro e wx ⟨rfl, rfl⟩
      go_wp2_with (refine wpList_store_cell rfl _ _ _ rfl Try.boolSize g (Q * 8 + r) rfl _ rfl rfl rfl _ _ HS5.out (by rw [seenA_size]; have := HW.out; omega) ?_)
      apply Stop.go; intro w6 Ho6 Hb6
      have hb6 := Hb6.out
      rw [seenA_set n _ HW.out.2.2.2 (by have := HW.out; omega)] at hb6
      have HS6 := Lib.hid hb6
      have HX6 := Lib.hid (HX5.out.only Ho6.out HZ.out.2)
      have E6 := Lib.hid (bonly E5.out Ho6.out HZ.out.1)
      clear hb6 Hb6 Ho6 HX5 E5
      have d8 : ((n : Int) + 1 != (n : Int) + 1) = false := by simp
      go_wp2_with (refine wpList_load_blk rfl _ _ rfl _ rfl _ _ HX6.out _ Try.underlying24 rfl Try.laySize ?_)
      refine (inode_any l _ _ _).mono ?_; rintro e w7 ⟨rfl, hb7⟩
      rw [HF.out.1, HF.out.2]
      have HX7 := Lib.hid (HX6.out.ext hb7)
      have HS7 := Lib.hid (HS6.out.ext hb7)
      have E7 := Lib.hid (bt E6.out hb7)
      clear hb7 HX6 HS6 E6
      go_wp2_with fail
      go_roundw
      case rel => exact ⟨n + 1, by omega, by go_num, HS7.out, HX7.out, E7.out⟩
      case measure => simp [intOf]; omega
    · obtain rfl : n = I := by omega
      have d0 : decide ((n : Int) + 1 ≤ (n : Int)) = false := by simp; omega
      go_wp2_with fail
      obtain ⟨wL, hwL⟩ : ∃ x, x = wr := ⟨_, rfl⟩
      subst hwL
      clear c1
      go_loopw [10, 11] (fun u i wr => ∃ j : Nat, j ≤ K ∧ i = .int .i64 j ∧ u = .int .i64 ((j - T : Nat) : Int) ∧ Blk wr w.heap.size 24 l.val ∧ Below w.heap.size w wr) (fun _ i _ => K - (intOf i).toNat)
      case atStart => exact ⟨0, Nat.zero_le _, rfl, by rw [Nat.zero_sub]; rfl, Hx.out, Hbw.out⟩
      case round =>
        obtain ⟨j, hj, rfl, rfl, hx, hbw⟩ := hrel
        have Hx := Lib.hid hx
        have Hbw := Lib.hid hbw
        clear hx hbw
        have c0 : wr.cell? ⟨w.heap.size, 0, none⟩ = some (.int .i64 (K : Nat)) := by rw [Hx.out.lay0, HK.out]
        have hKb : K ≤ 512 := HB.out.2.1
        obtain ⟨C, hC⟩ : ∃ C, j - T = C := ⟨_, rfl⟩
        have HC := Lib.hid hC
        have hCb : C ≤ 512 := by omega
        rw [hC]
        clear hC
        by_cases hjk : j < K
        · have t0 : decide ((j : Int) < (K : Int)) = true := by simp; omega
          have t1 : decide (j < K) = true := by simp; omega
          go_wp2_with (refine wpList_load_blk rfl _ _ rfl _ rfl _ _ Hx.out _ Try.underlying24 rfl Try.laySize ?_)
          refine (isdata_any l _ _).mono ?_; rintro e w4 ⟨rfl, hb4⟩
          have Hx4 := Lib.hid (Hx.out.ext hb4)
          have E4 := Lib.hid (bt Hbw.out hb4)
          clear hb4 Hx Hbw c0
          obtain ⟨q, HQ⟩ : ∃ q, Hid (l.isD j = q) := ⟨_, Lib.hid rfl⟩
          have HJ := Lib.hid (show q = decide (T ≤ j) by
            rw [← HQ.out, Lay14.isD_on Hm.out]
            exact decide_eq_decide.2 (by have h1 := HK.out; have h2 := HT.out; omega))
          rw [HQ.out]
          cases q
          · go_wp2_with fail
            go_roundw
            case rel =>
              have h := HC.out
              have h2 := of_decide_eq_false HJ.out.symm
              exact ⟨j + 1, by omega, by go_num, by rw [show j + 1 - T = C by omega], Hx4.out, E4.out⟩
            case measure => simp [intOf]; omega
          · go_wp2_with fail
            go_roundw
            case rel =>
              have h := HC.out
              have h2 := of_decide_eq_true HJ.out.symm
              exact ⟨j + 1, by omega, by go_num, by rw [show j + 1 - T = C + 1 by omega]; go_num, Hx4.out, E4.out⟩
            case measure => simp [intOf]; omega
        · have t0 : decide ((j : Int) < (K : Int)) = false := by simp; omega
          have t1 : decide (j < K) = false := by simp; omega
          have hCM : C = M := by have h1 := HC.out; have h2 := HB.out; omega
          subst hCM
          have HTL := Lib.hid HB.out.2.2.1
          have s1 : ((C : Int) == (C : Int)) = true := by simp
          have s2 : (IntKind.i64.wrap ((C : Int) + (T : Int)) == (K : Int)) = true := by have h2 := HB.out; rw [IntWalk.i64_in _ (by omega)]; simp; omega
          have s3 : decide (1 ≤ (C : Int)) = true := by have h2 := HB.out; simp; omega
          have s4 : decide (1 ≤ C) = true := by have h2 := HB.out; simp; omega
          have hTb : T ≤ 18 := HB.out.2.2.1
          go_wp2_with fail
          clear c0
          refine WH.start (S := fun w' : World => Blk w' w.heap.size 24 l.val) [false, false, false, false, false, false, false, false, false, false, false, false, false, false, false, false, false, false, false, false, false, false] 22 rfl rfl (by kernel_rfl) (Hx.out.ext (bdrew wr 1)) (fun hSn => ?_); obtain ⟨wS, hwS⟩ : ∃ x, (wr).drew = x := ⟨_, rfl⟩; have HE := Lib.hid (show Below (wr).heap.size (wr) wS from hwS ▸ bdrew wr 1); rw [hwS] at hSn ⊢; clear hwS
          refine WH.tk 0 ?_; simp only [setL]
          refine WH.tv 1 rfl (fun w' hSw => exec_load_blk _ _ rfl _ rfl _ _ (hSw) _ (Try.underlying24) rfl (Try.laySize)) ?_; simp only [setL]
          refine WH.only 2 _ rfl (by kernel_rfl) rfl (fun K hK => ?_)
          go_simp; refine (many_any l _).mono ?_; rintro e wa ⟨rfl, hba⟩; go_simp
          rw [HM.out]
          have HE := Lib.hid (bt HE.out hba)
          have hSn := hSn.ext hba; refine hK _ _ hSn ?_; clear hK; clear K; simp only [setL]
          refine WH.tk 3 ?_; simp only [setL]
          refine WH.tk 4 ?_; simp only [setL]
          refine WH.tk 5 ?_; simp only [setL]
          refine WH.tv 6 rfl (fun w' hSw => exec_load_blk _ _ rfl _ rfl _ _ (hSw) _ (Try.underlying24) rfl (Try.laySize)) ?_; simp only [setL]
          refine WH.tk 10 ?_; simp only [setL]
          refine WH.tv 11 rfl (fun w' hSw => exec_load_cell _ _ rfl ⟨w.heap.size, 0, none⟩ rfl _ hSw.lay0 _ Try.underlying3 rfl) ?_; simp only [setL]
          rw [HK.out]
          refine WH.only 7 _ rfl (by kernel_rfl) rfl (fun K hK => ?_)
          go_simp; refine (own_any l _).mono ?_; rintro e wb ⟨v, rfl, ho, hbb⟩; go_simp
          rw [HT.out, Int.toNat_natCast] at ho
          obtain ⟨A, c, rfl, hcc, hcm, hr⟩ := ho.ints
          rw [upN_len] at hcc ⊢
          have HE := Lib.hid (bt HE.out hbb)
          clear ho hcc hcm hr
          have hSn := hSn.ext hbb; refine hK _ _ hSn ?_; clear hK; clear K; simp only [setL]
          refine WH.tk 8 ?_; simp only [setL]
          refine WH.tk 9 ?_; simp only [setL]
          refine WH.tk 12 ?_; simp only [setL]
          refine WH.tk 13 ?_; simp only [setL]
          refine WH.tk 14 ?_; simp only [setL]
          refine WH.tk 15 ?_; simp only [setL]
          refine WH.tk 16 ?_; simp only [setL]
          refine WH.tk 17 ?_; simp only [setL]
          refine WH.tk 18 ?_; simp only [setL]
          refine WH.only 19 _ rfl (by kernel_rfl) rfl (fun K hK => ?_)
          go_simp; refine (works15_any _).mono ?_; rintro e wc ⟨rfl, hbc⟩; go_simp
          have HE := Lib.hid (bt HE.out hbc)
          have hSn := hSn.ext hbc; refine hK _ _ hSn ?_; clear hK; clear K; simp only [setL]
          refine WH.tk 20 ?_; simp only [setL]
          refine WH.tk 21 ?_; simp only [setL]
          refine WH.done (by kernel_rfl) ?_
          go_wp2_with fail
          go_ret
          exact ⟨rfl, bt Hbw.out HE.out⟩

end Go.Proofs.Ytffemgjbicebeaa
