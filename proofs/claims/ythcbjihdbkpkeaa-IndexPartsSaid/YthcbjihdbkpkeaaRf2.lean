/-
  Contracts of the document's answer 19: Places, Buckets. Written by wip/tools/gen19/rf2.py.
-/
import Derived.Test.YthcbjihdbkpkeaaRf1
namespace Go.Proofs.Ythcbjihdbkpkeaa
open Go.RowKit

set_option maxHeartbeats 3200000 in
theorem rplaces_any (d : Int) (t : List Int) (ht : t.length = 32) (p b : Int) (w : World) :
    Calls Try.prog 23 #[.agg (icells (d :: t)), .int .i64 p, .int .i64 b] w fun e w' => ∃ v, e = .returned v ∧ OwnC w' w.heap.size 3 v (ivals (icast (plcL d p b))) ∧ Below w.heap.size w w' := by
  have HL := Lib.hid ht
  have h5 := dpN_le d
  have h32 := pow32 h5
  obtain ⟨R, HR⟩ : ∃ R, Hid (plcL d p b = R) := ⟨_, Lib.hid rfl⟩
  rw [HR.out]
  have HDp := Lib.hid (fun (w : World) => rdeep_any d t w)
  have HPow := Lib.hid (fun (w : World) => rpow_any (dpN d) h5 w)
  by_cases hp0 : p < 0
  · have HN := Lib.hid (show R = [] by
      rw [← HR.out]
      unfold plcL
      rw [if_neg (by omega)])
    clear h5 h32 HDp HPow
    go_enter Try.func23, Try.ntmps23
    go_wp2_with (refine wpList_box_row rfl _ _ rfl _ rfl ?_)
    apply Stop.go; intro w1 Hg1 Hb1
    go_wp2_with fail
    go_ret
    rw [HN.out]
    exact ⟨_, rfl, OwnC.nil_ _ _ _, Hg1.out.1⟩
  obtain ⟨P, rfl⟩ := Int.eq_ofNat_of_zero_le (show 0 ≤ p by omega)
  by_cases hpm : 2 ^ dpN d ≤ P
  · have HN := Lib.hid (show R = [] by
      rw [← HR.out]
      unfold plcL
      rw [if_neg (by omega)])
    obtain ⟨D, hD⟩ : ∃ D, dpN d = D := ⟨_, rfl⟩
    rw [hD] at HDp HPow hpm h32
    obtain ⟨M, hM⟩ : ∃ M, 2 ^ D = M := ⟨_, rfl⟩
    rw [hM] at HPow hpm h32
    have d1 : decide ((M : Int) ≤ P) = true := by simp; omega
    clear h5 hp0 hD hM
    go_enter Try.func23, Try.ntmps23
    go_wp2_with (refine wpList_box_row rfl _ _ rfl _ rfl ?_)
    apply Stop.go; intro w1 Hg1 Hb1
    go_wp2_with (refine wpList_load_blk rfl _ _ rfl _ rfl _ _ Hb1.out _ Try.underlying24 rfl (Try.rxFits HL.out) ?_)
    refine (HDp.out _).mono ?_; rintro e w2 ⟨rfl, hb2⟩
    have E2 := Lib.hid (bt Hg1.out.1 hb2)
    clear hb2
    go_wp2_with fail
    refine (HPow.out _).mono ?_; rintro e wx ⟨rfl, rfl⟩
    go_wp2_with fail
    go_ret
    rw [HN.out]
    exact ⟨_, rfl, OwnC.nil_ _ _ _, E2.out⟩
  have hP : P < 2 ^ dpN d := by omega
  have HRK := Lib.hid (show R = clsK P (bitI (dpN d) b) (2 ^ dpN d) by
    rw [← HR.out, plcL_in rfl hP]
    rfl)
  have hbl := bitI_le (dpN d) b
  have HIs := Lib.hid (fun (k : Nat) (hk : k < 2 ^ dpN d) (w : World) => rxis_any k P (bitI (dpN d) b) (by omega) (by omega) (by omega) w)
  obtain ⟨bb, hbb⟩ : ∃ bb, bitI (dpN d) b = bb := ⟨_, rfl⟩
  rw [hbb] at HRK HIs hbl
  have Hbi := Lib.hid (show (bb : Int) = max 0 (min b (dpN d : Nat)) by rw [← hbb]; unfold bitI; omega)
  obtain ⟨D, hD⟩ : ∃ D, dpN d = D := ⟨_, rfl⟩
  rw [hD] at HDp HPow hP h32 h5 HRK HIs hbl Hbi
  obtain ⟨M, hM⟩ : ∃ M, 2 ^ D = M := ⟨_, rfl⟩
  rw [hM] at HPow hP h32 HRK HIs
  have d1 : decide ((M : Int) ≤ P) = false := by simp; omega
  clear hp0 hpm hD hM hbb HR
  by_cases c1 : b < 0
  · obtain rfl : bb = 0 := by have := Hbi.out; omega
    have HIs := Lib.hid (show ∀ (k : Nat), k < M → ∀ w, Calls Try.prog 46 #[.int .i64 k, .int .i64 P, .int .i64 0] w (RetQ (.bool (isB 0 k P)) w) from fun k hk w => HIs.out k hk w)
    have d2 : decide ((D : Int) < 0) = false := decide_eq_false (by omega)
    clear hbl Hbi
    go_enter Try.func23, Try.ntmps23
    go_wp2_with (refine wpList_box_row rfl _ _ rfl _ rfl ?_)
    apply Stop.go; intro w1 Hg1 Hb1
    go_wp2_with (refine wpList_load_blk rfl _ _ rfl _ rfl _ _ Hb1.out _ Try.underlying24 rfl (Try.rxFits HL.out) ?_)
    refine (HDp.out _).mono ?_; rintro e w2 ⟨rfl, hb2⟩
    have E2 := Lib.hid (bt Hg1.out.1 hb2)
    have HB2 := Lib.hid (Hb1.out.ext hb2)
    clear hb2 Hb1 Hg1
    go_wp2_with fail
    refine (HPow.out _).mono ?_; rintro e wx ⟨rfl, rfl⟩
    go_wp2_with (refine wpList_load_blk rfl _ _ rfl _ rfl _ _ HB2.out _ Try.underlying24 rfl (Try.rxFits HL.out) ?_)
    refine (HDp.out _).mono ?_; rintro e w3 ⟨rfl, hb3⟩
    have E3 := Lib.hid (bt E2.out hb3)
    have HB3 := Lib.hid (HB2.out.ext hb3)
    clear hb3 HB2 E2
    go_wp2_with fail
    have HBB := HB3
    have EB := E3
    go_loopw [7, 8] (fun u i wr => ∃ k : Nat, k ≤ M ∧ i = .int .i64 k ∧ Hid (OwnC wr w3.heap.size 3 u (ivals (icast (clsK P 0 k)))) ∧ Hid (Below w3.heap.size w3 wr)) (fun _ i _ => M - (intOf i).toNat)
    case atStart => exact ⟨0, Nat.zero_le _, rfl, Lib.hid (OwnC.nil_ _ _ _), Lib.hid (Below.refl _ _)⟩
    case round =>
      obtain ⟨k, hk, rfl, Hu, Hbw⟩ := hrel
      have HBk := Lib.hid (HBB.out.ext Hbw.out)
      go_wp2_with (refine wpList_load_blk rfl _ _ rfl _ rfl _ _ HBk.out _ Try.underlying24 rfl (Try.rxFits HL.out) ?_)
      refine (HDp.out _).mono ?_; rintro e wa ⟨rfl, hba⟩
      have Hu := Lib.hid (Hu.out.ext hba)
      have Hbw := Lib.hid (bt Hbw.out hba)
      clear hba HBk
      go_wp2_with fail
      refine (HPow.out _).mono ?_; rintro e wx ⟨rfl, rfl⟩
      by_cases hlt : k < M
      · have d0 : decide ((k : Int) < M) = true := by simp; omega
        have d1 : decide (k < M) = true := by simp; omega
        have hkl := Lib.hid (clsK_len P 0 k)
        have hl1 : (ivals (icast (clsK P 0 k))).length + 1 ≤ maxLen := by rw [ivals_len, icast_len]; unfold maxLen; have := hkl.out; omega
        have hl2 : ((ivals (icast (clsK P 0 k))).length + 1) * 8 ≤ 140737488355328 := by rw [ivals_len, icast_len]; have := hkl.out; omega
        have HS := Lib.hid (clsK_succ P 0 k)
        obtain ⟨q, Hq⟩ : ∃ q, Hid (isB 0 k P = q) := ⟨_, Lib.hid rfl⟩
        go_wp2_with fail
        refine (HIs.out k hlt _).mono ?_; rintro e wc ⟨rfl, mc, rfl⟩
        rw [Hq.out] at HS ⊢
        have Hu := Lib.hid (Hu.out.ext (bdrew wa mc))
        have Hbw := Lib.hid (bt Hbw.out (bdrew wa mc))
        obtain ⟨wd, hwd⟩ : ∃ x, wa.drewN mc = x := ⟨_, rfl⟩
        rw [hwd] at Hu Hbw ⊢
        clear hwd
        cases q
        · have HN := Lib.hid (show clsK P 0 (k + 1) = clsK P 0 k by rw [HS.out]; rfl)
          clear HS
          go_wp2_with fail
          go_roundw
          case rel => exact ⟨k + 1, by omega, by go_num, by rw [HN.out]; exact Hu, Hbw⟩
          case measure => simp [intOf]; omega
        · have HN := Lib.hid (show clsK P 0 (k + 1) = clsK P 0 k ++ [k] by rw [HS.out]; rfl)
          clear HS
          go_wp2_with (at_builtin; refine wpList_append_one rfl _ _ _ _ rfl Try.underlying52 (.int .i64 0) 8 Try.intInfo rfl w3.heap.size _ _ rfl Hu.out (.int .i64 k) rfl rfl Hbw.out.size hl1 hl2 ?_)
          apply Stop.go
          intro v' w4 Hv' Ha'
          go_wp2_with fail
          go_roundw
          case rel => exact ⟨k + 1, by omega, by go_num, by rw [HN.out, icast_snoc, ← ivals_snoc]; exact Hv', Lib.hid (Hbw.out.trans Ha'.out.below)⟩
          case measure => simp [intOf]; omega
      · obtain rfl : k = M := by omega
        have d0 : decide ((k : Int) < k) = false := by simp
        go_wp2_with fail
        go_ret
        rw [HRK.out]
        exact ⟨_, rfl, Hu.out.low EB.out.size, bt EB.out Hbw.out⟩
  by_cases c2 : (D : Int) < b
  · obtain rfl : bb = D := by have := Hbi.out; omega
    have d2 : decide ((bb : Int) < b) = true := by simp; omega
    clear hbl Hbi
    go_enter Try.func23, Try.ntmps23
    go_wp2_with (refine wpList_box_row rfl _ _ rfl _ rfl ?_)
    apply Stop.go; intro w1 Hg1 Hb1
    go_wp2_with (refine wpList_load_blk rfl _ _ rfl _ rfl _ _ Hb1.out _ Try.underlying24 rfl (Try.rxFits HL.out) ?_)
    refine (HDp.out _).mono ?_; rintro e w2 ⟨rfl, hb2⟩
    have E2 := Lib.hid (bt Hg1.out.1 hb2)
    have HB2 := Lib.hid (Hb1.out.ext hb2)
    clear hb2 Hb1 Hg1
    go_wp2_with fail
    refine (HPow.out _).mono ?_; rintro e wx ⟨rfl, rfl⟩
    go_wp2_with (refine wpList_load_blk rfl _ _ rfl _ rfl _ _ HB2.out _ Try.underlying24 rfl (Try.rxFits HL.out) ?_)
    refine (HDp.out _).mono ?_; rintro e w3 ⟨rfl, hb3⟩
    have E3 := Lib.hid (bt E2.out hb3)
    have HB3 := Lib.hid (HB2.out.ext hb3)
    clear hb3 HB2 E2
    go_wp2_with (refine wpList_load_blk rfl _ _ rfl _ rfl _ _ HB3.out _ Try.underlying24 rfl (Try.rxFits HL.out) ?_)
    refine (HDp.out _).mono ?_; rintro e w4 ⟨rfl, hb4⟩
    have EB := Lib.hid (bt E3.out hb4)
    have HBB := Lib.hid (HB3.out.ext hb4)
    clear hb4 HB3 E3
    go_wp2_with fail
    go_loopw [7, 8] (fun u i wr => ∃ k : Nat, k ≤ M ∧ i = .int .i64 k ∧ Hid (OwnC wr w4.heap.size 3 u (ivals (icast (clsK P bb k)))) ∧ Hid (Below w4.heap.size w4 wr)) (fun _ i _ => M - (intOf i).toNat)
    case atStart => exact ⟨0, Nat.zero_le _, rfl, Lib.hid (OwnC.nil_ _ _ _), Lib.hid (Below.refl _ _)⟩
    case round =>
      obtain ⟨k, hk, rfl, Hu, Hbw⟩ := hrel
      have HBk := Lib.hid (HBB.out.ext Hbw.out)
      go_wp2_with (refine wpList_load_blk rfl _ _ rfl _ rfl _ _ HBk.out _ Try.underlying24 rfl (Try.rxFits HL.out) ?_)
      refine (HDp.out _).mono ?_; rintro e wa ⟨rfl, hba⟩
      have Hu := Lib.hid (Hu.out.ext hba)
      have Hbw := Lib.hid (bt Hbw.out hba)
      clear hba HBk
      go_wp2_with fail
      refine (HPow.out _).mono ?_; rintro e wx ⟨rfl, rfl⟩
      by_cases hlt : k < M
      · have d0 : decide ((k : Int) < M) = true := by simp; omega
        have d1 : decide (k < M) = true := by simp; omega
        have hkl := Lib.hid (clsK_len P bb k)
        have hl1 : (ivals (icast (clsK P bb k))).length + 1 ≤ maxLen := by rw [ivals_len, icast_len]; unfold maxLen; have := hkl.out; omega
        have hl2 : ((ivals (icast (clsK P bb k))).length + 1) * 8 ≤ 140737488355328 := by rw [ivals_len, icast_len]; have := hkl.out; omega
        have HS := Lib.hid (clsK_succ P bb k)
        obtain ⟨q, Hq⟩ : ∃ q, Hid (isB bb k P = q) := ⟨_, Lib.hid rfl⟩
        go_wp2_with fail
        refine (HIs.out k hlt _).mono ?_; rintro e wc ⟨rfl, mc, rfl⟩
        rw [Hq.out] at HS ⊢
        have Hu := Lib.hid (Hu.out.ext (bdrew wa mc))
        have Hbw := Lib.hid (bt Hbw.out (bdrew wa mc))
        obtain ⟨wd, hwd⟩ : ∃ x, wa.drewN mc = x := ⟨_, rfl⟩
        rw [hwd] at Hu Hbw ⊢
        clear hwd
        cases q
        · have HN := Lib.hid (show clsK P bb (k + 1) = clsK P bb k by rw [HS.out]; rfl)
          clear HS
          go_wp2_with fail
          go_roundw
          case rel => exact ⟨k + 1, by omega, by go_num, by rw [HN.out]; exact Hu, Hbw⟩
          case measure => simp [intOf]; omega
        · have HN := Lib.hid (show clsK P bb (k + 1) = clsK P bb k ++ [k] by rw [HS.out]; rfl)
          clear HS
          go_wp2_with (at_builtin; refine wpList_append_one rfl _ _ _ _ rfl Try.underlying52 (.int .i64 0) 8 Try.intInfo rfl w4.heap.size _ _ rfl Hu.out (.int .i64 k) rfl rfl Hbw.out.size hl1 hl2 ?_)
          apply Stop.go
          intro v' w4 Hv' Ha'
          go_wp2_with fail
          go_roundw
          case rel => exact ⟨k + 1, by omega, by go_num, by rw [HN.out, icast_snoc, ← ivals_snoc]; exact Hv', Lib.hid (Hbw.out.trans Ha'.out.below)⟩
          case measure => simp [intOf]; omega
      · obtain rfl : k = M := by omega
        have d0 : decide ((k : Int) < k) = false := by simp
        go_wp2_with fail
        go_ret
        rw [HRK.out]
        exact ⟨_, rfl, Hu.out.low EB.out.size, bt EB.out Hbw.out⟩
  · obtain rfl : b = (bb : Int) := by have := Hbi.out; omega
    have d2 : decide ((D : Int) < bb) = false := decide_eq_false (by omega)
    have d3 : decide (D < bb) = false := decide_eq_false (by omega)
    have d4 : decide ((bb : Int) < 0) = false := decide_eq_false (by omega)
    clear hbl Hbi
    go_enter Try.func23, Try.ntmps23
    go_wp2_with (refine wpList_box_row rfl _ _ rfl _ rfl ?_)
    apply Stop.go; intro w1 Hg1 Hb1
    go_wp2_with (refine wpList_load_blk rfl _ _ rfl _ rfl _ _ Hb1.out _ Try.underlying24 rfl (Try.rxFits HL.out) ?_)
    refine (HDp.out _).mono ?_; rintro e w2 ⟨rfl, hb2⟩
    have E2 := Lib.hid (bt Hg1.out.1 hb2)
    have HB2 := Lib.hid (Hb1.out.ext hb2)
    clear hb2 Hb1 Hg1
    go_wp2_with fail
    refine (HPow.out _).mono ?_; rintro e wx ⟨rfl, rfl⟩
    go_wp2_with (refine wpList_load_blk rfl _ _ rfl _ rfl _ _ HB2.out _ Try.underlying24 rfl (Try.rxFits HL.out) ?_)
    refine (HDp.out _).mono ?_; rintro e w3 ⟨rfl, hb3⟩
    have E3 := Lib.hid (bt E2.out hb3)
    have HB3 := Lib.hid (HB2.out.ext hb3)
    clear hb3 HB2 E2
    go_wp2_with fail
    have HBB := HB3
    have EB := E3
    go_loopw [7, 8] (fun u i wr => ∃ k : Nat, k ≤ M ∧ i = .int .i64 k ∧ Hid (OwnC wr w3.heap.size 3 u (ivals (icast (clsK P bb k)))) ∧ Hid (Below w3.heap.size w3 wr)) (fun _ i _ => M - (intOf i).toNat)
    case atStart => exact ⟨0, Nat.zero_le _, rfl, Lib.hid (OwnC.nil_ _ _ _), Lib.hid (Below.refl _ _)⟩
    case round =>
      obtain ⟨k, hk, rfl, Hu, Hbw⟩ := hrel
      have HBk := Lib.hid (HBB.out.ext Hbw.out)
      go_wp2_with (refine wpList_load_blk rfl _ _ rfl _ rfl _ _ HBk.out _ Try.underlying24 rfl (Try.rxFits HL.out) ?_)
      refine (HDp.out _).mono ?_; rintro e wa ⟨rfl, hba⟩
      have Hu := Lib.hid (Hu.out.ext hba)
      have Hbw := Lib.hid (bt Hbw.out hba)
      clear hba HBk
      go_wp2_with fail
      refine (HPow.out _).mono ?_; rintro e wx ⟨rfl, rfl⟩
      by_cases hlt : k < M
      · have d0 : decide ((k : Int) < M) = true := by simp; omega
        have d1 : decide (k < M) = true := by simp; omega
        have hkl := Lib.hid (clsK_len P bb k)
        have hl1 : (ivals (icast (clsK P bb k))).length + 1 ≤ maxLen := by rw [ivals_len, icast_len]; unfold maxLen; have := hkl.out; omega
        have hl2 : ((ivals (icast (clsK P bb k))).length + 1) * 8 ≤ 140737488355328 := by rw [ivals_len, icast_len]; have := hkl.out; omega
        have HS := Lib.hid (clsK_succ P bb k)
        obtain ⟨q, Hq⟩ : ∃ q, Hid (isB bb k P = q) := ⟨_, Lib.hid rfl⟩
        go_wp2_with fail
        refine (HIs.out k hlt _).mono ?_; rintro e wc ⟨rfl, mc, rfl⟩
        rw [Hq.out] at HS ⊢
        have Hu := Lib.hid (Hu.out.ext (bdrew wa mc))
        have Hbw := Lib.hid (bt Hbw.out (bdrew wa mc))
        obtain ⟨wd, hwd⟩ : ∃ x, wa.drewN mc = x := ⟨_, rfl⟩
        rw [hwd] at Hu Hbw ⊢
        clear hwd
        cases q
        · have HN := Lib.hid (show clsK P bb (k + 1) = clsK P bb k by rw [HS.out]; rfl)
          clear HS
          go_wp2_with fail
          go_roundw
          case rel => exact ⟨k + 1, by omega, by go_num, by rw [HN.out]; exact Hu, Hbw⟩
          case measure => simp [intOf]; omega
        · have HN := Lib.hid (show clsK P bb (k + 1) = clsK P bb k ++ [k] by rw [HS.out]; rfl)
          clear HS
          go_wp2_with (at_builtin; refine wpList_append_one rfl _ _ _ _ rfl Try.underlying52 (.int .i64 0) 8 Try.intInfo rfl w3.heap.size _ _ rfl Hu.out (.int .i64 k) rfl rfl Hbw.out.size hl1 hl2 ?_)
          apply Stop.go
          intro v' w4 Hv' Ha'
          go_wp2_with fail
          go_roundw
          case rel => exact ⟨k + 1, by omega, by go_num, by rw [HN.out, icast_snoc, ← ivals_snoc]; exact Hv', Lib.hid (Hbw.out.trans Ha'.out.below)⟩
          case measure => simp [intOf]; omega
      · obtain rfl : k = M := by omega
        have d0 : decide ((k : Int) < k) = false := by simp
        go_wp2_with fail
        go_ret
        rw [HRK.out]
        exact ⟨_, rfl, Hu.out.low EB.out.size, bt EB.out Hbw.out⟩

set_option maxHeartbeats 1600000 in
theorem rbuckets_any (d : Int) (t : List Int) (ht : t.length = 32) (w : World) :
    Calls Try.prog 25 #[.agg (icells (d :: t))] w fun e w' => ∃ v, e = .returned v ∧ OwnC w' w.heap.size 3 v (ivals (buckK t (2 ^ dpN d))) ∧ Below w.heap.size w w' := by
  have HL := Lib.hid ht
  have h5 := dpN_le d
  have h32 := pow32 h5
  have HDp := Lib.hid (fun (w : World) => rdeep_any d t w)
  have HPow := Lib.hid (fun (w : World) => rpow_any (dpN d) h5 w)
  obtain ⟨D, hD⟩ : ∃ D, dpN d = D := ⟨_, rfl⟩
  rw [hD] at HDp HPow h32 ⊢
  obtain ⟨M, hM⟩ : ∃ M, 2 ^ D = M := ⟨_, rfl⟩
  rw [hM] at HPow h32 ⊢
  clear h5 hD hM
  go_enter Try.func25, Try.ntmps25
  go_wp2_with (refine wpList_box_row rfl _ _ rfl _ rfl ?_)
  apply Stop.go; intro w1 Hg1 Hb1
  have Hz := Lib.hid (show w.heap.size < w1.heap.size from Hb1.out.lt)
  go_wp2_with fail
  go_loopw [3, 4] (fun u i wr => ∃ k : Nat, k ≤ M ∧ i = .int .i64 k ∧ OwnC wr w1.heap.size 3 u (ivals (buckK t k)) ∧ Below w1.heap.size w1 wr) (fun _ i _ => M - (intOf i).toNat)
  case atStart => exact ⟨0, Nat.zero_le _, rfl, OwnC.nil_ _ _ _, Below.refl _ _⟩
  case round =>
    obtain ⟨k, hk, rfl, hu, hbw⟩ := hrel
    have Hu0 := Lib.hid hu
    have Hbw0 := Lib.hid hbw
    have HB0 := Lib.hid (Hb1.out.ext hbw)
    clear hu hbw
    go_wp2_with (refine wpList_load_blk rfl _ _ rfl _ rfl _ _ HB0.out _ Try.underlying24 rfl (Try.rxFits HL.out) ?_)
    refine (HDp.out _).mono ?_; rintro e wa ⟨rfl, hba⟩
    have Hu := Lib.hid (Hu0.out.ext hba)
    have Hbw := Lib.hid (bt Hbw0.out hba)
    have HBk := Lib.hid (HB0.out.ext hba)
    clear hba HB0 Hu0 Hbw0
    go_wp2_with fail
    refine (HPow.out _).mono ?_; rintro e wx ⟨rfl, rfl⟩
    by_cases hlt : k < M
    · have d0 : decide ((k : Int) < M) = true := by simp; omega
      have d1 : decide (k < M) = true := by simp; omega
      have k0 : 0 ≤ (k : Int) := by omega
      have k1 : (k : Int) < 32 := by omega
      have ck := int_cell HBk.out k (by rw [HL.out]; omega)
      have HS := Lib.hid (buckK_succ t k)
      have hlen := buckK_len t k
      have hl1 : (ivals (buckK t k)).length + 1 ≤ maxLen := by rw [ivals_len]; unfold maxLen; omega
      have hl2 : ((ivals (buckK t k)).length + 1) * 8 ≤ 140737488355328 := by rw [ivals_len]; omega
      obtain ⟨x, hx⟩ : ∃ x, fld t k = x := ⟨_, rfl⟩
      rw [hx] at HS ck
      clear hx
      by_cases h0 : x = 0
      · have HN := Lib.hid (show buckK t (k + 1) = buckK t k by rw [HS.out, if_pos h0])
        subst h0
        have d2 : ((0 : Int) != 0) = false := by decide
        clear HS
        go_wp2_with fail
        go_roundw
        case rel => exact ⟨k + 1, by omega, by go_num, by rw [HN.out]; exact Hu.out, Hbw.out⟩
        case measure => simp [intOf]; omega
      · have d2 : (x != 0) = true := by simpa using h0
        obtain ⟨q, hq⟩ : ∃ q, (buckK t k).contains x = q := ⟨_, rfl⟩
        have HS2 := Lib.hid (show buckK t (k + 1) = if q then buckK t k else buckK t k ++ [x] by rw [HS.out, if_neg h0, hq])
        obtain ⟨A, c, rfl, hc1, hc2, hrc⟩ := Hu.out.ints
        have HIn := Lib.hid (rin9_any A _ c (buckK t k) rfl (by unfold maxLen; omega) x _ hrc)
        rw [hq] at HIn
        clear HS h0 hrc hq
        go_wp2_with fail
        refine (HIn.out).mono ?_; rintro e wx ⟨rfl, rfl⟩
        cases q
        · have HN := Lib.hid (show buckK t (k + 1) = buckK t k ++ [x] by rw [HS2.out]; rfl)
          clear HS2 HIn
          go_wp2_with (at_builtin; refine wpList_append_one rfl _ _ _ _ rfl Try.underlying52 (.int .i64 0) 8 Try.intInfo rfl w1.heap.size _ _ rfl Hu.out (.int .i64 x) rfl rfl Hbw.out.size hl1 hl2 ?_)
          apply Stop.go
          intro v' w4 Hv' Ha'
          go_wp2_with fail
          go_roundw
          case rel => exact ⟨k + 1, by omega, by go_num, by rw [HN.out, ← ivals_snoc]; exact Hv'.out, Hbw.out.trans Ha'.out.below⟩
          case measure => simp [intOf]; omega
        · have HN := Lib.hid (show buckK t (k + 1) = buckK t k by rw [HS2.out]; rfl)
          clear HS2 HIn
          go_wp2_with fail
          go_roundw
          case rel => exact ⟨k + 1, by omega, by go_num, by rw [HN.out]; exact Hu.out, Hbw.out⟩
          case measure => simp [intOf]; omega
    · obtain rfl : k = M := by omega
      have d0 : decide ((k : Int) < k) = false := by simp
      go_wp2_with fail
      go_ret
      exact ⟨_, rfl, Hu.out.low (Nat.le_of_lt Hz.out), bt Hg1.out.1 Hbw.out⟩

end Go.Proofs.Ythcbjihdbkpkeaa
