/-
  The contract of the document's answer 19: Bits.
-/
import Derived.Test.YthcbjihdbkpkeaaRf2
namespace Go.Proofs.Ythcbjihdbkpkeaa
open Go.RowKit

/-- Of the first k places. -/
def sameK (t : List Int) (p b k : Nat) : Bool := (List.range k).all fun i => !isB b i p || fld t i == fld t p
theorem sameK_succ (t : List Int) (p b k : Nat) : sameK t p b (k + 1) = (sameK t p b k && (!isB b k p || fld t k == fld t p)) := by
  unfold sameK
  rw [List.range_succ, List.all_append]
  simp

set_option maxHeartbeats 6400000 in
theorem rbits_any (d : Int) (t : List Int) (ht : t.length = 32) (p : Int) (w : World) :
    Calls Try.prog 20 #[.agg (icells (d :: t)), .int .i64 p] w fun e w' => e = .returned (.int .i64 (bitX d t p : Nat)) ∧ Below w.heap.size w w' := by
  have HL := Lib.hid ht
  have h5 := dpN_le d
  have h32 := pow32 h5
  obtain ⟨R, HR⟩ : ∃ R, Hid (bitX d t p = R) := ⟨_, Lib.hid rfl⟩
  rw [HR.out]
  have HDp := Lib.hid (fun (w : World) => rdeep_any d t w)
  have HPow := Lib.hid (fun (w : World) => rpow_any (dpN d) h5 w)
  by_cases hin : 0 ≤ p ∧ p < ((2 ^ dpN d : Nat) : Int)
  · obtain ⟨P, rfl⟩ := Int.eq_ofNat_of_zero_le hin.1
    have hP : P < 2 ^ dpN d := by omega
    have HRb := Lib.hid (show R = xbitsN (dpN d) t P by rw [← HR.out, bitX_in hP])
    have HIs := Lib.hid (fun (k b : Nat) (hk : k < 2 ^ dpN d) (hb : b ≤ dpN d) (w : World) => rxis_any k P b (by omega) (by omega) (by omega) w)
    have HUp := Lib.hid (fun (k : Nat) (h0 : fld t P ≠ 0) => xbitsN_up (D := dpN d) (t := t) (p := P) (k := k) h0)
    have HZ := Lib.hid (show fld t P = 0 → R = dpN d from fun h => by rw [HRb.out]; unfold xbitsN; rw [if_pos h])
    have HSa := Lib.hid (show ∀ b, sameB (dpN d) t P b = sameK t P b (2 ^ dpN d) from fun _ => rfl)
    obtain ⟨D, hD⟩ : ∃ D, dpN d = D := ⟨_, rfl⟩
    rw [hD] at HDp HPow hP h32 h5 HRb HIs HUp HZ HSa
    obtain ⟨M, hM⟩ : ∃ M, 2 ^ D = M := ⟨_, rfl⟩
    rw [hM] at HPow hP h32 HIs HSa
    have d1 : decide ((M : Int) ≤ P) = false := by simp; omega
    have d2 : decide (M ≤ P) = false := by simp; omega
    have p0 : 0 ≤ (P : Int) := by omega
    have p1 : (P : Int) < 32 := by omega
    have HP32 := Lib.hid (show P < 32 by omega)
    obtain ⟨y, hy⟩ : ∃ y, fld t P = y := ⟨_, rfl⟩
    have Hy := Lib.hid hy
    rw [hy] at HUp HZ
    clear hin hD hM HR hy
    go_enter Try.func20, Try.ntmps20
    go_wp2_with (refine wpList_box_row rfl _ _ rfl _ rfl ?_)
    apply Stop.go; intro w1 Hg1 Hb1
    go_wp2_with (refine wpList_load_blk rfl _ _ rfl _ rfl _ _ Hb1.out _ Try.underlying24 rfl (Try.rxFits HL.out) ?_)
    refine (HDp.out _).mono ?_; rintro e w2 ⟨rfl, hb2⟩
    have E2 := Lib.hid (bt Hg1.out.1 hb2)
    have HB2 := Lib.hid (Hb1.out.ext hb2)
    clear hb2 Hb1 Hg1
    go_wp2_with fail
    refine (HPow.out _).mono ?_; rintro e wx ⟨rfl, rfl⟩
    go_wp2_with fail
    go_loopw [6] (fun i wr => ∃ k : Nat, k ≤ D ∧ i = .int .i64 k ∧ Hid (∀ j, j < k → y ≠ 0 ∧ sameB D t P j = false) ∧ Hid (Blk wr w.heap.size 24 (icells (d :: t))) ∧ Hid (Below w.heap.size w wr)) (fun i _ => D - (intOf i).toNat)
    case atStart => exact ⟨0, Nat.zero_le _, rfl, Lib.hid (fun j h => absurd h (Nat.not_lt_zero _)), HB2, E2⟩
    case round =>
      obtain ⟨k, hk, rfl, HN, HBk, Ek⟩ := hrel
      go_wp2_with (refine wpList_load_blk rfl _ _ rfl _ rfl _ _ HBk.out _ Try.underlying24 rfl (Try.rxFits HL.out) ?_)
      refine (HDp.out _).mono ?_; rintro e w3 ⟨rfl, hb3⟩
      have HB3 := Lib.hid (HBk.out.ext hb3)
      have E3 := Lib.hid (bt Ek.out hb3)
      have cP := int_cell HB3.out P (by rw [HL.out]; exact HP32.out)
      rw [Hy.out] at cP
      clear hb3 HBk Ek
      by_cases hlt : k < D
      · have e0 : decide ((k : Int) < D) = true := by simp; omega
        have e1 : decide (k < D) = true := by simp; omega
        by_cases h0 : y = 0
        · have HF := Lib.hid (HZ.out h0)
          subst h0
          have e2 : ((0 : Int) != 0) = false := by decide
          go_wp2_with (refine wpList_load_blk rfl _ _ rfl _ rfl _ _ HB3.out _ Try.underlying24 rfl (Try.rxFits HL.out) ?_)
          refine (HDp.out _).mono ?_; rintro e w4 ⟨rfl, hb4⟩
          have E4 := Lib.hid (bt E3.out hb4)
          clear hb4
          go_wp2_with fail
          go_ret
          rw [HF.out]
          exact ⟨rfl, E4.out⟩
        · have e2 : (y != 0) = true := by simpa using h0
          have HUk := Lib.hid (HUp.out k h0 (Nat.le_of_lt hlt))
          have Hy0 := Lib.hid h0
          clear h0
          go_wp2_with fail
          obtain ⟨w4, hw4⟩ : ∃ x, x = w3 := ⟨_, rfl⟩
          subst hw4
          go_loopw [7, 8] (fun v i wr => ∃ j : Nat, j ≤ M ∧ i = .int .i64 j ∧ v = .bool (sameK t P k j) ∧ Hid (Blk wr w.heap.size 24 (icells (d :: t))) ∧ Hid (Below w.heap.size w wr)) (fun _ i _ => M - (intOf i).toNat)
          case atStart => exact ⟨0, Nat.zero_le _, rfl, rfl, HB3, E3⟩
          case round =>
            obtain ⟨j, hj, rfl, rfl, HBj, Ej⟩ := hrel
            obtain ⟨a, Ha⟩ : ∃ a, Hid (sameK t P k j = a) := ⟨_, Lib.hid rfl⟩
            rw [Ha.out]
            by_cases hjt : j < M
            · have f0 : decide ((j : Int) < M) = true := by simp; omega
              have f1 : decide (j < M) = true := by simp; omega
              have j0 : 0 ≤ (j : Int) := by omega
              have j1 : (j : Int) < 32 := by omega
              have HJ := Lib.hid (show j < 32 by omega)
              have HS := Lib.hid (sameK_succ t P k j)
              rw [Ha.out] at HS
              cases a
              · have HN2 := Lib.hid (show sameK t P k (j + 1) = false by rw [HS.out]; rfl)
                clear HS
                go_wp2_with fail
                refine WH.start (S := (fun w' : World => Blk w' w.heap.size 24 (icells (d :: t)))) [false, false, false, false, false, false, false, false, false, false, false, false, false, false, false, false, false, false, false, false] 20 rfl rfl (by kernel_rfl) (HBj.out.ext (bdrew _ 1)) (fun hSn => ?_); obtain ⟨wS, hwS⟩ : ∃ x, (wr).drew = x := ⟨_, rfl⟩; have HE := Lib.hid (show Below (wr).heap.size (wr) wS from hwS ▸ bdrew wr 1); rw [hwS] at hSn ⊢; clear hwS
                refine WH.tk 0 ?_; simp only [setL]
                refine WH.tk 1 ?_; simp only [setL]
                refine WH.skip 2 _ rfl (by kernel_rfl) (fun _ _ _ h => h) rfl (by assumption) ?_; simp only [setL]
                refine WH.skip 3 _ rfl (by kernel_rfl) (fun _ _ _ h => h) rfl (by assumption) ?_; simp only [setL]
                refine WH.skip 4 _ rfl (by kernel_rfl) (fun _ _ _ h => h) rfl (by assumption) ?_; simp only [setL]
                refine WH.onlySkip 5 _ rfl (by kernel_rfl) rfl (by assumption) ?_; simp only [setL]
                refine WH.skip 6 _ rfl (by kernel_rfl) (fun _ _ _ h => h) rfl (by assumption) ?_; simp only [setL]
                refine WH.skip 7 _ rfl (by kernel_rfl) (fun _ _ _ h => h) rfl (by assumption) ?_; simp only [setL]
                refine WH.skip 8 _ rfl (by kernel_rfl) (fun _ _ _ h => h) rfl (by assumption) ?_; simp only [setL]
                refine WH.skip 9 _ rfl (by kernel_rfl) (fun _ _ _ h => h) rfl (by assumption) ?_; simp only [setL]
                refine WH.skip 10 _ rfl (by kernel_rfl) (fun _ _ _ h => h) rfl (by assumption) ?_; simp only [setL]
                refine WH.skip 11 _ rfl (by kernel_rfl) (fun _ _ _ h => h) rfl (by assumption) ?_; simp only [setL]
                refine WH.skip 12 _ rfl (by kernel_rfl) (fun _ _ _ h => h) rfl (by assumption) ?_; simp only [setL]
                refine WH.skip 13 _ rfl (by kernel_rfl) (fun _ _ _ h => h) rfl (by assumption) ?_; simp only [setL]
                refine WH.skip 14 _ rfl (by kernel_rfl) (fun _ _ _ h => h) rfl (by assumption) ?_; simp only [setL]
                refine WH.skip 15 _ rfl (by kernel_rfl) (fun _ _ _ h => h) rfl (by assumption) ?_; simp only [setL]
                refine WH.skip 16 _ rfl (by kernel_rfl) (fun _ _ _ h => h) rfl (by assumption) ?_; simp only [setL]
                refine WH.skip 17 _ rfl (by kernel_rfl) (fun _ _ _ h => h) rfl (by assumption) ?_; simp only [setL]
                refine WH.tk 18 ?_; simp only [setL]
                refine WH.tk 19 ?_; simp only [setL]
                refine WH.done (by kernel_rfl) ?_
                have HBn := Lib.hid hSn
                have En := Lib.hid (bt Ej.out HE.out)
                clear HE hSn HBj Ej
                go_wp2_with fail
                go_roundw
                case rel => exact ⟨j + 1, by omega, by go_num, by rw [HN2.out], HBn, En⟩
                case measure => simp [intOf]; omega
              · obtain ⟨q, Hq⟩ : ∃ q, Hid (isB k j P = q) := ⟨_, Lib.hid rfl⟩
                rw [Hq.out] at HS
                cases q
                · have HN2 := Lib.hid (show sameK t P k (j + 1) = true by rw [HS.out]; rfl)
                  clear HS
                  go_wp2_with fail
                  refine WH.start (S := (fun w' : World => Blk w' w.heap.size 24 (icells (d :: t)))) [false, false, false, false, false, false, false, false, false, false, false, false, false, false, false, false, false, false, false, false] 20 rfl rfl (by kernel_rfl) (HBj.out.ext (bdrew _ 1)) (fun hSn => ?_); obtain ⟨wS, hwS⟩ : ∃ x, (wr).drew = x := ⟨_, rfl⟩; have HE := Lib.hid (show Below (wr).heap.size (wr) wS from hwS ▸ bdrew wr 1); rw [hwS] at hSn ⊢; clear hwS
                  refine WH.tk 0 ?_; simp only [setL]
                  refine WH.tk 1 ?_; simp only [setL]
                  refine WH.tk 2 ?_; simp only [setL]
                  refine WH.tk 3 ?_; simp only [setL]
                  refine WH.tk 4 ?_; simp only [setL]
                  refine WH.only 5 _ rfl (by kernel_rfl) rfl (fun K hK => ?_)
                  go_simp; refine (HIs.out j k hjt hk _).mono ?_; rintro e wa ⟨rfl, ma, rfl⟩; go_simp
                  rw [Hq.out]
                  have HE := Lib.hid (bt HE.out (bdrew wS ma))
                  have hSn := hSn.ext (bdrew wS ma); refine hK _ _ hSn ?_; clear hK; clear K; simp only [setL]
                  refine WH.tk 6 ?_; simp only [setL]
                  refine WH.tk 7 ?_; simp only [setL]
                  refine WH.skip 8 _ rfl (by kernel_rfl) (fun _ _ _ h => h) rfl (by assumption) ?_; simp only [setL]
                  refine WH.skip 9 _ rfl (by kernel_rfl) (fun _ _ _ h => h) rfl (by assumption) ?_; simp only [setL]
                  refine WH.skip 10 _ rfl (by kernel_rfl) (fun _ _ _ h => h) rfl (by assumption) ?_; simp only [setL]
                  refine WH.skip 11 _ rfl (by kernel_rfl) (fun _ _ _ h => h) rfl (by assumption) ?_; simp only [setL]
                  refine WH.skip 12 _ rfl (by kernel_rfl) (fun _ _ _ h => h) rfl (by assumption) ?_; simp only [setL]
                  refine WH.skip 13 _ rfl (by kernel_rfl) (fun _ _ _ h => h) rfl (by assumption) ?_; simp only [setL]
                  refine WH.skip 14 _ rfl (by kernel_rfl) (fun _ _ _ h => h) rfl (by assumption) ?_; simp only [setL]
                  refine WH.skip 15 _ rfl (by kernel_rfl) (fun _ _ _ h => h) rfl (by assumption) ?_; simp only [setL]
                  refine WH.skip 16 _ rfl (by kernel_rfl) (fun _ _ _ h => h) rfl (by assumption) ?_; simp only [setL]
                  refine WH.tk 17 ?_; simp only [setL]
                  refine WH.tk 18 ?_; simp only [setL]
                  refine WH.tk 19 ?_; simp only [setL]
                  refine WH.done (by kernel_rfl) ?_
                  have HBn := Lib.hid hSn
                  have En := Lib.hid (bt Ej.out HE.out)
                  obtain ⟨wn, hwn⟩ : ∃ x, wS.drewN ma = x := ⟨_, rfl⟩
                  rw [hwn] at HBn En ⊢
                  clear HE hSn HBj Ej hwn
                  go_wp2_with fail
                  go_roundw
                  case rel => exact ⟨j + 1, by omega, by go_num, by rw [HN2.out], HBn, En⟩
                  case measure => simp [intOf]; omega
                · obtain ⟨x, Hx⟩ : ∃ x, Hid (fld t j = x) := ⟨_, Lib.hid rfl⟩
                  obtain ⟨z, Hz⟩ : ∃ z, Hid ((x == y) = z) := ⟨_, Lib.hid rfl⟩
                  have HN2 := Lib.hid (show sameK t P k (j + 1) = z by rw [HS.out, Hx.out, Hy.out, Hz.out]; rfl)
                  have hz := Hz.out
                  clear HS
                  go_wp2_with fail
                  refine WH.start (S := (fun w' : World => Blk w' w.heap.size 24 (icells (d :: t)))) [false, false, false, false, false, false, false, false, false, false, false, false, false, false, false, false, false, false, false, false] 20 rfl rfl (by kernel_rfl) (HBj.out.ext (bdrew _ 1)) (fun hSn => ?_); obtain ⟨wS, hwS⟩ : ∃ x, (wr).drew = x := ⟨_, rfl⟩; have HE := Lib.hid (show Below (wr).heap.size (wr) wS from hwS ▸ bdrew wr 1); rw [hwS] at hSn ⊢; clear hwS
                  refine WH.tk 0 ?_; simp only [setL]
                  refine WH.tk 1 ?_; simp only [setL]
                  refine WH.tk 2 ?_; simp only [setL]
                  refine WH.tk 3 ?_; simp only [setL]
                  refine WH.tk 4 ?_; simp only [setL]
                  refine WH.only 5 _ rfl (by kernel_rfl) rfl (fun K hK => ?_)
                  go_simp; refine (HIs.out j k hjt hk _).mono ?_; rintro e wa ⟨rfl, ma, rfl⟩; go_simp
                  rw [Hq.out]
                  have HE := Lib.hid (bt HE.out (bdrew wS ma))
                  have hSn := hSn.ext (bdrew wS ma); refine hK _ _ hSn ?_; clear hK; clear K; simp only [setL]
                  refine WH.tk 6 ?_; simp only [setL]
                  refine WH.tk 7 ?_; simp only [setL]
                  refine WH.tk 8 ?_; simp only [setL]
                  refine WH.tk 9 ?_; simp only [setL]
                  refine WH.tk 10 ?_; simp only [setL]
                  refine WH.tv 11 rfl (fun w' hSw => exec_load_cell _ _ rfl ⟨w.heap.size, 1 + j, none⟩ rfl _ (int_cell hSw j (by rw [HL.out]; exact HJ.out)) _ Try.underlying3 rfl) ?_; simp only [setL]
                  refine WH.tk 12 ?_; simp only [setL]
                  refine WH.tk 13 ?_; simp only [setL]
                  refine WH.tk 14 ?_; simp only [setL]
                  refine WH.tv 15 rfl (fun w' hSw => exec_load_cell _ _ rfl ⟨w.heap.size, 1 + P, none⟩ rfl _ (int_cell hSw P (by rw [HL.out]; exact HP32.out)) _ Try.underlying3 rfl) ?_; simp only [setL]
                  rw [Hx.out, Hy.out]
                  refine WH.tk 16 ?_; simp only [setL]
                  refine WH.tk 17 ?_; simp only [setL]
                  refine WH.tk 18 ?_; simp only [setL]
                  refine WH.tk 19 ?_; simp only [setL]
                  refine WH.done (by kernel_rfl) ?_
                  have HBn := Lib.hid hSn
                  have En := Lib.hid (bt Ej.out HE.out)
                  obtain ⟨wn, hwn⟩ : ∃ x, wS.drewN ma = x := ⟨_, rfl⟩
                  rw [hwn] at HBn En ⊢
                  clear HE hSn HBj Ej hwn
                  go_wp2_with fail
                  go_roundw
                  case rel => exact ⟨j + 1, by omega, by go_num, by rw [HN2.out], HBn, En⟩
                  case measure => simp [intOf]; omega
            · obtain rfl : j = M := by omega
              have f0 : decide ((j : Int) < j) = false := by simp
              have HSk := Lib.hid (show sameB D t P k = a by rw [HSa.out, Ha.out])
              cases a
              · have HN2 := Lib.hid (show ∀ i, i < k + 1 → y ≠ 0 ∧ sameB D t P i = false from fun i hi => by
                  by_cases e : i = k
                  · rw [e]; exact ⟨Hy0.out, HSk.out⟩
                  · exact HN.out i (by omega))
                go_wp2_with fail
                go_roundw
                case rel => exact ⟨k + 1, by omega, by go_num, HN2, HBj, Ej⟩
                case measure => simp [intOf]; omega
              · have HF := Lib.hid (show R = k by rw [HRb.out]; exact HUk.out (fun _ => HSk.out) fun i hi => (HN.out i hi).2)
                go_wp2_with fail
                go_ret
                rw [HF.out]
                exact ⟨rfl, Ej.out⟩
      · obtain rfl : k = D := by omega
        have e0 : decide ((k : Int) < k) = false := by simp
        have HF := Lib.hid (show R = k by
          by_cases h0 : y = 0
          · exact HZ.out h0
          · rw [HRb.out]
            exact HUp.out k h0 (Nat.le_refl _) (fun h => absurd h (Nat.lt_irrefl _)) fun i hi => (HN.out i hi).2)
        go_upto_region 14 with fail
        go_wp2_with (refine wpList_load_blk rfl _ _ rfl _ rfl _ _ HB3.out _ Try.underlying24 rfl (Try.rxFits HL.out) ?_)
        refine (HDp.out _).mono ?_; rintro e w4 ⟨rfl, hb4⟩
        have E4 := Lib.hid (bt E3.out hb4)
        clear hb4
        go_wp2_with fail
        go_ret
        rw [HF.out]
        exact ⟨rfl, E4.out⟩
  · have HN := Lib.hid (show R = 0 by
      rw [← HR.out]
      unfold bitX
      rw [if_neg hin])
    obtain ⟨D, hD⟩ : ∃ D, dpN d = D := ⟨_, rfl⟩
    rw [hD] at HDp HPow hin h32
    obtain ⟨M, hM⟩ : ∃ M, 2 ^ D = M := ⟨_, rfl⟩
    rw [hM] at HPow hin h32
    by_cases hp0 : p < 0
    · clear hin h5 hD hM
      go_enter Try.func20, Try.ntmps20
      go_wp2_with (refine wpList_box_row rfl _ _ rfl _ rfl ?_)
      apply Stop.go; intro w1 Hg1 Hb1
      go_wp2_with (refine wpList_load_blk rfl _ _ rfl _ rfl _ _ Hb1.out _ Try.underlying24 rfl (Try.rxFits HL.out) ?_)
      refine (HDp.out _).mono ?_; rintro e w2 ⟨rfl, hb2⟩
      have E2 := Lib.hid (bt Hg1.out.1 hb2)
      clear hb2
      go_wp2_with fail
      refine (HPow.out _).mono ?_; rintro e wx ⟨rfl, rfl⟩
      go_wp2_with fail
      go_ret
      rw [HN.out]
      exact ⟨rfl, E2.out⟩
    · have d1 : decide ((M : Int) ≤ p) = true := by simp; omega
      clear hin h5 hD hM
      go_enter Try.func20, Try.ntmps20
      go_wp2_with (refine wpList_box_row rfl _ _ rfl _ rfl ?_)
      apply Stop.go; intro w1 Hg1 Hb1
      go_wp2_with (refine wpList_load_blk rfl _ _ rfl _ rfl _ _ Hb1.out _ Try.underlying24 rfl (Try.rxFits HL.out) ?_)
      refine (HDp.out _).mono ?_; rintro e w2 ⟨rfl, hb2⟩
      have E2 := Lib.hid (bt Hg1.out.1 hb2)
      clear hb2
      go_wp2_with fail
      refine (HPow.out _).mono ?_; rintro e wx ⟨rfl, rfl⟩
      go_wp2_with fail
      go_ret
      rw [HN.out]
      exact ⟨rfl, E2.out⟩

end Go.Proofs.Ythcbjihdbkpkeaa
