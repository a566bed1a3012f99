/-
  The contract of the document's answer 19: Class.
-/
import Derived.Test.YthcbjihdbkpkeaaRf2
namespace Go.Proofs.Ythcbjihdbkpkeaa
open Go.RowKit

/-- Of the first k places: have just those of the class the block? -/
def wbK (t : List Int) (v : Int) (F b k : Nat) : Bool := (List.range k).all fun i => (fld t i == v) == isB b i F
theorem wbK_succ (t : List Int) (v : Int) (F b k : Nat) : wbK t v F b (k + 1) = (wbK t v F b k && ((fld t k == v) == isB b k F)) := by
  unfold wbK
  rw [List.range_succ, List.all_append]
  simp

/-- The first place, once it is passed. -/
def fFst (F k : Nat) : Int := if F < k then (F : Int) else -1
theorem fFst_lo {F k : Nat} (h : ¬ F < k) : fFst F k = -1 := if_neg h
theorem fFst_hi {F k : Nat} (h : F < k) : fFst F k = F := if_pos h

set_option maxHeartbeats 6400000 in
theorem rclass_any (d : Int) (t : List Int) (ht : t.length = 32) (p : Nat) (hp : p < 2 ^ dpN d) (w : World) :
    Calls Try.prog 56 #[.agg (icells (d :: t)), .int .i64 (fld t p)] w fun e w' => (∃ z : Int, e = .returned (.tuple #[.int .i64 z, .bool (wholeB (dpN d) t p)])) ∧ Below w.heap.size w w' := by
  have HL := Lib.hid ht
  have h5 := dpN_le d
  have h32 := pow32 h5
  have HDp := Lib.hid (fun (w : World) => rdeep_any d t w)
  have HPow := Lib.hid (fun (w : World) => rpow_any (dpN d) h5 w)
  obtain ⟨F, hF⟩ : ∃ F, lstN (fun i => fld t i == fld t p) (2 ^ dpN d) = F := ⟨_, rfl⟩
  have hsp := lstN_spec (fun i => fld t i == fld t p) (2 ^ dpN d)
  rw [hF] at hsp
  have hF1 : F < 2 ^ dpN d := by
    rcases Nat.lt_or_ge F (2 ^ dpN d) with h | h
    · exact h
    · have := hsp.2.2 p (by omega)
      simp at this
  have hFe : fld t F = fld t p := by simpa using hsp.2.1 hF1
  have HFl := Lib.hid (show ∀ j, j < F → fld t j ≠ fld t p from fun j hj => by simpa using hsp.2.2 j hj)
  obtain ⟨W, HW⟩ : ∃ W, Hid (wholeB (dpN d) t p = W) := ⟨_, Lib.hid rfl⟩
  have HWF := Lib.hid (show W = (List.range (dpN d + 1)).any fun b => wbK t (fld t p) F b (2 ^ dpN d) by
    rw [← HW.out, ← wholeB_same hp hF1 hFe]
    unfold wholeB wbK
    rw [hFe])
  have HIs := Lib.hid (fun (k b : Nat) (hk : k < 2 ^ dpN d) (hb : b ≤ dpN d) (w : World) => rxis_any k F b (by omega) (by omega) (by omega) w)
  rw [HW.out]
  obtain ⟨D, hD⟩ : ∃ D, dpN d = D := ⟨_, rfl⟩
  rw [hD] at HDp HPow hF1 h32 h5 HWF HIs
  obtain ⟨M, hM⟩ : ∃ M, 2 ^ D = M := ⟨_, rfl⟩
  rw [hM] at HPow hF1 h32 HWF HIs
  have HFe := Lib.hid hFe
  obtain ⟨y, hy⟩ : ∃ y, fld t p = y := ⟨_, rfl⟩
  rw [hy] at HFl HWF HFe ⊢
  have HYes := Lib.hid (show ∀ b, b ≤ D → wbK t y F b M = true → W = true from fun b hb h => by rw [HWF.out]; exact List.any_eq_true.2 ⟨b, List.mem_range.2 (by omega), h⟩)
  have HNo := Lib.hid (show (∀ b, b ≤ D → wbK t y F b M = false) → W = false from fun h => by
    rw [HWF.out, List.any_eq_false]
    intro b hb
    rw [h b (by have := List.mem_range.1 hb; omega)]
    simp)
  clear hsp hF hFe hD hM hy HW hp
  go_enter Try.func56, Try.ntmps56
  go_wp2_with (refine wpList_box_row rfl _ _ rfl _ rfl ?_)
  apply Stop.go; intro w1 Hg1 Hb1
  have E1 := Lib.hid Hg1.out.1
  go_wp2_with fail
  go_loopw [6, 7] (fun f i wr => ∃ k : Nat, k ≤ M ∧ i = .int .i64 k ∧ f = .int .i64 (fFst F k) ∧ Hid (Blk wr w.heap.size 24 (icells (d :: t))) ∧ Hid (Below w.heap.size w wr)) (fun _ i _ => M - (intOf i).toNat)
  case atStart => exact ⟨0, Nat.zero_le _, rfl, rfl, Hb1, E1⟩
  case round =>
    obtain ⟨k, hk, rfl, rfl, HBk, Ek⟩ := hrel
    go_wp2_with (refine wpList_load_blk rfl _ _ rfl _ rfl _ _ HBk.out _ Try.underlying24 rfl (Try.rxFits HL.out) ?_)
    refine (HDp.out _).mono ?_; rintro e w2 ⟨rfl, hb2⟩
    have HB2 := Lib.hid (HBk.out.ext hb2)
    have E2 := Lib.hid (bt Ek.out hb2)
    clear hb2 HBk Ek
    go_wp2_with fail
    refine (HPow.out _).mono ?_; rintro e wx ⟨rfl, rfl⟩
    by_cases hlt : k < M
    · have e0 : decide ((k : Int) < M) = true := by simp; omega
      have e1 : decide (k < M) = true := by simp; omega
      have k0 : 0 ≤ (k : Int) := by omega
      have k1 : (k : Int) < 32 := by omega
      have ck := int_cell HB2.out k (by rw [HL.out]; omega)
      rcases Nat.lt_trichotomy k F with hkF | hkF | hkF
      · rw [fFst_lo (show ¬ F < k by omega)]
        have hne := HFl.out k hkF
        have e2 : (fld t k == y) = false := by simpa using hne
        clear hne
        go_wp2_with fail
        go_roundw
        case rel => exact ⟨k + 1, by omega, by go_num, by rw [fFst_lo (show ¬ F < k + 1 by omega)], HB2, E2⟩
        case measure => simp [intOf]; omega
      · subst hkF
        rw [fFst_lo (show ¬ k < k by omega)]
        have e2 : (fld t k == y) = true := by simpa using HFe.out
        go_wp2_with fail
        go_roundw
        case rel => exact ⟨k + 1, by omega, by go_num, by rw [fFst_hi (show k < k + 1 by omega)], HB2, E2⟩
        case measure => simp [intOf]; omega
      · rw [fFst_hi hkF]
        have f2 : decide ((F : Int) < 0) = false := decide_eq_false (by omega)
        cases e2 : (fld t k == y)
        · go_wp2_with fail
          go_roundw
          case rel => exact ⟨k + 1, by omega, by go_num, by rw [fFst_hi (show F < k + 1 by omega)], HB2, E2⟩
          case measure => simp [intOf]; omega
        · go_wp2_with fail
          go_roundw
          case rel => exact ⟨k + 1, by omega, by go_num, by rw [fFst_hi (show F < k + 1 by omega)], HB2, E2⟩
          case measure => simp [intOf]; omega
    · obtain rfl : k = M := by omega
      have e0 : decide ((k : Int) < k) = false := by simp
      rw [fFst_hi hF1]
      have f2 : decide (0 ≤ (F : Int)) = true := decide_eq_true (by omega)
      go_wp2_with fail
      obtain ⟨w3, hw3⟩ : ∃ x, x = w2 := ⟨_, rfl⟩
      subst hw3
      go_loopw [8] (fun i wr => ∃ b : Nat, b ≤ D + 1 ∧ i = .int .i64 b ∧ Hid (∀ c, c < b → wbK t y F c k = false) ∧ Hid (Blk wr w.heap.size 24 (icells (d :: t))) ∧ Hid (Below w.heap.size w wr)) (fun i _ => D + 1 - (intOf i).toNat)
      case atStart => exact ⟨0, Nat.zero_le _, rfl, Lib.hid (fun j h => absurd h (Nat.not_lt_zero _)), HB2, E2⟩
      case round =>
        obtain ⟨b, hb, rfl, HN, HBb, Eb⟩ := hrel
        go_wp2_with (refine wpList_load_blk rfl _ _ rfl _ rfl _ _ HBb.out _ Try.underlying24 rfl (Try.rxFits HL.out) ?_)
        refine (HDp.out _).mono ?_; rintro e w4 ⟨rfl, hb4⟩
        have HB4 := Lib.hid (HBb.out.ext hb4)
        have E4 := Lib.hid (bt Eb.out hb4)
        clear hb4 HBb Eb
        by_cases hbD : b ≤ D
        · have g0 : decide ((b : Int) ≤ D) = true := by simp; omega
          have g1 : decide (b ≤ D) = true := by simp; omega
          go_wp2_with fail
          obtain ⟨w5, hw5⟩ : ∃ x, x = w4 := ⟨_, rfl⟩
          subst hw5
          go_loopw [9, 10] (fun v i wr => ∃ j : Nat, j ≤ k ∧ i = .int .i64 j ∧ v = .bool (wbK t y F b j) ∧ Hid (Blk wr w.heap.size 24 (icells (d :: t))) ∧ Hid (Below w.heap.size w wr)) (fun _ i _ => k - (intOf i).toNat)
          case atStart => exact ⟨0, Nat.zero_le _, rfl, rfl, HB4, E4⟩
          case round =>
            obtain ⟨j, hj, rfl, rfl, HBj0, Ej0⟩ := hrel
            obtain ⟨a, Ha⟩ : ∃ a, Hid (wbK t y F b j = a) := ⟨_, Lib.hid rfl⟩
            rw [Ha.out]
            go_wp2_with (refine wpList_load_blk rfl _ _ rfl _ rfl _ _ HBj0.out _ Try.underlying24 rfl (Try.rxFits HL.out) ?_)
            refine (HDp.out _).mono ?_; rintro e w6 ⟨rfl, hb6⟩
            have HBj := Lib.hid (HBj0.out.ext hb6)
            have Ej := Lib.hid (bt Ej0.out hb6)
            clear hb6 HBj0 Ej0
            go_wp2_with fail
            refine (HPow.out _).mono ?_; rintro e wx ⟨rfl, rfl⟩
            by_cases hjt : j < k
            · have f0 : decide ((j : Int) < k) = true := by simp; omega
              have f1 : decide (j < k) = true := by simp; omega
              have j0 : 0 ≤ (j : Int) := by omega
              have j1 : (j : Int) < 32 := by omega
              have HJ := Lib.hid (show j < 32 by omega)
              have HS := Lib.hid (wbK_succ t y F b j)
              rw [Ha.out] at HS
              cases a
              · have HN2 := Lib.hid (show wbK t y F b (j + 1) = false by rw [HS.out]; rfl)
                clear HS
                go_wp2_with fail
                refine WH.start (S := (fun w' : World => Blk w' w.heap.size 24 (icells (d :: t)))) [false, false, false, false, false, false, false, false, false, false, false, false, false, false, false] 15 rfl rfl (by kernel_rfl) (HBj.out.ext (bdrew _ 1)) (fun hSn => ?_); obtain ⟨wS, hwS⟩ : ∃ x, (w6).drew = x := ⟨_, rfl⟩; have HE := Lib.hid (show Below (w6).heap.size (w6) wS from hwS ▸ bdrew w6 1); rw [hwS] at hSn ⊢; clear hwS
                refine WH.tk 0 ?_; simp only [setL]
                refine WH.tk 1 ?_; simp only [setL]
                refine WH.skip 2 _ rfl (by kernel_rfl) (fun _ _ _ h => h) rfl (by assumption) ?_; simp only [setL]
                refine WH.skip 3 _ rfl (by kernel_rfl) (fun _ _ _ h => h) rfl (by assumption) ?_; simp only [setL]
                refine WH.skip 4 _ rfl (by kernel_rfl) (fun _ _ _ h => h) rfl (by assumption) ?_; simp only [setL]
                refine WH.skip 5 _ rfl (by kernel_rfl) (fun _ _ _ h => h) rfl (by assumption) ?_; simp only [setL]
                refine WH.skip 6 _ rfl (by kernel_rfl) (fun _ _ _ h => h) rfl (by assumption) ?_; simp only [setL]
                refine WH.skip 7 _ rfl (by kernel_rfl) (fun _ _ _ h => h) rfl (by assumption) ?_; simp only [setL]
                refine WH.skip 8 _ rfl (by kernel_rfl) (fun _ _ _ h => h) rfl (by assumption) ?_; simp only [setL]
                refine WH.skip 9 _ rfl (by kernel_rfl) (fun _ _ _ h => h) rfl (by assumption) ?_; simp only [setL]
                refine WH.skip 10 _ rfl (by kernel_rfl) (fun _ _ _ h => h) rfl (by assumption) ?_; simp only [setL]
                refine WH.onlySkip 11 _ rfl (by kernel_rfl) rfl (by assumption) ?_; simp only [setL]
                refine WH.skip 12 _ rfl (by kernel_rfl) (fun _ _ _ h => h) rfl (by assumption) ?_; simp only [setL]
                refine WH.tk 13 ?_; simp only [setL]
                refine WH.tk 14 ?_; simp only [setL]
                refine WH.done (by kernel_rfl) ?_
                have HBn := Lib.hid hSn
                have En := Lib.hid (bt Ej.out HE.out)
                clear HE hSn HBj Ej
                go_wp2_with fail
                go_roundw
                case rel => exact ⟨j + 1, by omega, by go_num, by rw [HN2.out], HBn, En⟩
                case measure => simp [intOf]; omega
              · obtain ⟨q, Hq⟩ : ∃ q, Hid (isB b j F = q) := ⟨_, Lib.hid rfl⟩
                obtain ⟨x, Hx⟩ : ∃ x, Hid (fld t j = x) := ⟨_, Lib.hid rfl⟩
                obtain ⟨z, Hz⟩ : ∃ z, Hid ((x == y) = z) := ⟨_, Lib.hid rfl⟩
                have HN2 := Lib.hid (show wbK t y F b (j + 1) = (z == q) by rw [HS.out, Hq.out, Hx.out, Hz.out, Bool.true_and])
                have hz := Hz.out
                clear HS
                go_wp2_with fail
                refine WH.start (S := (fun w' : World => Blk w' w.heap.size 24 (icells (d :: t)))) [false, false, false, false, false, false, false, false, false, false, false, false, false, false, false] 15 rfl rfl (by kernel_rfl) (HBj.out.ext (bdrew _ 1)) (fun hSn => ?_); obtain ⟨wS, hwS⟩ : ∃ x, (w6).drew = x := ⟨_, rfl⟩; have HE := Lib.hid (show Below (w6).heap.size (w6) wS from hwS ▸ bdrew w6 1); rw [hwS] at hSn ⊢; clear hwS
                refine WH.tk 0 ?_; simp only [setL]
                refine WH.tk 1 ?_; simp only [setL]
                refine WH.tk 2 ?_; simp only [setL]
                refine WH.tk 3 ?_; simp only [setL]
                refine WH.tk 4 ?_; simp only [setL]
                refine WH.tv 5 rfl (fun w' hSw => exec_load_cell _ _ rfl ⟨w.heap.size, 1 + j, none⟩ rfl _ (int_cell hSw j (by rw [HL.out]; exact HJ.out)) _ Try.underlying3 rfl) ?_; simp only [setL]
                rw [Hx.out]
                refine WH.tk 6 ?_; simp only [setL]
                refine WH.tk 7 ?_; simp only [setL]
                refine WH.tk 8 ?_; simp only [setL]
                refine WH.tk 9 ?_; simp only [setL]
                refine WH.tk 10 ?_; simp only [setL]
                refine WH.only 11 _ rfl (by kernel_rfl) rfl (fun K hK => ?_)
                go_simp; refine (HIs.out j b hjt hbD _).mono ?_; rintro e wa ⟨rfl, ma, rfl⟩; go_simp
                rw [Hq.out]
                have HE := Lib.hid (bt HE.out (bdrew wS ma))
                have hSn := hSn.ext (bdrew wS ma); refine hK _ _ hSn ?_; clear hK; clear K; simp only [setL]
                refine WH.tk 12 ?_; simp only [setL]
                refine WH.tk 13 ?_; simp only [setL]
                refine WH.tk 14 ?_; simp only [setL]
                refine WH.done (by kernel_rfl) ?_
                have HBn := Lib.hid hSn
                have En := Lib.hid (bt Ej.out HE.out)
                obtain ⟨wn, hwn⟩ : ∃ x, wS.drewN ma = x := ⟨_, rfl⟩
                rw [hwn] at HBn En ⊢
                clear HE hSn HBj Ej hwn hz
                go_wp2_with fail
                go_roundw
                case rel => exact ⟨j + 1, by omega, by go_num, by rw [HN2.out], HBn, En⟩
                case measure => simp [intOf]; omega
            · obtain rfl : j = k := by omega
              have f0 : decide ((j : Int) < j) = false := by simp
              cases a
              · have HN2 := Lib.hid (show ∀ c, c < b + 1 → wbK t y F c j = false from fun c hc => by
                  by_cases e : c = b
                  · rw [e]; exact Ha.out
                  · exact HN.out c (by omega))
                go_wp2_with fail
                go_roundw
                case rel => exact ⟨b + 1, by omega, by go_num, HN2, HBj, Ej⟩
                case measure => simp [intOf]; omega
              · have HR := Lib.hid (HYes.out b hbD Ha.out)
                go_wp2_with fail
                go_ret2
                rw [HR.out]
                exact ⟨⟨_, rfl⟩, Ej.out⟩
        · have g0 : decide ((b : Int) ≤ D) = false := by simp; omega
          have g1 : decide (b ≤ D) = false := by simp; omega
          have HR := Lib.hid (HNo.out fun c hc => HN.out c (by omega))
          go_wp2_with fail
          go_ret2
          rw [HR.out]
          exact ⟨⟨_, rfl⟩, E4.out⟩

end Go.Proofs.Ythcbjihdbkpkeaa
