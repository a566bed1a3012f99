/-
  The contract of the document's answer 19: Get.
-/
import Derived.Test.YthcbjihdbkpkeaaRf6
namespace Go.Proofs.Ythcbjihdbkpkeaa
open Go.RowKit

set_option maxHeartbeats 3200000 in
theorem rget19_any (A : Option Addr) (cap : Nat) (b : List UInt8) (hb : b.length = 256) (w : World) (hr : RB w A b) :
    Calls Try.prog 14 #[.slice A 256 cap] w fun e w' => e = .returned (.tuple #[.agg (icells (getD_ b :: getT_ b)), .bool (getB b)]) ∧ Below w.heap.size w w' := by
  have HbL := Lib.hid hb
  have Hr := Lib.hid hr
  have HzL := Lib.hid zeroT_len
  have HGL := Lib.hid (gotT_len b)
  have HXL := Lib.hid (gotX_len b)
  have HSt := Lib.hid (gotX_step b)
  obtain ⟨GD, HGD⟩ : ∃ GD, Hid (gotD b = GD) := ⟨_, Lib.hid rfl⟩
  have HN0 := Lib.hid (show ((getN b 4 1 4 : Nat) : Int) = GD by rw [← HGD.out]; exact congrArg (fun x : Nat => (x : Int)) (getN_in b hb 4 1 (by omega) (by omega) (by omega)))
  have HNk := Lib.hid (fun (k : Nat) (hk : k < 32) => show getN b ((32 + 2 * k : Nat) : Int) 2 4 = leV b (32 + 2 * k) 2 from getN_in b hb (32 + 2 * k) 2 (by omega) (by omega) (by omega))
  have HX0 := Lib.hid (gotX_zero b)
  obtain ⟨GT, HGT⟩ : ∃ GT, Hid (gotT b = GT) := ⟨_, Lib.hid rfl⟩
  have HXE := Lib.hid (show gotX b 32 = GT from HGT.out)
  rw [HGT.out] at HGL
  obtain ⟨RD, HRD⟩ : ∃ RD, Hid (getD_ b = RD) := ⟨_, Lib.hid rfl⟩
  obtain ⟨RT, HRT⟩ : ∃ RT, Hid (getT_ b = RT) := ⟨_, Lib.hid rfl⟩
  obtain ⟨rb, HRB⟩ : ∃ rb, Hid (getB b = rb) := ⟨_, Lib.hid rfl⟩
  have HQ := Lib.hid (show rb = (mayX GD GT && (putX GD GT == b && shortT (dpN GD) GT == GT)) by rw [← HRB.out, ← HGD.out, ← HGT.out]; rfl)
  have HQD := Lib.hid (show RD = if rb then GD else 0 by rw [← HRD.out, ← HGD.out, ← HRB.out]; rfl)
  have HQT := Lib.hid (show RT = if rb then GT else zeroT by rw [← HRT.out, ← HGT.out, ← HRB.out]; rfl)
  rw [HRD.out, HRT.out, HRB.out]
  have hm0 : 256 ≤ maxLen := by unfold maxLen; omega
  have Hm0 := Lib.hid hm0
  clear HRD HRT HRB HGD HGT hm0
  go_enter Try.func14, Try.ntmps14
  go_wp2_with (refine wpList_alloc_row rfl _ rfl _ Try.rxZero ?_)
  apply Stop.go; intro w2 Hg2 Hb2
  have E2 := Lib.hid Hg2.out.1
  have Hr2 := Lib.hid (Hr.out.below E2.out)
  have HZ2 := Lib.hid Hb2.out.lt
  clear Hg2
  go_wp2_with fail
  refine (nrat_any A 256 cap b HbL.out Hm0.out 4 1 _ Hr2.out).mono ?_; rintro e wx ⟨rfl, rfl⟩
  rw [HN0.out]
  go_wp2_with (first | refine wpList_build_1 rfl _ _ _ rfl _ rfl _ (Try.rxBuilt1 GD) ?_ | refine wpList_alloc_row rfl _ rfl _ Try.rxZero ?_)
  apply Stop.go; intro w4 Hg4 Hb4
  go_wp2_with (refine wpList_store_arr rfl _ _ _ rfl _ _ rfl rfl _ _ Hb4.out (Try.rxFits HzL.out) (icells_same HzL.out HzL.out) (oneCell_icells _) ?_)
  apply Stop.go; intro w5 Ho5 Hb5
  have HR5 := Lib.hid ((Hb2.out.ext Hg4.out.1).only Ho5.out (by have := HZ2.out; omega))
  have E5 := Lib.hid (bonly (bt E2.out Hg4.out.1) Ho5.out (by have := HZ2.out; omega))
  have HG := Lib.hid (show w.heap.size < w2.heap.size from HZ2.out)
  generalize w2.heap.size = g3 at *
  have hx5 := Hb5.out
  rw [← HX0.out] at hx5
  have HX5 := Lib.hid hx5
  clear Hg4 Hb4 Ho5 Hb5 hx5 HX0 HZ2 Hr2 E2 Hb2
  go_wp2_with fail
  go_loopw [5] (fun i wr => ∃ k : Nat, k ≤ 32 ∧ i = .int .i64 k ∧ Hid (Blk wr w.heap.size 24 (icells (0 :: zeroT))) ∧ Hid (Blk wr g3 24 (icells (GD :: gotX b k))) ∧ Hid (Below w.heap.size w wr)) (fun i _ => 32 - (intOf i).toNat)
  case atStart => exact ⟨0, Nat.zero_le _, rfl, HR5, HX5, E5⟩
  case round =>
    obtain ⟨k, hk, rfl, HRk, HXk, Ek⟩ := hrel
    have Hrk := Lib.hid (Hr.out.below Ek.out)
    by_cases hlt : k < 32
    · have d0 : decide ((k : Int) < 32) = true := by simp; omega
      have k0 : 0 ≤ (k : Int) := by omega
      have k1 : (k : Int) < 32 := by omega
      have hfit : 1 + k < (icells (GD :: gotX b k)).size := by rw [icells_size, List.length_cons, HXL.out k]; omega
      have Hfit := Lib.hid hfit
      have hnk := HNk.out k hlt
      have hsk := HSt.out k hlt
      obtain ⟨y, hy⟩ : ∃ y, leV b (32 + 2 * k) 2 = y := ⟨_, rfl⟩
      rw [hy] at hnk hsk
      rw [show ((32 + 2 * k : Nat) : Int) = 32 + 2 * (k : Int) from by omega] at hnk
      have HN := Lib.hid hnk
      have HS := Lib.hid hsk
      clear hfit hnk hsk hy
      go_wp2_with fail
      refine (nrat_any A 256 cap b HbL.out Hm0.out _ _ _ Hrk.out).mono ?_; rintro e wx ⟨rfl, rfl⟩
      rw [HN.out]
      go_wp2_with (refine wpList_store_cell rfl _ _ _ rfl Try.int1Size g3 (1 + k) rfl (.int .i64 y) rfl rfl rfl _ _ HXk.out Hfit.out ?_)
      apply Stop.go; intro wb Hob Hbb
      have hbb := Hbb.out
      rw [icells_put, HS.out] at hbb
      have HXb := Lib.hid hbb
      have HRb := Lib.hid (HRk.out.only Hob.out (by have := HG.out; omega))
      have Eb := Lib.hid (bonly Ek.out Hob.out (by have := HG.out; omega))
      clear hbb Hbb Hob HXk HRk Ek Hrk
      go_wp2_with fail
      go_roundw
      case rel => exact ⟨k + 1, by omega, by go_num, HRb, HXb, Eb⟩
      case measure => simp [intOf]; omega
    · obtain rfl : k = 32 := by omega
      have d0 : decide ((32 : Int) < 32) = false := by simp
      rw [HXE.out] at HXk
      obtain ⟨m, Hm⟩ : ∃ m, Hid (mayX GD GT = m) := ⟨_, Lib.hid rfl⟩
      rw [Hm.out] at HQ
      have HMa := Lib.hid (mayX_at (d := GD) HGL.out)
      obtain ⟨P, HP⟩ : ∃ P, Hid (rputX GD GT = P) := ⟨_, Lib.hid rfl⟩
      have HU := Lib.hid (show P = if m then putX GD GT else [] by rw [← HP.out]; unfold rputX; rw [Hm.out])
      have HPm := Lib.hid (show P.length ≤ 256 by
        rw [HU.out]
        split
        · rw [putX_len HGL.out]; exact Nat.le_refl _
        · simp)
      clear HXE HSt HXL HNk Hrk
      go_wp2_with (refine wpList_load_blk rfl _ _ rfl _ rfl _ _ HXk.out _ Try.underlying24 rfl (Try.rxFits HGL.out) ?_)
      refine (rput19_any GD GT HGL.out _).mono ?_; rintro e w6 ⟨A6, n6, c6, rfl, hl6, hc6, hm6, hr6, hb6⟩
      rw [HP.out] at hl6 hr6
      rw [Hm.out]
      have HR6 := Lib.hid (HRk.out.ext hb6)
      have HX6 := Lib.hid (HXk.out.ext hb6)
      have E6 := Lib.hid (bt Ek.out hb6)
      have Hr6 := Lib.hid (Hr.out.below E6.out)
      have HL6 := Lib.hid hl6
      have HRP := Lib.hid hr6
      have HN6 := Lib.hid (show n6 ≤ maxLen by rw [← hl6]; have := HPm.out; unfold maxLen; omega)
      clear hl6 hc6 hm6 hr6 hb6 HRk HXk Ek
      cases m
      · obtain rfl : rb = false := HQ.out
        obtain rfl : RD = 0 := HQD.out
        obtain rfl : RT = zeroT := HQT.out
        go_upto_region 8 with fail
        go_wp2_with (first | refine wpList_build_nil rfl _ rfl _ Try.rxBuilt0 ?_ | refine wpList_store_arr rfl _ _ _ rfl _ _ rfl rfl _ _ HR6.out (Try.rxFits HzL.out) (icells_same HzL.out HzL.out) (oneCell_icells _) ?_)
        apply Stop.go; intro we Hoe Hbe
        go_wp2_with ((with_reducible show bodyPost _ _ _ _ _ _); refine bodyPost_struct_tmp rfl _ rfl _ _ Hbe.out _ Try.underlying24 rfl (Try.rxFits HzL.out) rfl _ rfl ?_)
        apply Stop.go
        exact bonly E6.out Hoe.out (Nat.le_refl _)
      · obtain ⟨q1, H1⟩ : ∃ q, Hid (decide (P = b) = q) := ⟨_, Lib.hid rfl⟩
        have hin := of_decide_eq_true (show decide (0 ≤ GD ∧ GD ≤ 5) = true from (HMa.out.1 Hm.out).2)
        obtain ⟨D, rfl⟩ := Int.eq_ofNat_of_zero_le hin.1
        have hDD : dpN (D : Int) = D := by unfold dpN; omega
        have h5 : D ≤ 5 := by omega
        rw [hDD] at HQ
        have HQ2 := Lib.hid (show rb = (q1 && decide (∀ i, i < 32 → 2 ^ D ≤ i → fld GT i = 0)) by
          have hu : P = putX (D : Int) GT := HU.out
          rw [HQ.out, ← hu, ← H1.out, Bool.true_and]
          congr 1
          · rw [Bool.eq_iff_iff]; simp
          · rw [Bool.eq_iff_iff, decide_eq_true_eq, ← shortT_iff HGL.out]; simp)
        have HPow := Lib.hid (fun (w : World) => rpow_any D h5 w)
        have h32 := pow32 h5
        have HSa := Lib.hid (same_any A6 n6 c6 P HL6.out A 256 cap b HbL.out HN6.out Hm0.out _ HRP.out Hr6.out)
        rw [H1.out] at HSa
        clear HQ HU HP Hm HMa hin hDD HRP HL6 HN6 HPm H1
        cases q1
        · obtain rfl : rb = false := HQ2.out
          obtain rfl : RD = 0 := HQD.out
          obtain rfl : RT = zeroT := HQT.out
          go_wp2_with fail
          refine (HSa.out).mono ?_; rintro e w7 ⟨rfl, m7, rfl⟩
          have HR7 := Lib.hid (HR6.out.ext (bdrew w6 m7))
          have E7 := Lib.hid (bt E6.out (bdrew w6 m7))
          obtain ⟨w8, hw8⟩ : ∃ x, w6.drewN m7 = x := ⟨_, rfl⟩
          rw [hw8] at HR7 E7 ⊢
          clear hw8 HSa
          go_upto_region 8 with fail
          go_wp2_with (first | refine wpList_build_nil rfl _ rfl _ Try.rxBuilt0 ?_ | refine wpList_store_arr rfl _ _ _ rfl _ _ rfl rfl _ _ HR7.out (Try.rxFits HzL.out) (icells_same HzL.out HzL.out) (oneCell_icells _) ?_)
          apply Stop.go; intro we Hoe Hbe
          go_wp2_with ((with_reducible show bodyPost _ _ _ _ _ _); refine bodyPost_struct_tmp rfl _ rfl _ _ Hbe.out _ Try.underlying24 rfl (Try.rxFits HzL.out) rfl _ rfl ?_)
          apply Stop.go
          exact bonly E7.out Hoe.out (Nat.le_refl _)
        · obtain ⟨M, hM⟩ : ∃ M, 2 ^ D = M := ⟨_, rfl⟩
          rw [hM] at HQ2 HPow h32
          go_wp2_with fail
          refine (HSa.out).mono ?_; rintro e w7 ⟨rfl, m7, rfl⟩
          have HR7 := Lib.hid (HR6.out.ext (bdrew w6 m7))
          have HX7 := Lib.hid (HX6.out.ext (bdrew w6 m7))
          have E7 := Lib.hid (bt E6.out (bdrew w6 m7))
          obtain ⟨w8, hw8⟩ : ∃ x, w6.drewN m7 = x := ⟨_, rfl⟩
          rw [hw8] at HR7 HX7 E7 ⊢
          clear hw8 HSa hM h5 HR6 HX6 E6 Hr6
          have c0 := dep_cell HX7.out
          go_wp2_with fail
          refine (HPow.out _).mono ?_; rintro e wx ⟨rfl, rfl⟩
          clear c0
          go_wp2_with fail
          go_loopw [8] (fun i wr => ∃ k : Nat, M ≤ k ∧ k ≤ 32 ∧ i = .int .i64 k ∧ Hid (∀ j, M ≤ j → j < k → fld GT j = 0) ∧ Hid (Blk wr w.heap.size 24 (icells (0 :: zeroT))) ∧ Hid (Blk wr g3 24 (icells ((D : Int) :: GT))) ∧ Hid (Below w.heap.size w wr)) (fun i _ => 32 - (intOf i).toNat)
          case atStart => exact ⟨M, Nat.le_refl _, h32, rfl, Lib.hid (fun j h1 h2 => absurd h2 (by omega)), HR7, HX7, E7⟩
          case round =>
            obtain ⟨k, hMk, hk, rfl, HA, HRk, HXk, Ek⟩ := hrel
            by_cases hlt : k < 32
            · have e0 : decide ((k : Int) < 32) = true := by simp; omega
              have k0 : 0 ≤ (k : Int) := by omega
              have k1 : (k : Int) < 32 := by omega
              have ck := int_cell HXk.out k (by rw [HGL.out]; exact hlt)
              obtain ⟨x, hx⟩ : ∃ x, fld GT k = x := ⟨_, rfl⟩
              have Hx := Lib.hid hx
              rw [hx] at ck
              clear hx
              by_cases h0 : x = 0
              · have HT := Lib.hid (show ∀ j, M ≤ j → j < k + 1 → fld GT j = 0 from fun j h1 h2 => by
                  by_cases e : j = k
                  · rw [e, Hx.out, h0]
                  · exact HA.out j h1 (by omega))
                have e1 : (x != 0) = false := by simp [h0]
                clear h0
                go_wp2_with fail
                go_roundw
                case rel => exact ⟨k + 1, by omega, by omega, by go_num, HT, HRk, HXk, Ek⟩
                case measure => simp [intOf]; omega
              · have HF := Lib.hid (show rb = false by
                  rw [HQ2.out, Bool.true_and]
                  exact decide_eq_false fun h => h0 (by rw [← Hx.out]; exact h k hlt hMk))
                have e1 : (x != 0) = true := by simpa using h0
                clear h0
                go_upto_region 13 with fail
                go_wp2_with (first | refine wpList_build_nil rfl _ rfl _ Try.rxBuilt0 ?_ | refine wpList_store_arr rfl _ _ _ rfl _ _ rfl rfl _ _ HRk.out (Try.rxFits HzL.out) (icells_same HzL.out HzL.out) (oneCell_icells _) ?_)
                apply Stop.go; intro we Hoe Hbe
                obtain rfl : rb = false := HF.out
                obtain rfl : RD = 0 := HQD.out
                obtain rfl : RT = zeroT := HQT.out
                go_wp2_with ((with_reducible show bodyPost _ _ _ _ _ _); refine bodyPost_struct_tmp rfl _ rfl _ _ Hbe.out _ Try.underlying24 rfl (Try.rxFits HzL.out) rfl _ rfl ?_)
                apply Stop.go
                exact bonly Ek.out Hoe.out (Nat.le_refl _)
            · obtain rfl : k = 32 := by omega
              have e0 : decide ((32 : Int) < 32) = false := by simp
              obtain rfl : rb = true := by
                rw [HQ2.out, Bool.true_and]
                exact decide_eq_true fun i hi hMi => HA.out i hMi hi
              obtain rfl : RD = (D : Int) := HQD.out
              obtain rfl : RT = GT := HQT.out
              go_wp2_with (first | refine wpList_load_blk rfl _ _ rfl _ rfl _ _ HXk.out _ Try.underlying24 rfl (Try.rxFits HGL.out) ?_ | refine wpList_store_arr rfl _ _ _ rfl _ _ rfl rfl _ _ HRk.out (Try.rxFits HGL.out) (icells_same HzL.out HGL.out) (oneCell_icells _) ?_)
              apply Stop.go; intro we Hoe Hbe
              go_wp2_with ((with_reducible show bodyPost _ _ _ _ _ _); refine bodyPost_struct_tmp rfl _ rfl _ _ Hbe.out _ Try.underlying24 rfl (Try.rxFits HGL.out) rfl _ rfl ?_)
              apply Stop.go
              exact bonly Ek.out Hoe.out (Nat.le_refl _)

end Go.Proofs.Ythcbjihdbkpkeaa
