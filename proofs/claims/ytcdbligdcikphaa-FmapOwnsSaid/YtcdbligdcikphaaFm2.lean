/-
  Contract of package fmap: blocks, all 134 of a file by value.
-/
import Derived.Test.YtcdbligdcikphaaFm1
import Derived.Test.YtcdbligdcikphaaHeldT
import Derived.Test.YtcdbligdcikphaaArrI
namespace Go.Proofs.Ytcdbligdcikphaa
open Go.RowKit
set_option maxRecDepth 10000

/-- 134 noughts. -/
def zeroF : List Int := List.replicate 134 0
theorem zeroF_len : zeroF.length = 134 := List.length_replicate
theorem sameF {t u : List Int} (h : t.length = 134) (h' : u.length = 134) : (icells t).size = (icells u).size := by rw [icells_size, icells_size, h, h']

theorem Try.zeroFd : (Try.prog.info? 55).map (·.zero) = some (some (.agg (icells zeroF))) := by kernel_rfl
theorem Try.fitsF {l : List Int} (h : l.length = 134) : (Try.prog.info? 55).map (·.size) = some (icells l).size := by rw [icells_size, h]; kernel_rfl
set_option maxHeartbeats 6400000 in
theorem fall_any (l : Lay14) (f : Value) (T : Int → List UInt8) (hT : ∀ no, (T no).length = 256) (X : List Int) (hX : X.length = 11) (w : World) (hf : FV w l f T) :
    Calls Try.prog 22 #[.agg (vval l f), .agg (icells X)] w fun e w' => e = .returned (.agg (icells (allF l T X))) ∧ Below w.heap.size w w' := by
  have HXL := Lib.hid hX
  have HF := Lib.hid hf
  have HzL := Lib.hid zeroF_len
  obtain ⟨K, HK⟩ : ∃ K, Hid (fld X 0 = K) := ⟨_, Lib.hid rfl⟩
  obtain ⟨al, HAL⟩ : ∃ al, Hid (allF l T X = al) := ⟨_, Lib.hid rfl⟩
  have HPt := Lib.hid (fun w h => fptr_any l f T hT X hX w h)
  have HPL := Lib.hid (ptrF_len (l := l) (X := X) hT)
  have HDt := Lib.hid (fun no (w : World) => fdata_any l f no w)
  have HN := Lib.hid (fun h : K ≠ 1 => show al = zeroF by rw [← HAL.out]; exact allF_zero (by rw [HK.out]; exact h))
  obtain ⟨b, HB⟩ : ∃ b, Hid (ptrF l T X = b) := ⟨_, Lib.hid rfl⟩
  have HY := Lib.hid (fun h : K = 1 => show mixF l (rawF X b 128) 134 = al by rw [← HAL.out, ← HB.out]; exact mixF_all (by rw [HK.out]; exact h))
  have HR0 := Lib.hid (rawF_zero hX b (P := zeroF) rfl)
  have HDL := Lib.hid (dirF_len hX)
  have HRL := Lib.hid (rawF_len X b)
  have HRS := Lib.hid (fun (n : Nat) (h : n < 128) => rawF_set X b h)
  have HG := Lib.hid (fun (k : Nat) (hk : k < 128) w => show Calls Try.prog 27 #[.agg (bcells b), .int .i64 (k : Int)] w fun e w' => e = .returned (.int .i64 (nmQ b k)) ∧ Below w.heap.size w w' by
    have := qget_any b (by rw [← HB.out]; exact HPL.out) (k : Int) w
    rw [getQ_nat b hk] at this
    exact this)
  rw [HB.out] at HPt HPL
  rw [HAL.out]
  clear hT hX hf HAL HB
  go_enter Try.func22, Try.ntmps22
  go_wp2_with (refine wpList_box_row rfl _ _ rfl _ rfl ?_)
  apply Stop.go; intro w1 Hg1 Hb1
  go_wp2_with (refine wpList_box_row rfl _ _ rfl _ rfl ?_)
  apply Stop.go; intro w2 Hg2 Hb2
  have HV2 := Lib.hid (Hb1.out.ext Hg2.out.1)
  have E2 := Lib.hid (bt Hg1.out.1 Hg2.out.1)
  have z2 := Lib.hid (show w.heap.size < w1.heap.size ∧ w1.heap.size < w2.heap.size by have := Hg1.out.2; have := Hg2.out.2; omega)
  generalize w1.heap.size = g1 at *
  clear Hg1 Hb1 Hg2
  go_wp2_with (refine wpList_alloc_row rfl _ rfl _ Try.zeroFd ?_)
  apply Stop.go; intro w3 Hg3 Hb3
  have HV3 := Lib.hid (HV2.out.ext Hg3.out.1)
  have HX3 := Lib.hid (Hb2.out.ext Hg3.out.1)
  have E3 := Lib.hid (bt E2.out Hg3.out.1)
  have z3 := Lib.hid (show w.heap.size < w2.heap.size ∧ g1 < w2.heap.size ∧ w2.heap.size < w3.heap.size by have := z2.out; have := Hg3.out.2; omega)
  generalize w2.heap.size = gz at *
  clear Hg3 Hb2 HV2 E2 z2
  go_wp2_with (refine wpList_alloc_row rfl _ rfl _ Try.zeroFd ?_)
  apply Stop.go; intro w4 Hg4 Hb4
  have HV4 := Lib.hid (HV3.out.ext Hg4.out.1)
  have HX4 := Lib.hid (HX3.out.ext Hg4.out.1)
  have HZ4 := Lib.hid (Hb3.out.ext Hg4.out.1)
  have E4 := Lib.hid (bt E3.out Hg4.out.1)
  have z4 := Lib.hid (show w.heap.size < gz ∧ g1 < gz ∧ gz < w3.heap.size ∧ w3.heap.size < w4.heap.size by have := z3.out; have := Hg4.out.2; omega)
  generalize w3.heap.size = gl at *
  clear Hg4 Hb3 HV3 HX3 E3 z3
  have c0 : w4.cell? ⟨g1, 0, none⟩ = some (.int .i64 K) := by rw [← HK.out]; exact HX4.out.fld 0 (by rw [HXL.out]; omega)
  by_cases hK : K = 1
  rotate_left
  · have q1 : (K != 1) = true := by simpa using hK
    obtain rfl := HN.out hK
    clear hK HN HY
    go_wp2_with (first | refine wpList_load_blk rfl _ _ rfl _ rfl _ _ Hb4.out _ Try.underlying55 rfl (Try.fitsF HzL.out) ?_ | refine wpList_store_arr rfl _ _ _ rfl _ _ rfl rfl _ _ HZ4.out (Try.fitsF HzL.out) (sameF HzL.out HzL.out) (oneCell_icells _) ?_)
    apply Stop.go; intro we Hoe Hbe
    go_wp2_with ((with_reducible show bodyPost _ _ _ _ _ _); refine bodyPost_cell rfl _ rfl _ _ Hbe.out _ _ Try.underlying55 (Try.fitsF HzL.out) rfl ?_)
    apply Stop.go
    exact bonly E4.out Hoe.out (by have := z4.out; omega)
  · have q1 : (K != 1) = false := by simpa using hK
    have HY := Lib.hid (HY.out hK)
    clear hK HN
    go_wp2_with fail
    refine WT.start 3 (S := fun w' : World => Blk w' gl 55 (icells zeroF) ∧ Blk w' g1 25 (icells X)) [false, false, false, false] 4 rfl rfl (by kernel_rfl) ⟨Hb4.out.ext (bdrew w4 1), HX4.out.ext (bdrew w4 1)⟩ (fun hSn => ?_); obtain ⟨wS, hwS⟩ : ∃ x, (w4).drew = x := ⟨_, rfl⟩; have HE := Lib.hid (show Below (w4).heap.size (w4) wS from hwS ▸ bdrew w4 1); rw [hwS] at hSn ⊢; clear hwS
    refine WT.tv 0 rfl (fun w' hSw => exec_slice_whole _ _ rfl 134 _ Try.underlying55 Try.int1Size gl 0 rfl) ?_; simp only [setL]
    refine WT.tk 1 ?_; simp only [setL]
    refine WT.tv 2 rfl (fun w' hSw => exec_slice_whole _ _ rfl 6 _ Try.underlying23 Try.int1Size g1 4 rfl) ?_; simp only [setL]
    refine WT.last _ rfl (by kernel_rfl) rfl (fun K hK => ?_)
    have hrc : RC wS (some ⟨g1, 4, none⟩) (ivals (dirF X)) := RC.of_blk_at hSn.2 4 6
    refine ow_copy_ints_at _ _ _ _ rfl _ Try.underlying38 Try.int1Size gl 0 134 134 zeroF _ rfl hSn.1 ⟨g1, 4, none⟩ 6 6 (dirF X) rfl HDL.out (by omega) (by rw [HzL.out]; omega) hrc ?_
    apply Stop.go; intro w5 Ho5 Hb5
    have HR5 := Lib.hid (show Blk w5 gl 55 (icells (rawF X b 0)) by
      have h := Hb5.out
      rw [HR0.out] at h
      exact h)
    have HV5 := Lib.hid ((HV4.out.ext HE.out).only Ho5.out (by have := z4.out; omega))
    have HX5 := Lib.hid ((HX4.out.ext HE.out).only Ho5.out (by have := z4.out; omega))
    have HZ5 := Lib.hid ((HZ4.out.ext HE.out).only Ho5.out (by have := z4.out; omega))
    have E5 := Lib.hid (bonly (bt E4.out HE.out) Ho5.out (by have := z4.out; omega))
    refine hK _ _ ?_; clear hK; clear K; simp only [setL]; refine WT.done (by kernel_rfl) ?_
    clear hrc HE hSn Ho5 Hb5 HV4 HX4 HZ4 E4 HR0 HDL c0 Hb4
    have HF5 := Lib.hid (HF.out.below E5.out)
    go_wp2_with (first | refine wpList_load_blk rfl _ _ rfl _ rfl _ _ HV5.out _ Try.underlying32 rfl Try.viewSize ?_ | refine wpList_load_blk rfl _ _ rfl _ rfl _ _ HX5.out _ Try.underlying25 rfl (Try.inoFits HXL.out) ?_)
    refine (HPt.out _ HF5.out).mono ?_; rintro e w6 ⟨rfl, hb6⟩
    have HV6 := Lib.hid (HV5.out.ext hb6)
    have HR6 := Lib.hid (HR5.out.ext hb6)
    have HZ6 := Lib.hid (HZ5.out.ext hb6)
    have E6 := Lib.hid (bt E5.out hb6)
    clear hb6 HV5 HR5 HZ5 E5 HX5 HF5 HF HPt
    have HbzL : Hid ((zeros 256).length = 256) := Lib.hid (zeros_len _)
    go_wp2_with (refine wpList_alloc_row rfl _ rfl _ Try.blockZero ?_)
    apply Stop.go; intro w7 Hg7 Hb7
    go_wp2_with (refine wpList_store_arr rfl _ _ _ rfl _ _ rfl rfl _ _ Hb7.out (Try.blockFits HPL.out) (by rw [bcells_size, bcells_size, HPL.out, HbzL.out]) (oneCell_bcells _) ?_)
    apply Stop.go; intro w8 Ho8 Hb8
    have D := Lib.hid (bonly Hg7.out.1 Ho8.out (Nat.le_refl _))
    have HV8 := Lib.hid (HV6.out.ext D.out)
    have HR8 := Lib.hid (HR6.out.ext D.out)
    have HZ8 := Lib.hid (HZ6.out.ext D.out)
    have E8 := Lib.hid (bt E6.out D.out)
    have z8 := Lib.hid (show w.heap.size < gz ∧ gz < gl ∧ gl < w6.heap.size by have := z4.out; have := HR6.out.lt; omega)
    generalize w6.heap.size = gt at *
    clear Hg7 Hb7 Ho8 D HV6 HR6 HZ6 E6 z4
    go_wp2_with fail
    go_loopw [21] (fun z wr => ∃ k : Nat, k ≤ 128 ∧ z = .int .i64 k ∧ Hid (Below w.heap.size w wr) ∧ Hid (Blk wr w.heap.size 32 (vval l f)) ∧ Hid (Blk wr gz 55 (icells zeroF)) ∧ Hid (Blk wr gt 45 (bcells b)) ∧ Hid (Blk wr gl 55 (icells (rawF X b k)))) (fun z _ => 128 - (intOf z).toNat)
    case atStart => exact ⟨0, Nat.zero_le _, rfl, E8, HV8, HZ8, Hb8, HR8⟩
    case round =>
      obtain ⟨k, hk, rfl, E, HV, HZ, HB, HR⟩ := hrel
      clear E8 HV8 HZ8 Hb8 HR8
      by_cases hlt : k < 128
      · have d1 : decide ((k : Int) < 128) = true := by simp; omega
        have HGk := Lib.hid (HG.out k hlt)
        have HS := Lib.hid (HRS.out k hlt)
        obtain ⟨q, hq⟩ : ∃ q, 6 + k = q := ⟨_, rfl⟩
        rw [hq] at HS
        have hw : IntKind.i64.wrap (6 + (k : Int)) = (q : Int) := by rw [IntWalk.i64_in _ (by omega)]; omega
        have p0 : (0 : Int) ≤ (q : Int) := by omega
        have p1 : (q : Int) < 134 := by omega
        have Hq := Lib.hid (show q < 134 by omega)
        have HRk := Lib.hid (HRL.out k)
        obtain ⟨P1, HP1⟩ : ∃ P1, Hid (rawF X b (k + 1) = P1) := ⟨_, Lib.hid rfl⟩
        rw [HP1.out] at HS
        obtain ⟨P0, HP0⟩ : ∃ P0, Hid (rawF X b k = P0) := ⟨_, Lib.hid rfl⟩
        rw [HP0.out] at HS HRk HR
        generalize nmQ b k = x at *
        clear hq HP0
        go_wp2_with (refine wpList_load_arr rfl _ _ rfl _ rfl _ _ HB.out _ _ Try.underlying45 (Try.blockFits HPL.out) ?_)
        refine (HGk.out _).mono ?_; rintro e wa ⟨rfl, hba⟩
        have HVa := Lib.hid (HV.out.ext hba)
        have HZa := Lib.hid (HZ.out.ext hba)
        have HBa := Lib.hid (HB.out.ext hba)
        have HRa := Lib.hid (HR.out.ext hba)
        have Ea := Lib.hid (bt E.out hba)
        clear hba HV HZ HB HR E HGk
        go_wp2_with (refine wpList_store_cell rfl _ _ _ rfl Try.int1Size gl q rfl (.int .i64 x) rfl rfl rfl _ _ HRa.out (by rw [icells_size, HRk.out]; exact Hq.out) ?_)
        apply Stop.go; intro wb Hob Hbb
        have HRb := Lib.hid (show Blk wb gl 55 (icells P1) by
          have h := Hbb.out
          rw [icells_set, HS.out] at h
          exact h)
        have HVb := Lib.hid (HVa.out.only Hob.out (by have := z8.out; omega))
        have HZb := Lib.hid (HZa.out.only Hob.out (by have := z8.out; omega))
        have HBb := Lib.hid (HBa.out.only Hob.out (by have := z8.out; omega))
        have Eb := Lib.hid (bonly Ea.out Hob.out (by have := z8.out; omega))
        clear Hob Hbb HRa HVa HZa HBa Ea p0 p1 hw
        go_wp2_with fail
        go_roundw
        case rel => exact ⟨k + 1, by omega, by go_num, Eb, HVb, HZb, HBb, Lib.hid (by rw [HP1.out]; exact HRb.out)⟩
        case measure => simp [intOf]; omega
      · obtain rfl : k = 128 := by omega
        have HrL := Lib.hid (HRL.out 128)
        obtain ⟨r, Hr⟩ : ∃ r, Hid (rawF X b 128 = r) := ⟨_, Lib.hid rfl⟩
        rw [Hr.out] at HR HrL HY
        have HM0 := Lib.hid (show Blk wr gl 55 (icells (mixF l r 0)) by rw [mixF_zero l HrL.out]; exact HR.out)
        clear HB HRL HRS HG
        go_wp2_with (refine wpList_load_blk rfl _ _ rfl _ rfl _ _ HR.out _ Try.underlying55 rfl (Try.fitsF HrL.out) ?_)
        clear HR
        go_loopw [32] (fun z wq => ∃ k : Nat, k ≤ 134 ∧ z = .int .i64 k ∧ Hid (Below w.heap.size w wq) ∧ Hid (Blk wq w.heap.size 32 (vval l f)) ∧ Hid (Blk wq gz 55 (icells zeroF)) ∧ Hid (Blk wq gl 55 (icells (mixF l r k)))) (fun z _ => 134 - (intOf z).toNat)
        case atStart => exact ⟨0, Nat.zero_le _, rfl, E, HV, HZ, HM0⟩
        case round =>
          obtain ⟨j, hj, rfl, E', HV', HZ', HM⟩ := hrel
          clear E HV HZ HM0
          by_cases hlt2 : j < 134
          · have d2 : decide ((j : Int) < 134) = true := by simp; omega
            have p0 : (0 : Int) ≤ (j : Int) := by omega
            have p1 : (j : Int) < 134 := by omega
            have HS := Lib.hid (mixF_set l r hlt2)
            have HMk := Lib.hid (mixF_len l r j)
            have Hj := Lib.hid hlt2
            obtain ⟨P1, HP1⟩ : ∃ P1, Hid (mixF l r (j + 1) = P1) := ⟨_, Lib.hid rfl⟩
            rw [HP1.out] at HS
            obtain ⟨P0, HP0⟩ : ∃ P0, Hid (mixF l r j = P0) := ⟨_, Lib.hid rfl⟩
            rw [HP0.out] at HS HMk HM
            obtain ⟨x, Hx⟩ : ∃ x, Hid (fld r j = x) := ⟨_, Lib.hid rfl⟩
            rw [Hx.out] at HS
            clear HP0
            go_wp2_with (first | (refine wpList_index_ints rfl _ _ _ rfl 134 _ Try.underlying55 Try.underlying3 Try.int1Size r rfl .i64 _ rfl j rfl Hj.out (by rw [HrL.out]; exact Hj.out) ?_; rw [Hx.out]) | refine wpList_load_blk rfl _ _ rfl _ rfl _ _ HV'.out _ Try.underlying32 rfl Try.viewSize ?_)
            refine (HDt.out x _).mono ?_; rintro e wa ⟨rfl, hba⟩
            have HVa := Lib.hid (HV'.out.ext hba)
            have HZa := Lib.hid (HZ'.out.ext hba)
            have HMa := Lib.hid (HM.out.ext hba)
            have Ea := Lib.hid (bt E'.out hba)
            generalize datF l x = y at *
            clear hba HV' HZ' HM E'
            go_wp2_with (refine wpList_store_cell rfl _ _ _ rfl Try.int1Size gl j rfl (.int .i64 y) rfl rfl rfl _ _ HMa.out (by rw [icells_size, HMk.out]; exact Hj.out) ?_)
            apply Stop.go; intro wb Hob Hbb
            have HMb := Lib.hid (show Blk wb gl 55 (icells P1) by
              have h := Hbb.out
              rw [icells_set, HS.out] at h
              exact h)
            have HVb := Lib.hid (HVa.out.only Hob.out (by have := z8.out; omega))
            have HZb := Lib.hid (HZa.out.only Hob.out (by have := z8.out; omega))
            have Eb := Lib.hid (bonly Ea.out Hob.out (by have := z8.out; omega))
            clear Hob Hbb HMa HVa HZa Ea
            go_wp2_with fail
            go_roundw
            case rel => exact ⟨j + 1, by omega, by go_num, Eb, HVb, HZb, Lib.hid (by rw [HP1.out]; exact HMb.out)⟩
            case measure => simp [intOf]; omega
          · obtain rfl : j = 134 := by omega
            have HaL := Lib.hid (show al.length = 134 by rw [← HY.out]; exact mixF_len l r 134)
            rw [HY.out] at HM
            go_wp2_with (first | refine wpList_load_blk rfl _ _ rfl _ rfl _ _ HM.out _ Try.underlying55 rfl (Try.fitsF HaL.out) ?_ | refine wpList_store_arr rfl _ _ _ rfl _ _ rfl rfl _ _ HZ'.out (Try.fitsF HaL.out) (sameF HzL.out HaL.out) (oneCell_icells _) ?_)
            apply Stop.go; intro we Hoe Hbe
            go_wp2_with ((with_reducible show bodyPost _ _ _ _ _ _); refine bodyPost_cell rfl _ rfl _ _ Hbe.out _ _ Try.underlying55 (Try.fitsF HaL.out) rfl ?_)
            apply Stop.go
            exact bonly E'.out Hoe.out (by have := z8.out; omega)

end Go.Proofs.Ytcdbligdcikphaa
