/-
  Contracts of index's Double, Fix, Right.
-/
import Derived.Test.YthcbjihdbkpkeaaIx3
import Derived.Test.YthcbjihdbkpkeaaHeldT
import Derived.Deep.CutRange
namespace Go.Proofs.Ythcbjihdbkpkeaa
open Go.RowKit

/-- May it be doubled? -/
def dblB (d : Int) : Bool := decide (0 ≤ d ∧ d ≤ 4)
def dblD (d : Int) : Int := if dblB d then d + 1 else d
def dblV (d : Int) (t : List Int) : List Int := if dblB d then dblT (dpN d) t else t
def dblE (d : Int) : Int := if dblB d then 0 else 11
set_option maxHeartbeats 1600000 in
theorem xdouble_any (d : Int) (t : List Int) (ht : t.length = 32) (w : World) :
    Calls Try.prog 26 #[.agg (icells (d :: t))] w fun e w' => e = .returned (.tuple #[.agg (icells (dblD d :: dblV d t)), .int .i64 (dblE d)]) ∧ Below w.heap.size w w' := by
  have HL := Lib.hid ht
  have HzL := Lib.hid zeroT_len
  by_cases hb : dblB d = true
  · have hd := of_decide_eq_true (show decide (0 ≤ d ∧ d ≤ 4) = true from hb)
    have HR := Lib.hid (show dblD d = d + 1 ∧ dblV d t = dblT (dpN d) t ∧ dblE d = 0 by unfold dblD dblV dblE; rw [hb]; exact ⟨rfl, rfl, rfl⟩)
    obtain ⟨T, HT⟩ : ∃ T, Hid (d + 1 = T) := ⟨_, Lib.hid rfl⟩
    rw [HR.out.1, HR.out.2.1, HR.out.2.2, HT.out]
    have h0 : 0 ≤ d := hd.1
    have h4 : d ≤ 4 := hd.2
    have hD4 : dpN d ≤ 4 := by unfold dpN; omega
    have HC := Lib.hid (dbl_cells d ht hD4)
    have HDL : Hid ((dblT (dpN d) t).length = 32) := Lib.hid (dblT_len _ _)
    have HM0 := Lib.hid (fun (w : World) => xmany_any d t ht w)
    have h16 : 2 ^ dpN d ≤ 16 := Nat.pow_le_pow_right (n := 2) (by omega) hD4
    obtain ⟨U, hU⟩ : ∃ U, dblT (dpN d) t = U := ⟨_, rfl⟩
    obtain ⟨M, hM⟩ : ∃ M, 2 ^ dpN d = M := ⟨_, rfl⟩
    rw [hM, hU] at HC
    rw [hM] at HM0 h16
    rw [hU] at HDL ⊢
    clear hb hd HR hD4 hU hM
    go_enter Try.func26, Try.ntmps26
    go_wp2_with (refine wpList_box_row rfl _ _ rfl _ rfl ?_)
    apply Stop.go; intro w1 Hg1 Hb1
    go_wp2_with (refine wpList_alloc_row rfl _ rfl _ Try.ixZero ?_)
    apply Stop.go; intro w2 Hg2 Hb2
    have HB2 := Lib.hid (Hb1.out.ext Hg2.out.1)
    have z1 := Hg1.out.2
    have Hz := Lib.hid (show w.heap.size ≤ w1.heap.size ∧ w.heap.size ≠ w1.heap.size by omega)
    have E2 := Lib.hid (bt Hg1.out.1 Hg2.out.1)
    clear z1
    generalize w1.heap.size = g2 at *
    have c0 := dep_cell HB2.out
    go_wp2_with (refine wpList_load_blk rfl _ _ rfl _ rfl _ _ HB2.out _ Try.underlying30 rfl (Try.ixFits HL.out) ?_)
    refine (HM0.out _).mono ?_; rintro e w3 ⟨rfl, hb3⟩
    have HB3 := Lib.hid (HB2.out.ext hb3)
    have HR3 := Lib.hid (Hb2.out.ext hb3)
    have E3 := Lib.hid (bt E2.out hb3)
    clear hb3 c0 Hb2 Hg2 Hb1 Hg1 HB2 E2
    go_wp2_with fail
    refine WT.start 6 (S := fun w' : World => Blk w' w.heap.size 30 (icells (d :: t))) [false, false, false, false, false, false, false] 7 rfl rfl (by kernel_rfl) (HB3.out.ext (bdrew w3 1)) (fun hSn => ?_); obtain ⟨wS, hwS⟩ : ∃ x, (w3).drew = x := ⟨_, rfl⟩; have HE := Lib.hid (show Below (w3).heap.size (w3) wS from hwS ▸ bdrew w3 1); rw [hwS] at hSn ⊢; clear hwS
    refine WT.tk 0 ?_; simp only [setL]
    refine WT.tk 1 ?_; simp only [setL]
    refine WT.tv 2 rfl (fun w' hSw => exec_slice_from_lt _ _ _ rfl 32 _ Try.underlying22 Try.int1Size w.heap.size 1 rfl .i64 _ rfl M rfl (by omega)) ?_; simp only [setL]
    refine WT.tk 3 ?_; simp only [setL]
    refine WT.tk 4 ?_; simp only [setL]
    refine WT.tv 5 rfl (fun w' hSw => exec_slice_to _ _ _ rfl 32 _ Try.underlying22 Try.int1Size w.heap.size 1 rfl .i64 _ rfl M rfl (by omega)) ?_; simp only [setL]
    refine WT.last _ rfl (by kernel_rfl) rfl (fun K hK => ?_)
    have hrc : RC wS (some ⟨w.heap.size, 1, none⟩) (ivals (t.take M)) := RC.of_blk_at hSn 1 M
    refine ow_copy_ints_at _ _ _ _ rfl _ Try.underlying52 Try.int1Size w.heap.size (1 + M) (32 - M) (32 - M) (d :: t) _ rfl hSn ⟨w.heap.size, 1, none⟩ M 32 (t.take M) rfl (by rw [List.length_take, HL.out]; omega) (by omega) (by rw [List.length_cons, HL.out]; omega) hrc ?_
    apply Stop.go; intro wb Hob Hbb
    have HCb := Lib.hid (show Blk wb w.heap.size 30 (icells (d :: U)) by
      have h := Hbb.out
      rw [HC.out] at h
      exact h)
    have HRb := Lib.hid ((HR3.out.ext HE.out).only Hob.out (Ne.symm Hz.out.2))
    have HEb := Lib.hid (bonly (bt E3.out HE.out) Hob.out (Nat.le_refl _))
    refine hK _ _ ?_; clear hK; clear K; simp only [setL]; refine WT.done (by kernel_rfl) ?_
    clear hrc HE hSn Hob Hbb HB3 HR3 E3 HC
    have c0 := dep_cell HCb.out
    have hfit : 0 < (icells (d :: U)).size := by rw [icells_size, List.length_cons]; omega
    have Hfit := Lib.hid hfit
    have hT1 : IntKind.i64.wrap (d + 1) = T := by rw [← HT.out]; exact IntWalk.i64_in _ (by omega)
    clear hfit
    go_wp2_with (refine wpList_store_cell rfl _ _ _ rfl Try.int1Size w.heap.size 0 rfl (.int .i64 T) rfl rfl rfl _ _ HCb.out Hfit.out ?_)
    apply Stop.go; intro wc Hoc Hbc
    have hbc := Hbc.out
    rw [icells_dep] at hbc
    have HCc := Lib.hid hbc
    have HRc := Lib.hid (HRb.out.only Hoc.out (Ne.symm Hz.out.2))
    have HEc := Lib.hid (bonly HEb.out Hoc.out (Nat.le_refl _))
    clear hbc Hbc Hoc HCb HRb HEb c0 hT1
    go_wp2_with (first | refine wpList_load_blk rfl _ _ rfl _ rfl _ _ HCc.out _ Try.underlying30 rfl (Try.ixFits HDL.out) ?_ | refine wpList_store_arr rfl _ _ _ rfl _ _ rfl rfl _ _ HRc.out (Try.ixFits HDL.out) (icells_same HzL.out HDL.out) (oneCell_icells _) ?_)
    apply Stop.go; intro we Hoe Hbe
    go_wp2_with ((with_reducible show bodyPost _ _ _ _ _ _); refine bodyPost_struct_tmp rfl _ rfl _ _ Hbe.out _ Try.underlying30 rfl (Try.ixFits HDL.out) rfl _ rfl ?_)
    apply Stop.go
    exact bonly HEc.out Hoe.out Hz.out.1
  · have HR := Lib.hid (show dblD d = d ∧ dblV d t = t ∧ dblE d = 11 by unfold dblD dblV dblE; rw [if_neg hb, if_neg hb, if_neg hb]; exact ⟨rfl, rfl, rfl⟩)
    rw [HR.out.1, HR.out.2.1, HR.out.2.2]
    have hd : ¬ (0 ≤ d ∧ d ≤ 4) := fun h => hb (decide_eq_true h)
    clear hb
    by_cases h0 : d < 0
    · clear hd
      go_enter Try.func26, Try.ntmps26
      go_wp2_with (refine wpList_box_row rfl _ _ rfl _ rfl ?_)
      apply Stop.go; intro w1 Hg1 Hb1
      go_wp2_with (refine wpList_alloc_row rfl _ rfl _ Try.ixZero ?_)
      apply Stop.go; intro w2 Hg2 Hb2
      have HB2 := Lib.hid (Hb1.out.ext Hg2.out.1)
      have Hz := Lib.hid Hg1.out.1.size
      have E2 := Lib.hid (bt Hg1.out.1 Hg2.out.1)
      generalize w1.heap.size = g2 at *
      have c0 := dep_cell HB2.out
      go_wp2_with (first | refine wpList_load_blk rfl _ _ rfl _ rfl _ _ HB2.out _ Try.underlying30 rfl (Try.ixFits HL.out) ?_ | refine wpList_store_arr rfl _ _ _ rfl _ _ rfl rfl _ _ Hb2.out (Try.ixFits HL.out) (icells_same HzL.out HL.out) (oneCell_icells _) ?_)
      apply Stop.go; intro we Hoe Hbe
      go_wp2_with ((with_reducible show bodyPost _ _ _ _ _ _); refine bodyPost_struct_tmp rfl _ rfl _ _ Hbe.out _ Try.underlying30 rfl (Try.ixFits HL.out) rfl _ rfl ?_)
      apply Stop.go
      exact bonly E2.out Hoe.out Hz.out
    · have h5 : 5 ≤ d := by omega
      clear hd
      go_enter Try.func26, Try.ntmps26
      go_wp2_with (refine wpList_box_row rfl _ _ rfl _ rfl ?_)
      apply Stop.go; intro w1 Hg1 Hb1
      go_wp2_with (refine wpList_alloc_row rfl _ rfl _ Try.ixZero ?_)
      apply Stop.go; intro w2 Hg2 Hb2
      have HB2 := Lib.hid (Hb1.out.ext Hg2.out.1)
      have Hz := Lib.hid Hg1.out.1.size
      have E2 := Lib.hid (bt Hg1.out.1 Hg2.out.1)
      generalize w1.heap.size = g2 at *
      have c0 := dep_cell HB2.out
      go_wp2_with (first | refine wpList_load_blk rfl _ _ rfl _ rfl _ _ HB2.out _ Try.underlying30 rfl (Try.ixFits HL.out) ?_ | refine wpList_store_arr rfl _ _ _ rfl _ _ rfl rfl _ _ Hb2.out (Try.ixFits HL.out) (icells_same HzL.out HL.out) (oneCell_icells _) ?_)
      apply Stop.go; intro we Hoe Hbe
      go_wp2_with ((with_reducible show bodyPost _ _ _ _ _ _); refine bodyPost_struct_tmp rfl _ rfl _ _ Hbe.out _ Try.underlying30 rfl (Try.ixFits HL.out) rfl _ rfl ?_)
      apply Stop.go
      exact bonly E2.out Hoe.out Hz.out

theorem fix_keep {D : Nat} {t : List Int} {k : Nat} (hk : k < 2 ^ D) (hs : shortB (fld t k) = true) (h : (firstB t k || wholeP D t k) = true) : fixK D t (k + 1) = fixK D t k := by
  by_cases h0 : fld t k = 0
  · exact fixK_same h0
  · refine fixK_keep ?_
    unfold keepB
    rw [wholeB_cnt hk h0, hs, Bool.true_and]
    exact h
theorem fix_drop {D : Nat} {t : List Int} {k : Nat} (h5 : D ≤ 5) (hk : k < 2 ^ D) (h : (shortB (fld t k) && (firstB t k || wholeP D t k)) = false) : (fixK D t k).set k 0 = fixK D t (k + 1) := by
  have h32 := pow32 h5
  by_cases h0 : fld t k = 0
  · rw [fixK_same h0]
    refine mapT_set _ _ k 0 (by omega) fun i _ => ?_
    by_cases e : i = k
    · subst e
      unfold fixF
      rw [h0]
      simp
    · rw [if_neg e]
  · refine fixK_drop hk h5 ?_
    unfold keepB
    rw [wholeB_cnt hk h0]
    exact h
set_option maxHeartbeats 3200000 in
theorem xfix_any (d : Int) (t : List Int) (ht : t.length = 32) (w : World) :
    Calls Try.prog 27 #[.agg (icells (d :: t))] w fun e w' => e = .returned (.agg (icells (fixD d :: fixV d t))) ∧ Below w.heap.size w w' := by
  have HL := Lib.hid ht
  have HzL := Lib.hid zeroT_len
  obtain ⟨b, Hb⟩ : ∃ b, Hid (inD d = b) := ⟨_, Lib.hid rfl⟩
  obtain ⟨RD, HRD⟩ : ∃ RD, Hid (fixD d = RD) := ⟨_, Lib.hid rfl⟩
  obtain ⟨RV, HRV⟩ : ∃ RV, Hid (fixV d t = RV) := ⟨_, Lib.hid rfl⟩
  rw [HRD.out, HRV.out]
  go_enter Try.func27, Try.ntmps27
  go_wp2_with (refine wpList_box_row rfl _ _ rfl _ rfl ?_)
  apply Stop.go; intro w1 Hg1 Hb1
  go_wp2_with (refine wpList_alloc_row rfl _ rfl _ Try.ixZero ?_)
  apply Stop.go; intro w2 Hg2 Hb2
  have HB2 := Lib.hid (Hb1.out.ext Hg2.out.1)
  have z1 := Hg1.out.2
  have z2 := Hb2.out.lt
  have Hz := Lib.hid (show w.heap.size < w1.heap.size ∧ w1.heap.size < w2.heap.size by omega)
  have E2 := Lib.hid (bt Hg1.out.1 Hg2.out.1)
  clear z1 z2
  generalize w1.heap.size = g2 at *
  have c0 := dep_cell HB2.out
  go_wp2_with fail
  refine (isDepth_any d _).mono ?_; rintro e wx ⟨rfl, rfl⟩
  rw [Hb.out]
  cases b
  · have HQ := Lib.hid (show RD = 0 ∧ RV = zeroT by
      rw [← HRD.out, ← HRV.out]
      unfold fixD fixV
      rw [Hb.out]
      exact ⟨rfl, rfl⟩)
    clear c0
    go_wp2_with (first | refine wpList_build_nil rfl _ rfl _ Try.ixBuilt0 ?_ | refine wpList_store_arr rfl _ _ _ rfl _ _ rfl rfl _ _ Hb2.out (Try.ixFits HzL.out) (icells_same HzL.out HzL.out) (oneCell_icells _) ?_)
    apply Stop.go; intro we Hoe Hbe
    go_wp2_with ((with_reducible show bodyPost _ _ _ _ _ _); refine bodyPost_struct rfl _ rfl _ _ Hbe.out _ Try.underlying30 rfl (Try.ixFits HzL.out) rfl ?_)
    apply Stop.go
    rw [HQ.out.1, HQ.out.2]
    exact ⟨rfl, bonly E2.out Hoe.out (Nat.le_of_lt Hz.out.1)⟩
  · have hin := of_decide_eq_true (show decide (0 ≤ d ∧ d ≤ 5) = true from Hb.out)
    have HQ := Lib.hid (show RD = d ∧ RV = fixK (dpN d) t (2 ^ dpN d) by
      rw [← HRD.out, ← HRV.out]
      unfold fixD fixV
      rw [Hb.out]
      exact ⟨rfl, rfl⟩)
    have h5 := dpN_le d
    have h32 := pow32 h5
    have HSh := Lib.hid (fun (w : World) => short_any d t HL.out w)
    have HSL : Hid ((shortT (dpN d) t).length = 32) := Lib.hid (mapT_len _)
    have HM0 := Lib.hid (fun (w : World) => xmany_any d t HL.out w)
    have HWh := Lib.hid (fun (k : Nat) (hk : k < 2 ^ dpN d) (w : World) => isWhole_any d t HL.out k hk w)
    have HKe := Lib.hid (fun (k : Nat) (hk : k < 2 ^ dpN d) => fix_keep (D := dpN d) (t := t) hk)
    have HDr := Lib.hid (fun (k : Nat) (hk : k < 2 ^ dpN d) => fix_drop (D := dpN d) (t := t) h5 hk)
    have HK0 := Lib.hid (fixK_zero (dpN d) t)
    obtain ⟨D, hD⟩ : ∃ D, dpN d = D := ⟨_, rfl⟩
    rw [hD] at HQ h32 HSh HSL HM0 HWh HKe HDr HK0
    obtain ⟨M, hM⟩ : ∃ M, 2 ^ D = M := ⟨_, rfl⟩
    rw [hM] at HQ h32 HM0 HWh HKe HDr
    clear hin h5 hD hM c0 HRD HRV Hb
    go_wp2_with (refine wpList_load_blk rfl _ _ rfl _ rfl _ _ HB2.out _ Try.underlying30 rfl (Try.ixFits HL.out) ?_)
    refine (HSh.out _).mono ?_; rintro e w3 ⟨rfl, hb3⟩
    rw [← HK0.out] at HSL ⊢
    have HB3 := Lib.hid (HB2.out.ext hb3)
    have HR3 := Lib.hid (Hb2.out.ext hb3)
    have E3 := Lib.hid (bt E2.out hb3)
    have Hz3 := Lib.hid (show w.heap.size < g2 ∧ g2 < w3.heap.size by have := Hz.out; have := hb3.size; omega)
    clear hb3 HB2 Hb2 E2 Hg1 Hb1 Hg2 HK0 HSh Hz
    go_wp2_with (refine wpList_alloc_row rfl _ rfl _ Try.ixZero ?_)
    apply Stop.go; intro w4 Hg4 Hb4
    go_wp2_with (refine wpList_store_arr rfl _ _ _ rfl _ _ rfl rfl _ _ Hb4.out (Try.ixFits HSL.out) (icells_same HzL.out HSL.out) (oneCell_icells _) ?_)
    apply Stop.go; intro w5 Ho5 Hb5
    have HB5 := Lib.hid ((HB3.out.ext Hg4.out.1).only Ho5.out (by have := Hz3.out; omega))
    have HR5 := Lib.hid ((HR3.out.ext Hg4.out.1).only Ho5.out (by have := Hz3.out; omega))
    have E5 := Lib.hid (bonly (bt E3.out Hg4.out.1) Ho5.out (by have := Hz3.out; omega))
    have Hz5 := Lib.hid (show w.heap.size < g2 ∧ g2 < w3.heap.size ∧ w.heap.size < w3.heap.size by have := Hz3.out; omega)
    generalize w3.heap.size = g3 at *
    clear HB3 HR3 E3 Hg4 Hb4 Ho5 Hz3
    go_wp2_with (refine wpList_load_blk rfl _ _ rfl _ rfl _ _ HB5.out _ Try.underlying30 rfl (Try.ixFits HL.out) ?_)
    refine (HM0.out _).mono ?_; rintro e w6 ⟨rfl, hb6⟩
    have HB6 := Lib.hid (HB5.out.ext hb6)
    have HR6 := Lib.hid (HR5.out.ext hb6)
    have HX6 := Lib.hid (Hb5.out.ext hb6)
    have E6 := Lib.hid (bt E5.out hb6)
    clear hb6 HB5 HR5 Hb5 E5 HM0
    go_wp2_with fail
    go_loopw [14] (fun i wr => ∃ k : Nat, k ≤ M ∧ i = .int .i64 k ∧ Hid (Blk wr w.heap.size 30 (icells (d :: t))) ∧ Hid (Blk wr g2 30 (icells (0 :: zeroT))) ∧ Hid (Blk wr g3 30 (icells (d :: fixK D t k))) ∧ Hid (Below w.heap.size w wr)) (fun i _ => M - (intOf i).toNat)
    case atStart => exact ⟨0, Nat.zero_le _, rfl, HB6, HR6, HX6, E6⟩
    case round =>
      obtain ⟨k, hk, rfl, HBk, HRk, HXk, Ek⟩ := hrel
      have HLk := Lib.hid (fixK_len D t k)
      by_cases hlt : k < M
      · have d0 : decide ((k : Int) < M) = true := by simp; omega
        have d1 : decide (k < M) = true := by simp; omega
        have k0 : 0 ≤ (k : Int) := by omega
        have k1 : (k : Int) < 32 := by omega
        have k2 : k < 32 := by omega
        have ck := int_cell HBk.out k (by rw [HL.out]; exact k2)
        have HKk := Lib.hid (HKe.out k hlt)
        have HDk := Lib.hid (HDr.out k hlt)
        have hfit : 1 + k < (icells (d :: fixK D t k)).size := by rw [icells_size, List.length_cons, HLk.out]; omega
        have Hfit := Lib.hid hfit
        obtain ⟨s, Hs⟩ : ∃ s, Hid (shortB (fld t k) = s) := ⟨_, Lib.hid rfl⟩
        rw [Hs.out] at HKk HDk
        clear hfit
        go_wp2_with fail
        refine (isNumber_any _ _).mono ?_; rintro e wx ⟨rfl, rfl⟩
        rw [Hs.out]
        cases s
        · have HN := Lib.hid (HDk.out rfl)
          clear HDk HKk ck
          go_upto_region 8 with fail
          go_wp2_with (refine wpList_store_cell rfl _ _ _ rfl Try.int1Size g3 (1 + k) rfl (.int .i64 0) rfl rfl rfl _ _ HXk.out Hfit.out ?_)
          apply Stop.go; intro wa Hoa Hba
          have hba := Hba.out
          rw [icells_put, HN.out] at hba
          have HXa := Lib.hid hba
          have HBa := Lib.hid (HBk.out.only Hoa.out (by have := Hz5.out; omega))
          have HRa := Lib.hid (HRk.out.only Hoa.out (by have := Hz5.out; omega))
          have Ea := Lib.hid (bonly Ek.out Hoa.out (by have := Hz5.out; omega))
          clear hba Hba Hoa HXk HBk HRk Ek
          go_wp2_with fail
          go_roundw
          case rel => exact ⟨k + 1, by omega, by go_num, HBa, HRa, HXa, Ea⟩
          case measure => simp [intOf]; omega
        · have HK2 := Lib.hid (HKk.out rfl)
          clear HKk
          go_wp2_with (refine wpList_load_blk rfl _ _ rfl _ rfl _ _ HBk.out _ Try.underlying30 rfl (Try.ixFits HL.out) ?_)
          refine (isFirst_any d t HL.out k k2 _).mono ?_; rintro e wa ⟨rfl, hba⟩
          obtain ⟨f, Hf⟩ : ∃ f, Hid (firstB t k = f) := ⟨_, Lib.hid rfl⟩
          rw [Hf.out] at HK2 HDk ⊢
          have HBa := Lib.hid (HBk.out.ext hba)
          have HRa := Lib.hid (HRk.out.ext hba)
          have HXa := Lib.hid (HXk.out.ext hba)
          have Ea := Lib.hid (bt Ek.out hba)
          clear hba HBk HRk HXk Ek ck
          cases f
          · go_wp2_with (refine wpList_load_blk rfl _ _ rfl _ rfl _ _ HBa.out _ Try.underlying30 rfl (Try.ixFits HL.out) ?_)
            refine (HWh.out k hlt _).mono ?_; rintro e wb ⟨rfl, hbb⟩
            obtain ⟨q, Hq⟩ : ∃ q, Hid (wholeP D t k = q) := ⟨_, Lib.hid rfl⟩
            rw [Hq.out] at HK2 HDk ⊢
            have HBb := Lib.hid (HBa.out.ext hbb)
            have HRb := Lib.hid (HRa.out.ext hbb)
            have HXb := Lib.hid (HXa.out.ext hbb)
            have Eb := Lib.hid (bt Ea.out hbb)
            clear hbb HBa HRa HXa Ea
            cases q
            · have HN := Lib.hid (HDk.out rfl)
              clear HDk HK2
              go_upto_region 8 with fail
              go_wp2_with (refine wpList_store_cell rfl _ _ _ rfl Try.int1Size g3 (1 + k) rfl (.int .i64 0) rfl rfl rfl _ _ HXb.out Hfit.out ?_)
              apply Stop.go; intro wc Hoc Hbc
              have hbc := Hbc.out
              rw [icells_put, HN.out] at hbc
              have HXc := Lib.hid hbc
              have HBc := Lib.hid (HBb.out.only Hoc.out (by have := Hz5.out; omega))
              have HRc := Lib.hid (HRb.out.only Hoc.out (by have := Hz5.out; omega))
              have Ec := Lib.hid (bonly Eb.out Hoc.out (by have := Hz5.out; omega))
              clear hbc Hbc Hoc HXb HBb HRb Eb
              go_wp2_with fail
              go_roundw
              case rel => exact ⟨k + 1, by omega, by go_num, HBc, HRc, HXc, Ec⟩
              case measure => simp [intOf]; omega
            · have HN := Lib.hid (HK2.out rfl)
              clear HDk HK2
              go_wp2_with fail
              go_roundw
              case rel => exact ⟨k + 1, by omega, by go_num, HBb, HRb, by rw [HN.out]; exact HXb, Eb⟩
              case measure => simp [intOf]; omega
          · have HN := Lib.hid (HK2.out rfl)
            clear HDk HK2
            go_wp2_with fail
            go_roundw
            case rel => exact ⟨k + 1, by omega, by go_num, HBa, HRa, by rw [HN.out]; exact HXa, Ea⟩
            case measure => simp [intOf]; omega
      · obtain rfl : k = M := by omega
        have d0 : decide ((k : Int) < k) = false := by simp
        go_wp2_with (first | refine wpList_load_blk rfl _ _ rfl _ rfl _ _ HXk.out _ Try.underlying30 rfl (Try.ixFits HLk.out) ?_ | refine wpList_store_arr rfl _ _ _ rfl _ _ rfl rfl _ _ HRk.out (Try.ixFits HLk.out) (icells_same HzL.out HLk.out) (oneCell_icells _) ?_)
        apply Stop.go; intro we Hoe Hbe
        go_wp2_with ((with_reducible show bodyPost _ _ _ _ _ _); refine bodyPost_struct rfl _ rfl _ _ Hbe.out _ Try.underlying30 rfl (Try.ixFits HLk.out) rfl ?_)
        apply Stop.go
        rw [HQ.out.1, HQ.out.2]
        exact ⟨rfl, bonly Ek.out Hoe.out (by have := Hz5.out; omega)⟩

set_option maxHeartbeats 1600000 in
theorem xright_any (d : Int) (t : List Int) (ht : t.length = 32) (w : World) :
    Calls Try.prog 10 #[.agg (icells (d :: t))] w fun e w' => e = .returned (.bool (rightX d t)) ∧ Below w.heap.size w w' := by
  have HL := Lib.hid ht
  have HEQ := Lib.hid (show ∀ w, (binOp .eql 30 (.agg (icells (fixD d :: fixV d t))) (.agg (icells (d :: t)))).run Try.prog w = .ok (.bool (rightX d t)) w from fun w => by rw [run_eql_ix _ _ _ _ (fixV_len d t) ht w, fix_right])
  go_enter Try.func10, Try.ntmps10
  go_wp2_with (refine wpList_box_row rfl _ _ rfl _ rfl ?_)
  apply Stop.go; intro w1 Hg1 Hb1
  go_wp2_with fail
  refine WH.start (S := fun w' : World => Blk w' w.heap.size 30 (icells (d :: t))) [false, false, false, false, false] 5 rfl rfl (by kernel_rfl) (Hb1.out.ext (bdrew w1 1)) (fun hSn => ?_); obtain ⟨wS, hwS⟩ : ∃ x, (w1).drew = x := ⟨_, rfl⟩; have HE := Lib.hid (show Below (w1).heap.size (w1) wS from hwS ▸ bdrew w1 1); rw [hwS] at hSn ⊢; clear hwS
  refine WH.tv 0 rfl (fun w' hSw => exec_load_blk _ _ rfl _ rfl _ _ (hSw) _ (Try.underlying30) rfl (Try.ixFits HL.out)) ?_; simp only [setL]
  refine WH.tv 2 rfl (fun w' hSw => exec_load_blk _ _ rfl _ rfl _ _ (hSw) _ (Try.underlying30) rfl (Try.ixFits HL.out)) ?_; simp only [setL]
  refine WH.only 1 _ rfl (by kernel_rfl) rfl (fun K hK => ?_)
  go_simp; refine (xfix_any d t HL.out _).mono ?_; rintro e wa ⟨rfl, hba⟩; go_simp
  have HE := Lib.hid (bt HE.out hba)
  have hSn := hSn.ext hba; refine hK _ _ hSn ?_; clear hK; clear K; simp only [setL]
  refine WH.tv 3 rfl (fun w' hSw => exec_eql_agg _ _ _ _ _ rfl (by kernel_rfl) (icells (fixD d :: fixV d t)) (icells (d :: t)) rfl rfl _ (HEQ.out _)) ?_; simp only [setL]
  refine WH.tk 4 ?_; simp only [setL]
  refine WH.done (by kernel_rfl) ?_
  go_wp2_with fail
  go_ret
  exact ⟨rfl, bt Hg1.out.1 HE.out⟩

end Go.Proofs.Ythcbjihdbkpkeaa
