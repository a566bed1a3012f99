/-
  Contracts of view's Used, Inodes, Image; all contracts of the package.
-/
import Derived.Test.YtpdeohmgjblkeaaVw2
import Derived.Test.YtpdeohmgjblkeaaGrB
namespace Go.Proofs.Ytpdeohmgjblkeaa
open Go.RowKit
set_option maxRecDepth 10000

set_option maxHeartbeats 3200000 in
theorem vused_any (l : Lay14) (f : Value) (T : Int → List UInt8) (hT : ∀ no, (T no).length = 256) (no : Int) (w : World) (hf : FV w l f T) :
    Calls Try.prog 12 #[.agg (vval l f), .int .i64 no] w fun e w' => e = .returned (.bool (vUse l T no)) ∧ Below w.heap.size w w' := by
  have HT := Lib.hid hT
  have HF := Lib.hid hf
  clear hT hf
  obtain ⟨b, hm⟩ : ∃ b, l.may = b := ⟨_, rfl⟩
  obtain ⟨c, hc⟩ : ∃ c, decide (0 ≤ no ∧ no < l.blocks) = c := ⟨_, rfl⟩
  have HM := Lib.hid (fun w' => vmay_any l f b hm w')
  have HH := Lib.hid (fun w' => vhas_any l f no c hc w')
  cases b
  · have H0 := Lib.hid (vUse_off (l := l) T (no := no) (Or.inl hm))
    clear hm hc HH
    go_enter Try.func12, Try.ntmps12
    go_wp2_with (refine wpList_box_row rfl _ _ rfl _ rfl ?_)
    apply Stop.go; intro w1 Hg1 Hb1
    go_wp2_with fail
    refine WH.start (S := fun w' : World => Blk w' w.heap.size 29 (vval l f)) [false, false, false, false, false, false, false, false, false, false, false, false, false, false, false] 15 rfl rfl (by kernel_rfl) (Hb1.out.ext (bdrew w1 1)) (fun hSn => ?_); obtain ⟨wS, hwS⟩ : ∃ x, (w1).drew = x := ⟨_, rfl⟩; have HE := Lib.hid (show Below (w1).heap.size (w1) wS from hwS ▸ bdrew w1 1); rw [hwS] at hSn ⊢; clear hwS
    refine WH.tv 0 rfl (fun w' hSw => exec_load_blk _ _ rfl _ rfl _ _ (hSw) _ (Try.underlying29) rfl (Try.viewSize)) ?_; simp only [setL]
    refine WH.only 1 _ rfl (by kernel_rfl) rfl (fun K hK => ?_)
    go_simp; refine (HM.out _).mono ?_; rintro e wa ⟨rfl, hba⟩; go_simp
    have HE := Lib.hid (bt HE.out hba)
    have hSn := hSn.ext hba; refine hK _ _ hSn ?_; clear hK; clear K; simp only [setL]
    refine WH.tk 2 ?_; simp only [setL]
    refine WH.skip 3 _ rfl (by kernel_rfl) (fun _ _ _ h => h) rfl (by assumption) ?_; simp only [setL]
    refine WH.skip 4 _ rfl (by kernel_rfl) (fun _ _ _ h => h) rfl (by assumption) ?_; simp only [setL]
    refine WH.onlySkip 5 _ rfl (by kernel_rfl) rfl (by assumption) ?_; simp only [setL]
    refine WH.tk 6 ?_; simp only [setL]
    refine WH.tk 7 ?_; simp only [setL]
    refine WH.skip 8 _ rfl (by kernel_rfl) (fun _ _ _ h => h) rfl (by assumption) ?_; simp only [setL]
    refine WH.skip 11 _ rfl (by kernel_rfl) (fun _ _ _ h => h) rfl (by assumption) ?_; simp only [setL]
    refine WH.onlySkip 9 _ rfl (by kernel_rfl) rfl (by assumption) ?_; simp only [setL]
    refine WH.onlySkip 10 _ rfl (by kernel_rfl) rfl (by assumption) ?_; simp only [setL]
    refine WH.onlySkip 12 _ rfl (by kernel_rfl) rfl (by assumption) ?_; simp only [setL]
    refine WH.tk 13 ?_; simp only [setL]
    refine WH.tk 14 ?_; simp only [setL]
    refine WH.done (by kernel_rfl) ?_
    go_wp2_with fail
    go_ret
    rw [H0.out]
    exact ⟨rfl, bt Hg1.out.1 HE.out⟩
  cases c
  · have H0 := Lib.hid (vUse_off (l := l) T (no := no) (Or.inr (of_decide_eq_false hc)))
    clear hm hc
    go_enter Try.func12, Try.ntmps12
    go_wp2_with (refine wpList_box_row rfl _ _ rfl _ rfl ?_)
    apply Stop.go; intro w1 Hg1 Hb1
    go_wp2_with fail
    refine WH.start (S := fun w' : World => Blk w' w.heap.size 29 (vval l f)) [false, false, false, false, false, false, false, false, false, false, false, false, false, false, false] 15 rfl rfl (by kernel_rfl) (Hb1.out.ext (bdrew w1 1)) (fun hSn => ?_); obtain ⟨wS, hwS⟩ : ∃ x, (w1).drew = x := ⟨_, rfl⟩; have HE := Lib.hid (show Below (w1).heap.size (w1) wS from hwS ▸ bdrew w1 1); rw [hwS] at hSn ⊢; clear hwS
    refine WH.tv 0 rfl (fun w' hSw => exec_load_blk _ _ rfl _ rfl _ _ (hSw) _ (Try.underlying29) rfl (Try.viewSize)) ?_; simp only [setL]
    refine WH.only 1 _ rfl (by kernel_rfl) rfl (fun K hK => ?_)
    go_simp; refine (HM.out _).mono ?_; rintro e wa ⟨rfl, hba⟩; go_simp
    have HE := Lib.hid (bt HE.out hba)
    have hSn := hSn.ext hba; refine hK _ _ hSn ?_; clear hK; clear K; simp only [setL]
    refine WH.tk 2 ?_; simp only [setL]
    refine WH.tv 3 rfl (fun w' hSw => exec_load_blk _ _ rfl _ rfl _ _ (hSw) _ (Try.underlying29) rfl (Try.viewSize)) ?_; simp only [setL]
    refine WH.tk 4 ?_; simp only [setL]
    refine WH.only 5 _ rfl (by kernel_rfl) rfl (fun K hK => ?_)
    go_simp; refine (HH.out _).mono ?_; rintro e wb ⟨rfl, hbb⟩; go_simp
    have HE := Lib.hid (bt HE.out hbb)
    have hSn := hSn.ext hbb; refine hK _ _ hSn ?_; clear hK; clear K; simp only [setL]
    refine WH.tk 6 ?_; simp only [setL]
    refine WH.tk 7 ?_; simp only [setL]
    refine WH.skip 8 _ rfl (by kernel_rfl) (fun _ _ _ h => h) rfl (by assumption) ?_; simp only [setL]
    refine WH.skip 11 _ rfl (by kernel_rfl) (fun _ _ _ h => h) rfl (by assumption) ?_; simp only [setL]
    refine WH.onlySkip 9 _ rfl (by kernel_rfl) rfl (by assumption) ?_; simp only [setL]
    refine WH.onlySkip 10 _ rfl (by kernel_rfl) rfl (by assumption) ?_; simp only [setL]
    refine WH.onlySkip 12 _ rfl (by kernel_rfl) rfl (by assumption) ?_; simp only [setL]
    refine WH.tk 13 ?_; simp only [setL]
    refine WH.tk 14 ?_; simp only [setL]
    refine WH.done (by kernel_rfl) ?_
    go_wp2_with fail
    go_ret
    rw [H0.out]
    exact ⟨rfl, bt Hg1.out.1 HE.out⟩
  · have H0 := Lib.hid (vUse_on (l := l) T (no := no) hm (of_decide_eq_true hc))
    have HXL := Lib.hid (vBk_len (l := l) HT.out 1)
    have HC := Lib.hid (fun w' (h : Below w.heap.size w w') => vblock_any l f T HT.out 1 w' (HF.out.below h))
    generalize vBk l T 1 = X at *
    clear hm hc
    go_enter Try.func12, Try.ntmps12
    go_wp2_with (refine wpList_box_row rfl _ _ rfl _ rfl ?_)
    apply Stop.go; intro w1 Hg1 Hb1
    go_wp2_with fail
    refine WH.start (S := fun w' : World => Blk w' w.heap.size 29 (vval l f)) [false, false, false, false, false, false, false, false, false, false, false, false, false, false, false] 15 rfl rfl (by kernel_rfl) (Hb1.out.ext (bdrew w1 1)) (fun hSn => ?_); obtain ⟨wS, hwS⟩ : ∃ x, (w1).drew = x := ⟨_, rfl⟩; have HE := Lib.hid (show Below (w1).heap.size (w1) wS from hwS ▸ bdrew w1 1); rw [hwS] at hSn ⊢; clear hwS
    refine WH.tv 0 rfl (fun w' hSw => exec_load_blk _ _ rfl _ rfl _ _ (hSw) _ (Try.underlying29) rfl (Try.viewSize)) ?_; simp only [setL]
    refine WH.only 1 _ rfl (by kernel_rfl) rfl (fun K hK => ?_)
    go_simp; refine (HM.out _).mono ?_; rintro e wa ⟨rfl, hba⟩; go_simp
    have HE := Lib.hid (bt HE.out hba)
    have hSn := hSn.ext hba; refine hK _ _ hSn ?_; clear hK; clear K; simp only [setL]
    refine WH.tk 2 ?_; simp only [setL]
    refine WH.tv 3 rfl (fun w' hSw => exec_load_blk _ _ rfl _ rfl _ _ (hSw) _ (Try.underlying29) rfl (Try.viewSize)) ?_; simp only [setL]
    refine WH.tk 4 ?_; simp only [setL]
    refine WH.only 5 _ rfl (by kernel_rfl) rfl (fun K hK => ?_)
    go_simp; refine (HH.out _).mono ?_; rintro e wb ⟨rfl, hbb⟩; go_simp
    have HE := Lib.hid (bt HE.out hbb)
    have hSn := hSn.ext hbb; refine hK _ _ hSn ?_; clear hK; clear K; simp only [setL]
    refine WH.tk 6 ?_; simp only [setL]
    refine WH.tk 7 ?_; simp only [setL]
    refine WH.tv 8 rfl (fun w' hSw => exec_load_blk _ _ rfl _ rfl _ _ (hSw) _ (Try.underlying29) rfl (Try.viewSize)) ?_; simp only [setL]
    refine WH.tk 11 ?_; simp only [setL]
    refine WH.only 9 _ rfl (by kernel_rfl) rfl (fun K hK => ?_)
    go_simp; refine (map_any _).mono ?_; rintro e wc ⟨rfl, rfl⟩; go_simp
    have hSn := hSn; refine hK _ _ hSn ?_; clear hK; clear K; simp only [setL]
    refine WH.only 10 _ rfl (by kernel_rfl) rfl (fun K hK => ?_)
    go_simp; refine (HC.out _ (bt Hg1.out.1 HE.out)).mono ?_; rintro e wd ⟨rfl, hbd⟩; go_simp
    have HE := Lib.hid (bt HE.out hbd)
    have hSn := hSn.ext hbd; refine hK _ _ hSn ?_; clear hK; clear K; simp only [setL]
    refine WH.only 12 _ rfl (by kernel_rfl) rfl (fun K hK => ?_)
    go_simp; refine (has_any X HXL.out no _).mono ?_; rintro e we ⟨rfl, hbe⟩; go_simp
    have HE := Lib.hid (bt HE.out hbe)
    have hSn := hSn.ext hbe; refine hK _ _ hSn ?_; clear hK; clear K; simp only [setL]
    refine WH.tk 13 ?_; simp only [setL]
    refine WH.tk 14 ?_; simp only [setL]
    refine WH.done (by kernel_rfl) ?_
    go_wp2_with fail
    go_ret
    rw [H0.out]
    exact ⟨rfl, bt Hg1.out.1 HE.out⟩

theorem vIno_at {l : Lay14} (T : Int → List UInt8) (hm : l.may = true) {q : Int} (k j : Nat) (hq : q = 2 + (k : Int)) (hk : (k : Int) < l.tn) (hj : j < 8) :
    vIno l T (((8 * k + j : Nat) : Int) + 1) = getTV (vBk l T q) (j : Int) ∧ l.ino q (j : Int) = ((8 * k + j : Nat) : Int) + 1 := by
  have ho := Lay14.on hm
  have hi : l.isI (((8 * k + j : Nat) : Int) + 1) = true := by rw [Lay14.isI_on hm]; exact decide_eq_true (by omega)
  have hb : l.wb (((8 * k + j : Nat) : Int) + 1) = q := by unfold Lay14.wb; rw [if_pos hi]; omega
  have hw : l.wk (((8 * k + j : Nat) : Int) + 1) = (j : Int) := by unfold Lay14.wk; rw [if_pos hi]; omega
  have hh : l.has q (j : Int) = true := decide_eq_true (by omega)
  refine ⟨by rw [vIno_on T hi, hb, hw], ?_⟩
  unfold Lay14.ino
  rw [if_pos hh]
  omega
set_option maxHeartbeats 6400000 in
theorem vinodes_any (l : Lay14) (f : Value) (T : Int → List UInt8) (hT : ∀ no, (T no).length = 256) (w : World) (hf : FV w l f T) :
    Calls Try.prog 10 #[.agg (vval l f)] w fun e w' => ∃ v, e = .returned v ∧ OwnC w' w.heap.size 3 v (ivals (vAll l T (vIn l))) ∧ Below w.heap.size w w' := by
  have HT := Lib.hid hT
  have HF := Lib.hid hf
  have HzL : Hid ((zeros 256).length = 256) := Lib.hid (zeros_len _)
  have HFL : Hid (freeI.length = 11) := Lib.hid rfl
  clear hT hf
  obtain ⟨N, hN⟩ : ∃ N : Nat, l.tn = (N : Int) := ⟨l.tn.toNat, by have := l.bounds; omega⟩
  obtain ⟨F, hF⟩ : ∃ F, l.tf = F := ⟨_, rfl⟩
  have HvN := Lib.hid (show vIn l = 8 * N by
    cases hm : l.may
    · have := Lay14.off hm
      rw [vIn_off hm]
      omega
    · have := Lay14.on hm
      rw [vIn_on hm]
      omega)
  have HM := Lib.hid (show 0 < N → l.may = true ∧ F = 2 from fun h => by
    cases hm : l.may
    · have := Lay14.off hm
      omega
    · have := Lay14.on hm
      exact ⟨rfl, by omega⟩)
  have hb := l.bounds
  have hN16 : N ≤ 16 := by omega
  have HFb := Lib.hid (show 0 ≤ F ∧ F ≤ 2 by omega)
  have HTab := Lib.hid (show ∀ w' : World, Calls Try.prog 27 #[.agg l.val] w' fun e w'' => e = .returned (.tuple #[.int .i64 F, .int .i64 (N : Int)]) ∧ Below w'.heap.size w' w'' from fun w' => by
    rw [← hF, ← hN]
    exact table_any l w')
  have HN := Lib.hid hN
  obtain ⟨EN, HEq⟩ : ∃ EN, Hid (F + (N : Int) = EN) := ⟨_, Lib.hid rfl⟩
  have hw0 : IntKind.i64.wrap (F + (N : Int)) = EN := by rw [HEq.out]; exact IntWalk.i64_in _ (by have := HEq.out; have := HFb.out; omega)
  rw [HvN.out]
  clear hb hN hF HvN
  go_enter Try.func10, Try.ntmps10
  go_wp2_with (refine wpList_box_row rfl _ _ rfl _ rfl ?_)
  apply Stop.go; intro w1 Hg1 Hb1
  go_wp2_with (refine wpList_load_cells rfl _ _ rfl ⟨w.heap.size, 0, none⟩ rfl _ Try.underlying26 l.val.toList Try.laySize (vval_cells Hb1.out) ?_)
  refine (HTab.out _).mono ?_; rintro e w2 ⟨rfl, hb2⟩
  have HV2 := Lib.hid (Hb1.out.ext hb2)
  have E2 := Lib.hid (bt Hg1.out.1 hb2)
  clear Hg1 Hb1 hb2 HTab
  go_wp2_with fail
  go_loopw [3, 6, 7, 8, 9, 10, 11, 12, 30] (fun u z _ _ _ _ _ _ _ wr => ∃ (k : Nat) (q : Int), k ≤ N ∧ z = .int .i64 q ∧ Hid (q = F + (k : Int)) ∧ Hid (Below w.heap.size w wr) ∧ Hid (Blk wr w.heap.size 29 (vval l f)) ∧ Hid (OwnC wr (w.heap.size + 1) 3 u (ivals (vAll l T (8 * k))))) (fun _ z _ _ _ _ _ _ _ _ => (F + (N : Int) - intOf z).toNat)
  case atStart => exact ⟨0, F, Nat.zero_le _, rfl, Lib.hid (by omega), E2, HV2, Lib.hid (OwnC.nil_ _ _ _)⟩
  case round =>
    obtain ⟨k, q, hk, rfl, HQ, E, HV, HO⟩ := hrel
    clear E2 HV2
    by_cases hlt : k < N
    · obtain ⟨hm, hF2⟩ := HM.out (by omega)
      have HQ2 := Lib.hid (show q = 2 + (k : Int) by rw [HQ.out, hF2])
      have d1 : decide (q < EN) = true := decide_eq_true (by have := HQ.out; have := HEq.out; omega)
      have hw1 : IntKind.i64.wrap (q + 1) = q + 1 := IntWalk.i64_in _ (by have := HQ2.out; omega)
      have HXL := Lib.hid (vBk_len (l := l) HT.out q)
      have HC := Lib.hid (fun w' (h : Below w.heap.size w w') => vblock_any l f T HT.out q w' (HF.out.below h))
      have HI := Lib.hid (fun (j : Nat) (hj : j < 8) => vIno_at T hm k j HQ2.out (by rw [HN.out]; omega) hj)
      have hk16 : k < 16 := by omega
      have HLT := Lib.hid hlt
      clear hm hF2 hlt hk
      generalize vBk l T q = X at *
      go_wp2_with (refine wpList_load_blk rfl _ _ rfl _ rfl _ _ HV.out _ Try.underlying29 rfl Try.viewSize ?_)
      refine (HC.out _ E.out).mono ?_; rintro e w3 ⟨rfl, hb3⟩
      have E3 := Lib.hid (bt E.out hb3)
      have HV3 := Lib.hid (HV.out.ext hb3)
      have HO3 := Lib.hid (HO.out.ext hb3)
      clear hb3 E HV HO HC
      go_wp2_with (refine wpList_alloc_row rfl _ rfl _ Try.blockZero ?_)
      apply Stop.go; intro w4 Hg4 Hb4
      go_wp2_with (refine wpList_store_arr rfl _ _ _ rfl _ _ rfl rfl _ _ Hb4.out (Try.blockFits HXL.out) (by rw [bcells_size, bcells_size, HXL.out, HzL.out]) (oneCell_bcells _) ?_)
      apply Stop.go; intro w5 Ho5 Hb5
      have D5 := Lib.hid (bonly Hg4.out.1 Ho5.out (Nat.le_refl _))
      have E5 := Lib.hid (bt E3.out D5.out)
      have HV5 := Lib.hid (HV3.out.ext D5.out)
      have HO5 := Lib.hid (HO3.out.ext D5.out)
      have HA5 := Lib.hid (show u3.ownBlock ≠ some w3.heap.size from fun h => Nat.lt_irrefl _ (HO3.out.lt _ h).2)
      have Z5 := Lib.hid (show w.heap.size < w3.heap.size from HV3.out.lt)
      generalize w3.heap.size = gb at *
      clear Hg4 Hb4 Ho5 D5 E3 HV3 HO3
      obtain ⟨wL, hwL⟩ : ∃ x, x = wr := ⟨_, rfl⟩
      subst hwL
      go_wp2_with fail
      go_loopw [3, 8, 9, 10, 11, 12, 30] (fun u _ _ _ _ _ y wr => ∃ j : Nat, j ≤ 8 ∧ y = .int .i64 (j : Int) ∧ Hid (Below w.heap.size w wr) ∧ Hid (Blk wr w.heap.size 29 (vval l f)) ∧ Hid (Blk wr gb 49 (bcells X)) ∧ Hid (OwnC wr (w.heap.size + 1) 3 u (ivals (vAll l T (8 * k + j)))) ∧ Hid (u.ownBlock ≠ some gb)) (fun _ _ _ _ _ _ y _ => 8 - (intOf y).toNat)
      case atStart => exact ⟨0, Nat.zero_le _, rfl, E5, HV5, Hb5, HO5, HA5⟩
      case round =>
        obtain ⟨j, hj, rfl, E, HV, HB, HO, HA⟩ := hrel
        clear E5 HV5 Hb5 HO5 HA5
        by_cases hlt : j < 8
        · have d2 : decide ((j : Int) < 8) = true := by simp; omega
          have d3 : decide (j < 8) = true := by simp; omega
          have hw2 : IntKind.i64.wrap ((j : Int) + 1) = (j : Int) + 1 := IntWalk.i64_in _ (by omega)
          have HJ := Lib.hid (HI.out j hlt)
          have HYL := Lib.hid (getTV_len X (j : Int))
          have HG := Lib.hid (fun w' => tget_any X HXL.out (j : Int) w')
          have HNo := Lib.hid (vAll_no (l := l) (T := T) (n := 8 * k + j))
          have HYes := Lib.hid (vAll_yes (l := l) (T := T) (n := 8 * k + j))
          have HLn := Lib.hid (vAll_len l T (8 * k + j))
          rw [HJ.out.1] at HNo HYes
          have HIn := Lib.hid (show ∀ w' : World, Calls Try.prog 29 #[.agg l.val, .int .i64 q, .int .i64 (j : Int)] w' fun e w'' => e = .returned (.tuple #[.int .i64 (((8 * k + j : Nat) : Int) + 1), .bool (l.has q (j : Int))]) ∧ Below w'.heap.size w' w'' from fun w' => by
            rw [← HJ.out.2]
            exact inode_any l q (j : Int) w')
          generalize getTV X (j : Int) = Y at *
          generalize l.has q (j : Int) = hs at *
          have HN8 := Lib.hid (show 8 * k + (j + 1) = 8 * k + j + 1 by omega)
          have hkj : 8 * k + j < 200 := by omega
          generalize hP : 8 * k + j = P at *
          clear HJ hP
          go_wp2_with (refine wpList_load_arr rfl _ _ rfl _ rfl _ _ HB.out _ _ Try.underlying49 (Try.blockFits HXL.out) ?_)
          refine (HG.out _).mono ?_; rintro e w6 ⟨rfl, hb6⟩
          have E6 := Lib.hid (bt E.out hb6)
          have HV6 := Lib.hid (HV.out.ext hb6)
          have HB6 := Lib.hid (HB.out.ext hb6)
          have HO6 := Lib.hid (HO.out.ext hb6)
          clear hb6 E HV HB HO HG
          go_wp2_with (refine wpList_alloc_row rfl _ rfl _ Try.inoZero ?_)
          apply Stop.go; intro w7 Hg7 Hb7
          go_wp2_with (refine wpList_store_arr rfl _ _ _ rfl _ _ rfl rfl _ _ Hb7.out (Try.inoFits HYL.out) (by simp only [icells_size, HYL.out, HFL.out]) (oneCell_icells _) ?_)
          apply Stop.go; intro w8 Ho8 Hb8
          have D8 := Lib.hid (bonly Hg7.out.1 Ho8.out (Nat.le_refl _))
          have E8 := Lib.hid (bt E6.out D8.out)
          have HV8 := Lib.hid (HV6.out.ext D8.out)
          have HB8 := Lib.hid (HB6.out.ext D8.out)
          have HO8 := Lib.hid (HO6.out.ext D8.out)
          generalize w6.heap.size = gi at *
          have ci : w8.cell? ⟨gi, 0, none⟩ = some (.int .i64 (fld Y 0)) := Hb8.out.fld 0 (by rw [HYL.out]; omega)
          generalize fld Y 0 = r at *
          clear Hg7 Hb7 Ho8 D8 E6 HV6 HB6 HO6 Hb8
          by_cases hr : r = 0
          · have HX := Lib.hid (HNo.out hr)
            have d4 : (r != 0) = false := by simpa using hr
            clear hr HNo HYes HIn
            go_wp2_with fail
            go_roundw
            case rel => exact ⟨j + 1, by omega, by go_num, E8, HV8, HB8, Lib.hid (by rw [HN8.out, HX.out]; exact HO8.out), HA⟩
            case measure => simp [intOf]; omega
          · have HX := Lib.hid (HYes.out hr)
            have d4 : (r != 0) = true := by simpa using hr
            have hl1 : (ivals (vAll l T P)).length + 1 ≤ maxLen := by rw [ivals_len]; unfold maxLen; have := HLn.out; omega
            have hl2 : ((ivals (vAll l T P)).length + 1) * 8 ≤ 140737488355328 := by rw [ivals_len]; have := HLn.out; omega
            clear hr HNo HYes
            go_wp2_with (refine wpList_load_cells rfl _ _ rfl ⟨w.heap.size, 0, none⟩ rfl _ Try.underlying26 l.val.toList Try.laySize (vval_cells HV8.out) ?_)
            refine (HIn.out _).mono ?_; rintro e w9 ⟨rfl, hb9⟩
            have E9 := Lib.hid (bt E8.out hb9)
            have HV9 := Lib.hid (HV8.out.ext hb9)
            have HB9 := Lib.hid (HB8.out.ext hb9)
            have HO9 := Lib.hid (HO8.out.ext hb9)
            have Z9 := Lib.hid (show w.heap.size + 1 ≤ w9.heap.size by have := HV9.out.lt; omega)
            clear hb9 E8 HV8 HB8 HO8 ci HIn
            go_wp2_with (at_builtin; refine wpList_append_oneX rfl _ _ _ _ rfl Try.underlying37 (.int .i64 0) 8 Try.intInfo rfl (w.heap.size + 1) _ _ rfl HO9.out (.int .i64 ((P : Int) + 1)) rfl rfl Z9.out hl1 hl2 ?_)
            apply Stop.go
            intro v' wx Hv' Hbx Hsx
            have HOx := Lib.hid (show OwnC wx (w.heap.size + 1) 3 v' (ivals (vAll l T (P + 1))) by rw [HX.out, ← ivals_snoc]; exact Hv'.out)
            have HVx := Lib.hid (HV9.out.below Hbx.out (by omega))
            have Ex := Lib.hid (E9.out.trans (Hbx.out.mono (by omega)))
            have HBx := Lib.hid (Hsx.out _ _ _ HB9.out HA.out)
            clear Hv' Hbx Hsx HO9 HV9 E9 hl1 hl2 HLn HB9
            go_wp2_with fail
            go_roundw
            case rel => exact ⟨j + 1, by omega, by go_num, Ex, HVx, Lib.hid HBx.out.1, Lib.hid (by rw [HN8.out]; exact HOx.out), Lib.hid HBx.out.2⟩
            case measure => simp [intOf]; omega
        · obtain rfl : j = 8 := by omega
          have HOw := Lib.hid (show OwnC wr (w.heap.size + 1) 3 _ (ivals (vAll l T (8 * (k + 1)))) from HO.out)
          clear HO
          go_wp2_with fail
          go_roundw
          case rel => exact ⟨k + 1, q + 1, by have := HLT.out; omega, rfl, Lib.hid (by have := HQ.out; omega), E, HV, HOw⟩
          case measure => have := HQ.out; have := HLT.out; simp [intOf]; omega
    · obtain rfl : k = N := by omega
      have d1 : decide (q < EN) = false := decide_eq_false (by have := HQ.out; have := HEq.out; omega)
      have HOw := Lib.hid (HO.out.low (B' := w.heap.size) (by omega))
      clear HO
      go_wp2_with fail
      go_ret
      exact ⟨_, rfl, HOw.out, E.out⟩

set_option maxHeartbeats 3200000 in
theorem vimage_any (l : Lay14) (f : Value) (T : Int → List UInt8) (hT : ∀ no, (T no).length = 256) (w : World) (hf : FV w l f T) :
    Calls Try.prog 11 #[.agg (vval l f)] w (RetK w (vImg l T (vBn l))) := by
  have HT := Lib.hid hT
  have HF := Lib.hid hf
  clear hT hf
  cases hm : l.may
  · have H0 := Lib.hid (show vImg l T (vBn l) = [] by rw [vBn_off hm]; rfl)
    have HMy := Lib.hid (fun w' => vmay_any l f false hm w')
    clear hm
    go_enter Try.func11, Try.ntmps11
    go_wp2_with (refine wpList_box_row rfl _ _ rfl _ rfl ?_)
    apply Stop.go; intro w1 Hg1 Hb1
    go_wp2_with (refine wpList_load_blk rfl _ _ rfl _ rfl _ _ Hb1.out _ Try.underlying29 rfl Try.viewSize ?_)
    refine (HMy.out _).mono ?_; rintro e w2 ⟨rfl, hb2⟩
    go_wp2_with fail
    go_ret
    rw [H0.out]
    exact ⟨_, rfl, OwnK.nil_ _ _ _, bt Hg1.out.1 hb2⟩
  · have hl := Lay14.may_iff.1 hm
    obtain ⟨N, hN⟩ : ∃ N : Nat, l.blocks = (N : Int) := ⟨l.blocks.toNat, by omega⟩
    have HN := Lib.hid hN
    have HvN := Lib.hid (show vBn l = N by rw [vBn_on hm, hN]; rfl)
    have hN8 : N ≤ 512 := by omega
    have HMy := Lib.hid (fun w' => vmay_any l f true hm w')
    rw [HvN.out]
    clear hm hl hN HvN
    go_enter Try.func11, Try.ntmps11
    go_wp2_with (refine wpList_box_row rfl _ _ rfl _ rfl ?_)
    apply Stop.go; intro w1 Hg1 Hb1
    go_wp2_with (refine wpList_load_blk rfl _ _ rfl _ rfl _ _ Hb1.out _ Try.underlying29 rfl Try.viewSize ?_)
    refine (HMy.out _).mono ?_; rintro e w2 ⟨rfl, hb2⟩
    have HV2 := Lib.hid (Hb1.out.ext hb2)
    have E2 := Lib.hid (bt Hg1.out.1 hb2)
    have c0 : w2.cell? ⟨w.heap.size, 0, none⟩ = some (.int .i64 (N : Int)) := by rw [← HN.out]; exact HV2.out.cell 0
    clear Hg1 Hb1 hb2
    go_wp2_with fail
    clear c0
    go_loopw [3, 4, 11] (fun u _ z wr => ∃ k : Nat, k ≤ N ∧ z = .int .i64 k ∧ Hid (Below w.heap.size w wr) ∧ Hid (Blk wr w.heap.size 29 (vval l f)) ∧ Hid (OwnK wr (w.heap.size + 1) 49 u (vImg l T k))) (fun _ _ z _ => N - (intOf z).toNat)
    case atStart => exact ⟨0, Nat.zero_le _, rfl, E2, HV2, Lib.hid (OwnK.nil_ _ _ _)⟩
    case round =>
      obtain ⟨k, hk, rfl, E, HV, HO⟩ := hrel
      clear E2 HV2
      by_cases hlt : k < N
      · have d1 : decide ((k : Int) < (N : Int)) = true := by simp; omega
        have d2 : decide (k < N) = true := by simp; omega
        have HXL := Lib.hid (vBk_len (l := l) HT.out (k : Int))
        have HC := Lib.hid (fun w' (h : Below w.heap.size w w') => vblock_any l f T HT.out (k : Int) w' (HF.out.below h))
        have HNx := Lib.hid (vImg_next l T k)
        have HLn := Lib.hid (vImg_len l T k)
        generalize vBk l T (k : Int) = X at *
        go_wp2_with (refine wpList_load_blk rfl _ _ rfl _ rfl _ _ HV.out _ Try.underlying29 rfl Try.viewSize ?_)
        refine (HC.out _ E.out).mono ?_; rintro e w3 ⟨rfl, hb3⟩
        have E3 := Lib.hid (bt E.out hb3)
        have HV3 := Lib.hid (HV.out.ext hb3)
        have HO3 := Lib.hid (HO.out.ext hb3)
        clear hb3 E HV HO HC
        go_wp2_with (refine wpList_build_bk rfl _ _ _ rfl Try.underlying33 Try.blockInfo X HXL.out rfl ?_)
        apply Stop.go; intro w4 Hg4 Hb4
        have E4 := Lib.hid (bt E3.out Hg4.out.1)
        have HV4 := Lib.hid (HV3.out.ext Hg4.out.1)
        have HO4 := Lib.hid (HO3.out.ext Hg4.out.1)
        have HR4 := Lib.hid (show RK w4 (some ⟨w3.heap.size, 0, none⟩) [X] from RK.of_blk (one_bks HXL.out) (by rw [one_flat]; exact Hb4.out))
        have Z4 := Lib.hid (show w.heap.size + 1 ≤ w4.heap.size by have := HV4.out.lt; omega)
        generalize w3.heap.size = g3 at *
        generalize hI : vImg l T k = I at *
        clear Hg4 Hb4 E3 HV3 HO3 hI
        go_wp2_with (at_builtin; refine wpList_append_bk rfl _ _ _ _ rfl Try.underlying33 _ Try.blockInfo ((bcells_size _).trans (zeros_len 256)) (w.heap.size + 1) _ I HO4.out ⟨g3, 0, none⟩ 1 1 [X] (one_bks HXL.out) rfl HR4.out rfl rfl Z4.out (by rw [HLn.out]; omega) ?_)
        apply Stop.go; intro v5 w5 HO5 HB5
        have HOx := Lib.hid (show OwnK w5 (w.heap.size + 1) 49 v5 (vImg l T (k + 1)) by rw [HNx.out]; exact HO5.out)
        have HVx := Lib.hid (HV4.out.below HB5.out (by omega))
        have Ex := Lib.hid (E4.out.trans (HB5.out.mono (by omega)))
        clear HO5 HB5 HO4 HV4 E4 HR4 HLn
        go_wp2_with fail
        go_roundw
        case rel => exact ⟨k + 1, by omega, by go_num, Ex, HVx, HOx⟩
        case measure => simp [intOf]; omega
      · obtain rfl : k = N := by omega
        have HOw := Lib.hid (show OwnK wr w.heap.size 49 u3 (vImg l T k) from HO.out.low (by omega))
        clear HO
        go_wp2_with fail
        go_ret
        exact ⟨_, rfl, HOw.out, E.out⟩

theorem vc : VC := ⟨vof_any, fun l get T _ => von_any l get T, vblock_any, vinode_any, vused_any, vinodes_any, vimage_any⟩

end Go.Proofs.Ytpdeohmgjblkeaa
