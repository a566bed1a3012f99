/-
  Layer 19: the walk of IndexFixes. Written by wip/tools/gen19/law19fs.py.
-/
import Derived.Test.YthcbjihdbkpkeaaLaw19
import Derived.Deep.CutRange
namespace Go.Proofs.Ythcbjihdbkpkeaa
open Go.RowKit

set_option maxHeartbeats 3200000 in
theorem indexFixes_any (d : Int) (t : List Int) (ht : t.length = 32) (w : World) :
    Calls Try.prog 6 #[.agg (icells (d :: t))] w fun e w' => e = .returned (.bool true) ∧ Below w.heap.size w w' := by
  have HL := Lib.hid ht
  have HzT := Lib.hid zeroT_len
  have HVL := Lib.hid (fixV_len d t)
  have hfr := fix_is_right d t
  have C1 := Lib.hid (fun (w : World) => xfix_any d t ht w)
  have C2 := Lib.hid (fun (w : World) => xright_any (fixD d) (fixV d t) HVL.out w)
  rw [hfr] at C2
  have C3 := Lib.hid (fun (w : World) => xfix_any (fixD d) (fixV d t) HVL.out w)
  rw [(fix_right_same hfr).1, (fix_right_same hfr).2] at C3
  obtain ⟨r, Hr⟩ : ∃ r, Hid (rightX d t = r) := ⟨_, Lib.hid rfl⟩
  have C4 := Lib.hid (fun (w : World) => xright_any d t ht w)
  rw [Hr.out] at C4
  have HNE := Lib.hid (show ∀ w, (binOp .neq 30 (.agg (icells (fixD d :: fixV d t))) (.agg (icells (fixD d :: fixV d t)))).run Try.prog w = .ok (.bool false) w from fun w => by rw [run_neq_ix _ _ _ _ (fixV_len d t) (fixV_len d t) w]; simp)
  have HEQ := Lib.hid (show r = true → ∀ w, (binOp .eql 30 (.agg (icells (fixD d :: fixV d t))) (.agg (icells (d :: t)))).run Try.prog w = .ok (.bool true) w from fun e w => by
    rw [run_eql_ix _ _ _ _ (fixV_len d t) ht w, fix_right, Hr.out, e])
  have HAt := Lib.hid (fixV_at d t)
  obtain ⟨D, hD⟩ : ∃ x, fixD d = x := ⟨_, rfl⟩
  obtain ⟨V, hV⟩ : ∃ x, fixV d t = x := ⟨_, rfl⟩
  rw [hD, hV] at C1 C2 C3 HNE HEQ
  rw [hV] at HVL HAt
  clear hfr hD hV Hr
  go_enter Try.func6, Try.ntmps6
  go_wp2_with (refine wpList_box_row rfl _ _ rfl _ rfl ?_)
  apply Stop.go; intro w1 Hg1 Hb1
  go_wp2_with (refine wpList_load_blk rfl _ _ rfl _ rfl _ _ Hb1.out _ Try.underlying24 rfl (Try.rxFits HL.out) ?_)
  refine (C1.out _).mono ?_; rintro e w2 ⟨rfl, hb2⟩
  have HB2 := Lib.hid (Hb1.out.ext hb2)
  have E2 := Lib.hid (bt Hg1.out.1 hb2)
  have Z2 := Lib.hid (show w.heap.size < w2.heap.size from HB2.out.lt)
  clear hb2 Hb1 Hg1
  go_wp2_with (refine wpList_alloc_row rfl _ rfl _ Try.ixZero ?_)
  apply Stop.go; intro w3 Hg3 Hb3
  go_wp2_with (refine wpList_store_arr rfl _ _ _ rfl _ _ rfl rfl _ _ Hb3.out (Try.ixFits HVL.out) (icells_same HzT.out HVL.out) (oneCell_icells _) ?_)
  apply Stop.go; intro w4 Ho4 Hb4
  have HB4 := Lib.hid ((HB2.out.ext Hg3.out.1).only Ho4.out (by have := Z2.out; omega))
  have E4 := Lib.hid (bonly (bt E2.out Hg3.out.1) Ho4.out (Nat.le_of_lt Z2.out))
  generalize w2.heap.size = g3 at *
  clear HB2 E2 Hg3 Hb3 Ho4
  go_wp2_with fail
  refine WH.start (S := (fun w' : World => Blk w' w.heap.size 24 (icells (d :: t)) ∧ Blk w' g3 30 (icells (D :: V)))) [false, false, false, false, false, false, false, false, false] 9 rfl rfl (by kernel_rfl) (⟨HB4.out.ext (bdrew w4 1), Hb4.out.ext (bdrew w4 1)⟩) (fun hSn => ?_); obtain ⟨wS, hwS⟩ : ∃ x, (w4).drew = x := ⟨_, rfl⟩; have HE := Lib.hid (show Below (w4).heap.size (w4) wS from hwS ▸ bdrew w4 1); rw [hwS] at hSn ⊢; clear hwS
  refine WH.tv 0 rfl (fun w' hSw => exec_load_blk _ _ rfl _ rfl _ _ (hSw.2) _ (Try.underlying30) rfl (Try.ixFits HVL.out)) ?_; simp only [setL]
  refine WH.only 1 _ rfl (by kernel_rfl) rfl (fun K hK => ?_)
  go_simp; refine (C2.out _).mono ?_; rintro e x1 ⟨rfl, hba⟩; go_simp
  have HE := Lib.hid (bt HE.out hba)
  have hSn := And.intro (hSn.1.ext hba) (hSn.2.ext hba); refine hK _ _ hSn ?_; clear hK; clear K; simp only [setL]
  clear hba
  refine WH.tk 2 ?_; simp only [setL]
  refine WH.tk 3 ?_; simp only [setL]
  refine WH.tv 4 rfl (fun w' hSw => exec_load_blk _ _ rfl _ rfl _ _ (hSw.2) _ (Try.underlying30) rfl (Try.ixFits HVL.out)) ?_; simp only [setL]
  refine WH.tv 6 rfl (fun w' hSw => exec_load_blk _ _ rfl _ rfl _ _ (hSw.2) _ (Try.underlying30) rfl (Try.ixFits HVL.out)) ?_; simp only [setL]
  refine WH.only 5 _ rfl (by kernel_rfl) rfl (fun K hK => ?_)
  go_simp; refine (C3.out _).mono ?_; rintro e x2 ⟨rfl, hba⟩; go_simp
  have HE := Lib.hid (bt HE.out hba)
  have hSn := And.intro (hSn.1.ext hba) (hSn.2.ext hba); refine hK _ _ hSn ?_; clear hK; clear K; simp only [setL]
  clear hba
  refine WH.tv 7 rfl (fun w' hSw => exec_eql_agg _ _ _ _ _ rfl (by kernel_rfl) (icells (D :: V)) (icells (D :: V)) rfl rfl _ (HNE.out _)) ?_; simp only [setL]
  refine WH.tk 8 ?_; simp only [setL]
  refine WH.done (by kernel_rfl) ?_
  have HBx := Lib.hid hSn.1
  have HVx := Lib.hid hSn.2
  have Ex := Lib.hid (bt E4.out HE.out)
  clear HE hSn HB4 Hb4 E4
  go_wp2_with fail
  go_loopw [4] (fun i wr => ∃ k : Nat, k ≤ 32 ∧ i = .int .i64 k ∧ Hid (Blk wr w.heap.size 24 (icells (d :: t))) ∧ Hid (Blk wr g3 30 (icells (D :: V))) ∧ Hid (Below w.heap.size w wr)) (fun i _ => 32 - (intOf i).toNat)
  case atStart => exact ⟨0, Nat.zero_le _, rfl, HBx, HVx, Ex⟩
  case round =>
    obtain ⟨k, hk, rfl, HBk, HVk, Ek⟩ := hrel
    by_cases hlt : k < 32
    · have d0 : decide ((k : Int) < 32) = true := by simp; omega
      have k0 : 0 ≤ (k : Int) := by omega
      have k1 : (k : Int) < 32 := by omega
      have HK := Lib.hid hlt
      obtain ⟨x, Hx⟩ : ∃ x, Hid (fld V k = x) := ⟨_, Lib.hid rfl⟩
      by_cases h0 : x = 0
      · have e0 : (x != 0) = false := by simp [h0]
        go_wp2_with fail
        refine WH.start (S := (fun w' : World => Blk w' w.heap.size 24 (icells (d :: t)) ∧ Blk w' g3 30 (icells (D :: V)))) [false, false, false, false, false, false, false, false, false, false, false, false, false, false, false, false] 16 rfl rfl (by kernel_rfl) (⟨HBk.out.ext (bdrew _ 1), HVk.out.ext (bdrew _ 1)⟩) (fun hSn => ?_); obtain ⟨wS, hwS⟩ : ∃ x, (wr).drew = x := ⟨_, rfl⟩; have HE := Lib.hid (show Below (wr).heap.size (wr) wS from hwS ▸ bdrew wr 1); rw [hwS] at hSn ⊢; clear hwS
        refine WH.tk 0 ?_; simp only [setL]
        refine WH.tk 1 ?_; simp only [setL]
        refine WH.tk 2 ?_; simp only [setL]
        refine WH.tv 3 rfl (fun w' hSw => exec_load_cell _ _ rfl ⟨g3, 1 + k, none⟩ rfl _ (int_cell hSw.2 k (by rw [HVL.out]; exact HK.out)) _ Try.underlying3 rfl) ?_; simp only [setL]
        rw [Hx.out]
        refine WH.tk 4 ?_; simp only [setL]
        refine WH.tk 5 ?_; simp only [setL]
        refine WH.skip 6 _ rfl (by kernel_rfl) (fun _ _ _ h => h) rfl (by assumption) ?_; simp only [setL]
        refine WH.skip 7 _ rfl (by kernel_rfl) (fun _ _ _ h => h) rfl (by assumption) ?_; simp only [setL]
        refine WH.skip 8 _ rfl (by kernel_rfl) (fun _ _ _ h => h) rfl (by assumption) ?_; simp only [setL]
        refine WH.skip 9 _ rfl (by kernel_rfl) (fun _ _ _ h => h) rfl (by assumption) ?_; simp only [setL]
        refine WH.skip 10 _ rfl (by kernel_rfl) (fun _ _ _ h => h) rfl (by assumption) ?_; simp only [setL]
        refine WH.skip 11 _ rfl (by kernel_rfl) (fun _ _ _ h => h) rfl (by assumption) ?_; simp only [setL]
        refine WH.skip 12 _ rfl (by kernel_rfl) (fun _ _ _ h => h) rfl (by assumption) ?_; simp only [setL]
        refine WH.skip 13 _ rfl (by kernel_rfl) (fun _ _ _ h => h) rfl (by assumption) ?_; simp only [setL]
        refine WH.skip 14 _ rfl (by kernel_rfl) (fun _ _ _ h => h) rfl (by assumption) ?_; simp only [setL]
        refine WH.tk 15 ?_; simp only [setL]
        refine WH.done (by kernel_rfl) ?_
        have HBn := Lib.hid hSn.1
        have HVn := Lib.hid hSn.2
        have En := Lib.hid (bt Ek.out HE.out)
        clear HE hSn HBk HVk Ek
        go_wp2_with fail
        go_roundw
        case rel => exact ⟨k + 1, by omega, by go_num, HBn, HVn, En⟩
        case measure => simp [intOf]; omega
      · have Ht := Lib.hid (show fld t k = x by
          have := HAt.out k hlt (by rw [Hx.out]; exact h0)
          rw [Hx.out] at this
          exact this.symm)
        have e0 : (x != 0) = true := by simpa using h0
        have e1 : (x != x) = false := by simp
        clear h0
        go_wp2_with fail
        refine WH.start (S := (fun w' : World => Blk w' w.heap.size 24 (icells (d :: t)) ∧ Blk w' g3 30 (icells (D :: V)))) [false, false, false, false, false, false, false, false, false, false, false, false, false, false, false, false] 16 rfl rfl (by kernel_rfl) (⟨HBk.out.ext (bdrew _ 1), HVk.out.ext (bdrew _ 1)⟩) (fun hSn => ?_); obtain ⟨wS, hwS⟩ : ∃ x, (wr).drew = x := ⟨_, rfl⟩; have HE := Lib.hid (show Below (wr).heap.size (wr) wS from hwS ▸ bdrew wr 1); rw [hwS] at hSn ⊢; clear hwS
        refine WH.tk 0 ?_; simp only [setL]
        refine WH.tk 1 ?_; simp only [setL]
        refine WH.tk 2 ?_; simp only [setL]
        refine WH.tv 3 rfl (fun w' hSw => exec_load_cell _ _ rfl ⟨g3, 1 + k, none⟩ rfl _ (int_cell hSw.2 k (by rw [HVL.out]; exact HK.out)) _ Try.underlying3 rfl) ?_; simp only [setL]
        rw [Hx.out]
        refine WH.tk 4 ?_; simp only [setL]
        refine WH.tk 5 ?_; simp only [setL]
        refine WH.tk 6 ?_; simp only [setL]
        refine WH.tk 7 ?_; simp only [setL]
        refine WH.tk 8 ?_; simp only [setL]
        refine WH.tv 9 rfl (fun w' hSw => exec_load_cell _ _ rfl ⟨g3, 1 + k, none⟩ rfl _ (int_cell hSw.2 k (by rw [HVL.out]; exact HK.out)) _ Try.underlying3 rfl) ?_; simp only [setL]
        rw [Hx.out]
        refine WH.tk 10 ?_; simp only [setL]
        refine WH.tk 11 ?_; simp only [setL]
        refine WH.tk 12 ?_; simp only [setL]
        refine WH.tv 13 rfl (fun w' hSw => exec_load_cell _ _ rfl ⟨w.heap.size, 1 + k, none⟩ rfl _ (int_cell hSw.1 k (by rw [HL.out]; exact HK.out)) _ Try.underlying3 rfl) ?_; simp only [setL]
        rw [Ht.out]
        refine WH.tk 14 ?_; simp only [setL]
        refine WH.tk 15 ?_; simp only [setL]
        refine WH.done (by kernel_rfl) ?_
        have HBn := Lib.hid hSn.1
        have HVn := Lib.hid hSn.2
        have En := Lib.hid (bt Ek.out HE.out)
        clear HE hSn HBk HVk Ek
        go_wp2_with fail
        go_roundw
        case rel => exact ⟨k + 1, by omega, by go_num, HBn, HVn, En⟩
        case measure => simp [intOf]; omega
    · obtain rfl : k = 32 := by omega
      have d0 : decide ((32 : Int) < 32) = false := by simp
      go_upto_region 9 with fail
      go_wp2_with (refine wpList_load_blk rfl _ _ rfl _ rfl _ _ HBk.out _ Try.underlying24 rfl (Try.rxFits HL.out) ?_)
      refine (C4.out _).mono ?_; rintro e w6 ⟨rfl, hb6⟩
      have HB6 := Lib.hid (HBk.out.ext hb6)
      have HV6 := Lib.hid (HVk.out.ext hb6)
      have E6 := Lib.hid (bt Ek.out hb6)
      clear hb6 HBk HVk Ek
      cases r
      · go_wp2_with fail
        refine (works19_any _).mono ?_; rintro e w7 ⟨rfl, hb7⟩
        go_wp2_with fail
        go_ret
        exact ⟨rfl, bt E6.out hb7⟩
      · have HEQ2 := Lib.hid (HEQ.out rfl)
        clear HEQ
        go_wp2_with (first | refine wpList_load_blk rfl _ _ rfl _ rfl _ _ HV6.out _ Try.underlying30 rfl (Try.ixFits HVL.out) ?_ | refine wpList_load_blk rfl _ _ rfl _ rfl _ _ HB6.out _ Try.underlying24 rfl (Try.rxFits HL.out) ?_ | refine wpList_eql_stop rfl _ _ _ _ _ rfl (by kernel_rfl) (icells (D :: V)) (icells (d :: t)) rfl rfl _ (HEQ2.out _) ?_)
        apply Stop.go
        go_wp2_with fail
        refine (works19_any _).mono ?_; rintro e w7 ⟨rfl, hb7⟩
        go_wp2_with fail
        go_ret
        exact ⟨rfl, bt E6.out hb7⟩

end Go.Proofs.Ythcbjihdbkpkeaa
