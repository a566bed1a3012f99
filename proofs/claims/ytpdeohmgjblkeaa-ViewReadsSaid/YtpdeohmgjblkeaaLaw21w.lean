/-
  Layer 21: works.
-/
import Derived.Test.YtpdeohmgjblkeaaVwC
namespace Go.Proofs.Ytpdeohmgjblkeaa
open Go.RowKit
set_option maxRecDepth 10000

theorem small_lay : layW smallL = some lay16 := by
  have h1 : get14 (bkV smallL 0) = some lay16 := by
    have e : bkV smallL 0 = lay16.blk := rfl
    rw [e]
    unfold Lay14.blk
    rw [if_pos (by decide)]
    exact get_put14 (by decide) (by decide)
  exact layW_some (by rw [smallL_len]; omega) h1 (by rw [smallL_len]; rfl)
theorem small_kind : fld (vIno lay16 (bkV smallL) 1) 0 = 2 := by decide +kernel
theorem small_used : vUse lay16 (bkV smallL) 2 = true ∧ vUse lay16 (bkV smallL) 3 = false := by decide +kernel
theorem small_all : vAll lay16 (bkV smallL) (vIn lay16) = [1] := by decide +kernel
theorem zeros_lay : layW (List.replicate 16 (zeros 256)) = none := layW_none (by
  have e : bkV (List.replicate 16 (zeros 256)) 0 = zeros 256 := rfl
  rw [e]
  have h : (seen14 (zeros 256)).may = false := by decide +kernel
  unfold get14
  rw [if_neg (by rw [h]; simp)])

theorem rc_one21 {w : World} {t : TypeId} (x : Int) : RC (w.alloc (.cells #[.int .i64 x] t)) (some ⟨w.heap.size, 0, none⟩) (ivals [x]) := rc_lits21 [x]
set_option maxHeartbeats 3200000 in
theorem works21_any (C : VC) (w : World) : Calls Try.prog 6 #[] w fun e w' => e = .returned (.bool true) ∧ Below w.heap.size w w' := by
  have HTL := Lib.hid (fun no => bkV_len smallL_bks no)
  have HLY := Lib.hid (layV_some small_lay)
  have HIV := Lib.hid small_kind
  have HU2 := Lib.hid small_used.1
  have HU3 := Lib.hid small_used.2
  have HAL := Lib.hid small_all
  have HC1 := Lib.hid (fun (A : Option Addr) (c : Nat) (w : World) (h : RK w A smallL) => show Calls Try.prog 7 #[.slice A 16 c] w fun e w' => ∃ f, e = .returned (.tuple #[.agg (vval lay16 f), .int .i64 0]) ∧ Below w.heap.size w w' ∧ FV w' lay16 f (bkV smallL) by
    have := C.of_ A 16 c smallL smallL_len smallL_bks (by omega) w h
    rw [layV_some small_lay, small_lay] at this
    exact this)
  obtain ⟨Z, HZd⟩ : ∃ Z, Hid (List.replicate 16 (zeros 256) = Z) := ⟨_, Lib.hid rfl⟩
  have HZB := Lib.hid (show Bks Z by rw [← HZd.out]; exact Bks.same 16 (zeros_len 256))
  have HC2 := Lib.hid (fun (A : Option Addr) (c : Nat) (w : World) (h : RK w A Z) => show Calls Try.prog 7 #[.slice A 16 c] w fun e w' => ∃ f, e = .returned (.tuple #[.agg (vval zero14 f), .int .i64 13]) ∧ Below w.heap.size w w' ∧ FV w' zero14 f (bkV Z) by
    have := C.of_ A 16 c Z (by rw [← HZd.out]; rfl) HZB.out (by omega) w h
    rw [← HZd.out, layV_none zeros_lay, zeros_lay, HZd.out] at this
    exact this)
  have HIL := Lib.hid (vIno_len lay16 (bkV smallL) 1)
  generalize hT : bkV smallL = T at *
  obtain ⟨X, HX⟩ : ∃ X, Hid (vIno lay16 T 1 = X) := ⟨_, Lib.hid rfl⟩
  rw [HX.out] at HIV HIL
  clear hT HLY
  go_enter Try.func6, Try.ntmps6
  go_wp2_with fail
  refine (small_any _).mono ?_; rintro e w1 ⟨v1, rfl, hv1, hb1⟩
  obtain ⟨A1, c1, rfl, hc1, hm1, hr1⟩ := hv1.read
  rw [smallL_len]
  have HR1 := Lib.hid hr1
  have E1 := Lib.hid hb1
  clear hv1 hc1 hm1 hr1 hb1
  go_wp2_with fail
  refine (HC1.out A1 c1 _ HR1.out).mono ?_; rintro e w2 ⟨f, rfl, hb2, hf2⟩
  have HF2 := Lib.hid hf2
  have E2 := Lib.hid (bt E1.out hb2)
  clear hb2 hf2 HR1 E1 HC1
  go_wp2_with (refine wpList_alloc_row rfl _ rfl _ Try.viewZero ?_)
  apply Stop.go; intro w3 Hg3 Hb3
  go_wp2_with (refine wpList_store_arr rfl _ _ _ rfl _ (vval lay16 f) rfl rfl _ _ Hb3.out Try.viewSize rfl (FV.one HF2.out) ?_)
  apply Stop.go; intro w4 Ho4 Hb4
  have D4 := Lib.hid (bonly Hg3.out.1 Ho4.out (Nat.le_refl _))
  have HF4 := Lib.hid (HF2.out.below D4.out)
  have E4 := Lib.hid (bt E2.out D4.out)
  generalize w2.heap.size = g2 at *
  clear Hg3 Hb3 Ho4 D4 HF2 E2
  go_wp2_with (refine wpList_make_bkL rfl _ _ _ _ rfl Try.underlying33 Try.blockInfo _ _ _ _ 16 rfl rfl rfl rfl (by omega) Z HZd.out ?_)
  apply Stop.go; intro w5 Hg5 Hb5
  have HR5 := Lib.hid (RK.of_blk HZB.out Hb5.out)
  have HV5 := Lib.hid (Hb4.out.ext Hg5.out.1)
  have HF5 := Lib.hid (HF4.out.below Hg5.out.1)
  have E5 := Lib.hid (bt E4.out Hg5.out.1)
  clear Hg5 Hb5 Hb4 HF4 E4
  go_wp2_with fail
  refine (HC2.out _ 16 _ HR5.out).mono ?_; rintro e w6 ⟨f6, rfl, hb6, hf6⟩
  have HF6 := Lib.hid (HF5.out.below hb6)
  have HV6 := Lib.hid (HV5.out.ext hb6)
  have HG6 := Lib.hid hf6
  have E6 := Lib.hid (bt E5.out hb6)
  clear hb6 hf6 HR5 HF5 HV5 E5 HC2
  go_wp2_with (refine wpList_alloc_row rfl _ rfl _ Try.viewZero ?_)
  apply Stop.go; intro w7 Hg7 Hb7
  go_wp2_with (refine wpList_store_arr rfl _ _ _ rfl _ (vval zero14 f6) rfl rfl _ _ Hb7.out Try.viewSize rfl (FV.one HG6.out) ?_)
  apply Stop.go; intro w8 Ho8 Hb8
  have D8 := Lib.hid (bonly Hg7.out.1 Ho8.out (Nat.le_refl _))
  have HF8 := Lib.hid (HF6.out.below D8.out)
  have HV8 := Lib.hid (HV6.out.ext D8.out)
  have E8 := Lib.hid (bt E6.out D8.out)
  clear Hg7 Hb7 Ho8 D8 HF6 HV6 E6 HG6 Hb8
  go_wp2_with (refine wpList_load_blk rfl _ _ rfl _ rfl _ _ HV8.out _ Try.underlying29 rfl Try.viewSize ?_)
  refine (C.inode lay16 f T HTL.out 1 _ HF8.out).mono ?_; rintro e w9 ⟨rfl, hb9⟩
  rw [HX.out]
  have HF9 := Lib.hid (HF8.out.below hb9)
  have HV9 := Lib.hid (HV8.out.ext hb9)
  have E9 := Lib.hid (bt E8.out hb9)
  have hk := run_field_kind HIL.out w9
  rw [HIV.out] at hk
  clear hb9 HF8 HV8 E8
  go_wp2_with (first | refine wpList_field rfl _ _ _ rfl _ _ rfl hk ?_ | refine wpList_load_blk rfl _ _ rfl _ rfl _ _ HV9.out _ Try.underlying29 rfl Try.viewSize ?_)
  refine (C.used lay16 f T HTL.out 2 _ HF9.out).mono ?_; rintro e wa ⟨rfl, hba⟩
  rw [HU2.out]
  have HFa := Lib.hid (HF9.out.below hba)
  have HVa := Lib.hid (HV9.out.ext hba)
  have Ea := Lib.hid (bt E9.out hba)
  clear hba HF9 HV9 E9 hk
  go_wp2_with (refine wpList_load_blk rfl _ _ rfl _ rfl _ _ HVa.out _ Try.underlying29 rfl Try.viewSize ?_)
  refine (C.used lay16 f T HTL.out 3 _ HFa.out).mono ?_; rintro e wb ⟨rfl, hbb⟩
  rw [HU3.out]
  have HFb := Lib.hid (HFa.out.below hbb)
  have HVb := Lib.hid (HVa.out.ext hbb)
  have Eb := Lib.hid (bt Ea.out hbb)
  clear hbb HFa HVa Ea
  go_wp2_with (refine wpList_load_blk rfl _ _ rfl _ rfl _ _ HVb.out _ Try.underlying29 rfl Try.viewSize ?_)
  refine (C.inodes lay16 f T HTL.out _ HFb.out).mono ?_; rintro e wc ⟨v, rfl, hv, hbc⟩
  rw [HAL.out] at hv
  obtain ⟨Ac, cc, rfl, hcc, hmc, hrc⟩ := hv.ints
  have HRc := Lib.hid hrc
  have Ec := Lib.hid (bt Eb.out hbc)
  clear hv hcc hmc hrc hbc HFb HVb Eb
  go_wp2_with fail
  have hrd : RC (wc.alloc (.cells #[.int .i64 1] 3)) (some ⟨wc.heap.size, 0, none⟩) (ivals [1]) := rc_one21 1
  have hbd : Below wc.heap.size wc (wc.alloc (.cells #[.int .i64 1] 3)) := (Below.refl _ _).alloc (Nat.le_refl _) _
  refine (ints_any Ac 1 cc [1] rfl _ 1 1 [1] rfl (by unfold maxLen; omega) (by unfold maxLen; omega) _ (HRc.out.below hbd) hrd).mono ?_; rintro e wd ⟨rfl, m, rfl⟩
  rw [show decide (([1] : List Int) = [1]) = true from rfl]
  have hbe := bt hbd (bdrew _ m)
  go_wp2_with fail
  go_ret
  exact ⟨rfl, bt Ec.out hbe⟩

end Go.Proofs.Ytpdeohmgjblkeaa
