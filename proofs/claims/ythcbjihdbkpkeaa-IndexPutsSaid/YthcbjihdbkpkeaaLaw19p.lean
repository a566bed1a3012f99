/-
  Layer 19: the walk of IndexPuts.
-/
import Derived.Test.YthcbjihdbkpkeaaLaw19
namespace Go.Proofs.Ythcbjihdbkpkeaa
open Go.RowKit

set_option maxHeartbeats 3200000 in
theorem indexPuts_any (d : Int) (t : List Int) (ht : t.length = 32) (b : List UInt8) (hb : b.length = 256) (w : World) :
    Calls Try.prog 3 #[.agg (icells (d :: t)), .agg (bcells b)] w fun e w' => e = .returned (.bool true) ∧ Below w.heap.size w w' := by
  have HL := Lib.hid ht
  have HbL := Lib.hid hb
  have HzL : Hid ((zeros 256).length = 256) := Lib.hid (zeros_len _)
  have HzT := Lib.hid zeroT_len
  obtain ⟨m, Hm⟩ : ∃ m, Hid (mayX d t = m) := ⟨_, Lib.hid rfl⟩
  obtain ⟨X, HX⟩ : ∃ X, Hid (outX d t = X) := ⟨_, Lib.hid rfl⟩
  have HXL := Lib.hid (show X.length = 256 by rw [← HX.out]; exact outX_len ht d)
  obtain ⟨Y, HY⟩ : ∃ Y, Hid (rputX d t = Y) := ⟨_, Lib.hid rfl⟩
  obtain ⟨r, Hr⟩ : ∃ r, Hid (rightX d t = r) := ⟨_, Lib.hid rfl⟩
  have HU := Lib.hid (show X = if m then putX d t else zeros 256 by rw [← HX.out]; unfold outX; rw [Hm.out])
  have HV := Lib.hid (show Y = if m then putX d t else [] by rw [← HY.out]; unfold rputX; rw [Hm.out])
  have HPut := Lib.hid (fun (w : World) => xput_any d t ht w)
  rw [HX.out, Hm.out] at HPut
  have HPr := Lib.hid (fun (w : World) => rput19_any d t ht w)
  rw [HY.out, Hm.out] at HPr
  have HR1 := Lib.hid (fun (w : World) => xright_any d t ht w)
  rw [Hr.out] at HR1
  have HR2 := Lib.hid (fun (w : World) => rright_any d t ht w)
  rw [Hr.out] at HR2
  obtain ⟨c, Hc⟩ : ∃ c, Hid (getB b = c) := ⟨_, Lib.hid rfl⟩
  obtain ⟨GD, HGD⟩ : ∃ c, Hid (getD_ b = c) := ⟨_, Lib.hid rfl⟩
  obtain ⟨GT, HGT⟩ : ∃ c, Hid (getT_ b = c) := ⟨_, Lib.hid rfl⟩
  have HGL := Lib.hid (show GT.length = 32 by rw [← HGT.out]; exact getT_len b)
  have HG1 := Lib.hid (fun (w : World) => xget_any b hb w)
  rw [HGD.out, HGT.out, Hc.out] at HG1
  have HG2 := Lib.hid (fun (A : Option Addr) (cap : Nat) (w : World) (hr : RB w A b) => rget19_any A cap b hb w hr)
  rw [HGD.out, HGT.out, Hc.out] at HG2
  have HEQ := Lib.hid (show ∀ w, (binOp .eql 24 (.agg (icells (GD :: GT))) (.agg (icells (GD :: GT)))).run Try.prog w = .ok (.bool true) w from fun w => by rw [run_eql_rx GD GD GT GT HGL.out HGL.out w]; simp)
  have dr : (r != r) = false := by simp
  clear HX HY Hm Hr Hc HGD HGT
  go_enter Try.func3, Try.ntmps3
  go_wp2_with (refine wpList_box_row rfl _ _ rfl _ rfl ?_)
  apply Stop.go; intro w1 Hg1 Hb1
  go_wp2_with (refine wpList_box_row rfl _ _ rfl _ rfl ?_)
  apply Stop.go; intro w2 Hg2 Hb2
  have z1 := Hg1.out.2
  have z2 := Hg2.out.2
  have HB2 := Lib.hid (Hb1.out.ext Hg2.out.1)
  have E2 := Lib.hid (bt Hg1.out.1 Hg2.out.1)
  have Hz := Lib.hid (show w.heap.size < w1.heap.size ∧ w1.heap.size < w2.heap.size by omega)
  clear z1 z2
  generalize w1.heap.size = gb at *
  go_wp2_with (refine wpList_load_blk rfl _ _ rfl _ rfl _ _ HB2.out _ Try.underlying24 rfl (Try.rxFits HL.out) ?_)
  refine (HPut.out _).mono ?_; rintro e w3 ⟨rfl, hb3⟩
  have HB3 := Lib.hid (HB2.out.ext hb3)
  have HC3 := Lib.hid (Hb2.out.ext hb3)
  have E3 := Lib.hid (bt E2.out hb3)
  have Z3 := Lib.hid (show w.heap.size < gb ∧ gb < w3.heap.size by have := Hz.out; have := hb3.size; omega)
  clear hb3 HB2 Hb2 E2 Hg1 Hg2 Hb1 Hz
  go_wp2_with (refine wpList_alloc_row rfl _ rfl _ Try.blockZero ?_)
  apply Stop.go; intro w4 Hg4 Hb4
  go_wp2_with (refine wpList_store_arr rfl _ _ _ rfl _ _ rfl rfl _ _ Hb4.out (Try.blockFits HXL.out) (by rw [bcells_size, bcells_size, HXL.out, zeros_len]) (oneCell_bcells _) ?_)
  apply Stop.go; intro w5 Ho5 Hb5
  have HB5 := Lib.hid ((HB3.out.ext Hg4.out.1).only Ho5.out (by have := Z3.out; omega))
  have HC5 := Lib.hid ((HC3.out.ext Hg4.out.1).only Ho5.out (by have := Z3.out; omega))
  have E5 := Lib.hid (bonly (bt E3.out Hg4.out.1) Ho5.out (by have := Z3.out; omega))
  have HG := Lib.hid (show w.heap.size < gb ∧ gb < w3.heap.size by have := Z3.out; omega)
  generalize w3.heap.size = g5 at *
  clear HB3 HC3 E3 Hg4 Hb4 Ho5 Z3
  go_wp2_with (refine wpList_load_blk rfl _ _ rfl _ rfl _ _ HB5.out _ Try.underlying24 rfl (Try.rxFits HL.out) ?_)
  refine (HPr.out _).mono ?_; rintro e w6 ⟨A6, n6, c6, rfl, hl6, hc6, hm6, hr6, hb6⟩
  have HB6 := Lib.hid (HB5.out.ext hb6)
  have HC6 := Lib.hid (HC5.out.ext hb6)
  have HX6 := Lib.hid (Hb5.out.ext hb6)
  have E6 := Lib.hid (bt E5.out hb6)
  have HL6 := Lib.hid hl6
  have HR6 := Lib.hid hr6
  have HM6 := Lib.hid (Nat.le_trans hc6 hm6)
  clear hl6 hc6 hm6 hr6 hb6 HB5 HC5 Hb5 E5
  have hmx : 256 ≤ maxLen := by unfold maxLen; omega
  have Hmx := Lib.hid hmx
  clear hmx
  go_upto_region 3 with fail
  go_cut [55] from 23 to 55 (fun v wx => v = .bool false ∧ Below w6.heap.size w6 wx)
  case first =>
    cases m
    · obtain rfl : X = zeros 256 := HU.out
      refine WH.start (S := (fun w' : World => Blk w' w.heap.size 24 (icells (d :: t)) ∧ Blk w' g5 26 (bcells (zeros 256)))) [false, false, false, false, false, false, false, false, false, false, false, false, false, false, false, false, false, false, false, false, false, false, false, false, false, false, false, false, false, false, false, false, false] 33 rfl rfl (by kernel_rfl) (⟨HB6.out.ext (bdrew w6 1), HX6.out.ext (bdrew w6 1)⟩) (fun hSn => ?_); obtain ⟨wS, hwS⟩ : ∃ x, (w6).drew = x := ⟨_, rfl⟩; have HE := Lib.hid (show Below (w6).heap.size (w6) wS from hwS ▸ bdrew w6 1); rw [hwS] at hSn ⊢; clear hwS
      refine WH.tv 0 rfl (fun w' hSw => exec_load_blk _ _ rfl _ rfl _ _ (hSw.1) _ (Try.underlying24) rfl (Try.rxFits HL.out)) ?_; simp only [setL]
      refine WH.tv 2 rfl (fun w' hSw => exec_load_blk _ _ rfl _ rfl _ _ (hSw.1) _ (Try.underlying24) rfl (Try.rxFits HL.out)) ?_; simp only [setL]
      refine WH.only 1 _ rfl (by kernel_rfl) rfl (fun K hK => ?_)
      go_simp; refine (HR1.out _).mono ?_; rintro e wa ⟨rfl, hba⟩; go_simp
      have HE := Lib.hid (bt HE.out hba)
      have hSn := And.intro (hSn.1.ext hba) (hSn.2.ext hba); refine hK _ _ hSn ?_; clear hK; clear K; simp only [setL]
      clear hba
      refine WH.only 3 _ rfl (by kernel_rfl) rfl (fun K hK => ?_)
      go_simp; refine (HR2.out _).mono ?_; rintro e wa2 ⟨rfl, hba⟩; go_simp
      have HE := Lib.hid (bt HE.out hba)
      have hSn := And.intro (hSn.1.ext hba) (hSn.2.ext hba); refine hK _ _ hSn ?_; clear hK; clear K; simp only [setL]
      clear hba
      refine WH.tk 4 ?_; simp only [setL]
      refine WH.tk 5 ?_; simp only [setL]
      refine WH.tk 6 ?_; simp only [setL]
      refine WH.tk 7 ?_; simp only [setL]
      refine WH.tk 8 ?_; simp only [setL]
      refine WH.tk 9 ?_; simp only [setL]
      refine WH.tk 10 ?_; simp only [setL]
      refine WH.tk 11 ?_; simp only [setL]
      refine WH.tk 12 ?_; simp only [setL]
      refine WH.tk 13 ?_; simp only [setL]
      refine WH.skip 14 _ rfl (by kernel_rfl) (fun _ _ _ h => h) rfl (by assumption) ?_; simp only [setL]
      refine WH.skip 15 _ rfl (by kernel_rfl) (fun _ _ _ h => h) rfl (by assumption) ?_; simp only [setL]
      refine WH.onlySkip 16 _ rfl (by kernel_rfl) rfl (by assumption) ?_; simp only [setL]
      refine WH.skip 17 _ rfl (by kernel_rfl) (fun _ _ _ h => h) rfl (by assumption) ?_; simp only [setL]
      refine WH.tk 18 ?_; simp only [setL]
      refine WH.tk 19 ?_; simp only [setL]
      refine WH.tk 20 ?_; simp only [setL]
      refine WH.tk 21 ?_; simp only [setL]
      refine WH.tk 22 ?_; simp only [setL]
      refine WH.tk 23 ?_; simp only [setL]
      refine WH.tk 24 ?_; simp only [setL]
      refine WH.tk 25 ?_; simp only [setL]
      refine WH.tk 26 ?_; simp only [setL]
      refine WH.tv 27 rfl (fun w' hSw => run_load_arr _ _ rfl _ rfl _ _ (hSw.2) _ _ (Try.underlying26) (Try.blockFits HzL.out)) ?_; simp only [setL]
      refine WH.tv 28 rfl (fun w' hSw => exec_build_zero _ rfl _ Try.blockZero _ _ Try.underlying26 Try.byteSize) ?_; simp only [setL]
      refine WH.tv 29 rfl (fun w' hSw => exec_neq_arr _ _ _ _ rfl (by kernel_rfl) _ _ Try.underlying26 Try.underlying5 Try.byteSize _ _ rfl rfl HzL.out HzL.out false (by simp)) ?_; simp only [setL]
      refine WH.tk 30 ?_; simp only [setL]
      refine WH.tk 31 ?_; simp only [setL]
      refine WH.tk 32 ?_; simp only [setL]
      refine WH.done (by kernel_rfl) ?_
      go_wp2_with fail
      go_meet
      exact ⟨rfl, HE.out⟩
    · obtain rfl : X = putX d t := HU.out
      obtain rfl : Y = putX d t := HV.out
      have hn6 : n6 = 256 := by rw [← HL6.out, HXL.out]
      subst hn6
      rw [show okArg true = 0 from rfl]
      refine WH.start (S := (fun w' : World => Blk w' w.heap.size 24 (icells (d :: t)) ∧ Blk w' g5 26 (bcells (putX d t)))) [false, false, false, false, false, false, false, false, false, false, false, false, false, false, false, false, false, false, false, false, false, false, false, false, false, false, false, false, false, false, false, false, false] 33 rfl rfl (by kernel_rfl) (⟨HB6.out.ext (bdrew w6 1), HX6.out.ext (bdrew w6 1)⟩) (fun hSn => ?_); obtain ⟨wS, hwS⟩ : ∃ x, (w6).drew = x := ⟨_, rfl⟩; have HE := Lib.hid (show Below (w6).heap.size (w6) wS from hwS ▸ bdrew w6 1); rw [hwS] at hSn ⊢; clear hwS
      refine WH.tv 0 rfl (fun w' hSw => exec_load_blk _ _ rfl _ rfl _ _ (hSw.1) _ (Try.underlying24) rfl (Try.rxFits HL.out)) ?_; simp only [setL]
      refine WH.tv 2 rfl (fun w' hSw => exec_load_blk _ _ rfl _ rfl _ _ (hSw.1) _ (Try.underlying24) rfl (Try.rxFits HL.out)) ?_; simp only [setL]
      refine WH.only 1 _ rfl (by kernel_rfl) rfl (fun K hK => ?_)
      go_simp; refine (HR1.out _).mono ?_; rintro e wa ⟨rfl, hba⟩; go_simp
      have HE := Lib.hid (bt HE.out hba)
      have hSn := And.intro (hSn.1.ext hba) (hSn.2.ext hba); refine hK _ _ hSn ?_; clear hK; clear K; simp only [setL]
      clear hba
      refine WH.only 3 _ rfl (by kernel_rfl) rfl (fun K hK => ?_)
      go_simp; refine (HR2.out _).mono ?_; rintro e wa2 ⟨rfl, hba⟩; go_simp
      have HE := Lib.hid (bt HE.out hba)
      have hSn := And.intro (hSn.1.ext hba) (hSn.2.ext hba); refine hK _ _ hSn ?_; clear hK; clear K; simp only [setL]
      clear hba
      refine WH.tk 4 ?_; simp only [setL]
      refine WH.tk 5 ?_; simp only [setL]
      refine WH.tk 6 ?_; simp only [setL]
      refine WH.tk 7 ?_; simp only [setL]
      refine WH.tk 8 ?_; simp only [setL]
      refine WH.tk 9 ?_; simp only [setL]
      refine WH.tk 10 ?_; simp only [setL]
      refine WH.tk 11 ?_; simp only [setL]
      refine WH.tk 12 ?_; simp only [setL]
      refine WH.tk 13 ?_; simp only [setL]
      refine WH.tv 14 rfl (fun w' hSw => exec_slice_all _ _ rfl 256 _ Try.underlying26 Try.byteSize g5 rfl (by decide)) ?_; simp only [setL]
      refine WH.tk 15 ?_; simp only [setL]
      refine WH.only 16 _ rfl (by kernel_rfl) rfl (fun K hK => ?_)
      go_simp; refine (same_any _ _ _ (putX d t) HXL.out _ _ _ (putX d t) HXL.out Hmx.out Hmx.out _ (RB.of_blk0 hSn.2) (HR6.out.below HE.out)).mono ?_; rintro e wa3 ⟨rfl, k6, rfl⟩; go_simp
      have HE := Lib.hid (bt HE.out (bdrew wa2 k6))
      have hSn := And.intro (hSn.1.ext (bdrew wa2 k6)) (hSn.2.ext (bdrew wa2 k6)); refine hK _ _ hSn ?_; clear hK; clear K; simp only [setL]
      refine WH.tk 17 ?_; simp only [setL]
      refine WH.tk 18 ?_; simp only [setL]
      refine WH.tk 19 ?_; simp only [setL]
      refine WH.tk 20 ?_; simp only [setL]
      refine WH.tk 21 ?_; simp only [setL]
      refine WH.tk 22 ?_; simp only [setL]
      refine WH.tk 23 ?_; simp only [setL]
      refine WH.skip 24 _ rfl (by kernel_rfl) (fun _ _ _ h => h) rfl (by assumption) ?_; simp only [setL]
      refine WH.skip 25 _ rfl (by kernel_rfl) (fun _ _ _ h => h) rfl (by assumption) ?_; simp only [setL]
      refine WH.skip 26 _ rfl (by kernel_rfl) (fun _ _ _ h => h) rfl (by assumption) ?_; simp only [setL]
      refine WH.skip 27 _ rfl (by kernel_rfl) (fun _ _ _ h => h) rfl (by assumption) ?_; simp only [setL]
      refine WH.skip 28 _ rfl (by kernel_rfl) (fun _ _ _ h => h) rfl (by assumption) ?_; simp only [setL]
      refine WH.skip 29 _ rfl (by kernel_rfl) (fun _ _ _ h => h) rfl (by assumption) ?_; simp only [setL]
      refine WH.skip 30 _ rfl (by kernel_rfl) (fun _ _ _ h => h) rfl (by assumption) ?_; simp only [setL]
      refine WH.tk 31 ?_; simp only [setL]
      refine WH.tk 32 ?_; simp only [setL]
      refine WH.done (by kernel_rfl) ?_
      go_wp2_with fail
      go_meet
      exact ⟨rfl, HE.out⟩
  case rest =>
  obtain ⟨rfl, hbx⟩ := hcut
  have HBx := Lib.hid (HB6.out.ext hbx)
  have HCx := Lib.hid (HC6.out.ext hbx)
  have Ex := Lib.hid (bt E6.out hbx)
  clear hbx HB6 HC6 HX6 HR6 HL6 HM6 E6 HPut HPr HR1 HR2 HU HV
  go_wp2_with (refine wpList_load_arr rfl _ _ rfl _ rfl _ _ HCx.out _ _ Try.underlying26 (Try.blockFits HbL.out) ?_)
  refine (HG1.out _).mono ?_; rintro e w7 ⟨rfl, hb7⟩
  have HC7 := Lib.hid (HCx.out.ext hb7)
  have E7 := Lib.hid (bt Ex.out hb7)
  have Z7 := Lib.hid (show gb < w7.heap.size from HC7.out.lt)
  clear hb7 HCx HBx Ex
  go_wp2_with (refine wpList_alloc_row rfl _ rfl _ Try.ixZero ?_)
  apply Stop.go; intro w8 Hg8 Hb8
  go_wp2_with (refine wpList_store_arr rfl _ _ _ rfl _ _ rfl rfl _ _ Hb8.out (Try.ixFits HGL.out) (icells_same HzT.out HGL.out) (oneCell_icells _) ?_)
  apply Stop.go; intro w9 Ho9 Hb9
  have HC9 := Lib.hid ((HC7.out.ext Hg8.out.1).only Ho9.out (by have := Z7.out; omega))
  have E9 := Lib.hid (bonly (bt E7.out Hg8.out.1) Ho9.out (by have := Z7.out; have := HG.out; omega))
  generalize w7.heap.size = g9 at *
  have Z9 := Lib.hid (show g9 < w9.heap.size from Hb9.out.lt)
  clear Hg8 Hb8 Ho9 HC7 E7
  go_wp2_with (refine wpList_slice_arr_all rfl _ _ rfl _ _ Try.underlying25 Try.byteSize _ rfl (by omega) ?_)
  refine (HG2.out _ _ _ (RB.of_blk0 HC9.out)).mono ?_; rintro e wa ⟨rfl, hba⟩
  have HXa := Lib.hid (Hb9.out.ext hba)
  have Ea := Lib.hid (bt E9.out hba)
  have Za := Lib.hid (show g9 < wa.heap.size by have := Z9.out; have := hba.size; omega)
  clear hba HC9 Hb9 E9
  go_wp2_with (refine wpList_alloc_row rfl _ rfl _ Try.rxZero ?_)
  apply Stop.go; intro wb Hgb Hbb
  go_wp2_with (refine wpList_store_arr rfl _ _ _ rfl _ _ rfl rfl _ _ Hbb.out (Try.rxFits HGL.out) (icells_same HzT.out HGL.out) (oneCell_icells _) ?_)
  apply Stop.go; intro wc Hoc Hbc
  have HXc := Lib.hid ((HXa.out.ext Hgb.out.1).only Hoc.out (by have := Za.out; omega))
  have Ec := Lib.hid (bonly (bt Ea.out Hgb.out.1) Hoc.out (by have := Za.out; have := Z7.out; have := HG.out; omega))
  generalize wa.heap.size = ga at *
  clear Hgb Hbb Hoc HXa Ea
  have e1 : decide (formE c = 0) = c := by cases c <;> rfl
  go_wp2_with (first | refine wpList_load_blk rfl _ _ rfl _ rfl _ _ HXc.out _ Try.underlying30 rfl (Try.ixFits HGL.out) ?_ | refine wpList_load_blk rfl _ _ rfl _ rfl _ _ Hbc.out _ Try.underlying24 rfl (Try.rxFits HGL.out) ?_ | refine wpList_eql_stop rfl _ _ _ _ _ rfl (by kernel_rfl) (icells (GD :: GT)) (icells (GD :: GT)) rfl rfl _ (HEQ.out _) ?_)
  apply Stop.go
  cases c
  · rw [show formE false = 14 from rfl]
    go_wp2_with fail
    refine (works19_any _).mono ?_; rintro e wd ⟨rfl, hbd⟩
    go_wp2_with fail
    go_ret
    exact ⟨rfl, bt Ec.out hbd⟩
  · rw [show formE true = 0 from rfl]
    go_wp2_with fail
    refine (works19_any _).mono ?_; rintro e wd ⟨rfl, hbd⟩
    go_wp2_with fail
    go_ret
    exact ⟨rfl, bt Ec.out hbd⟩

end Go.Proofs.Ythcbjihdbkpkeaa
