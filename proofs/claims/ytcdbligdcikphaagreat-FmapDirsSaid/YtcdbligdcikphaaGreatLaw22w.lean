/-
  Layer 22: works.
-/
import Derived.Test.YtcdbligdcikphaaGreatFmpC
import Derived.Test.YtcdbligdcikphaaGreatVwC
import Derived.Test.YtcdbligdcikphaaGreatVw2
import Derived.Test.YtcdbligdcikphaaGreatSup2
import Derived.Test.YtcdbligdcikphaaGreatPts2
import Derived.Test.YtcdbligdcikphaaGreatInts
namespace Go.Proofs.YtcdbligdcikphaaGreat
open Go.RowKit
set_option maxRecDepth 10000

theorem rc_lits22 {w : World} {t : TypeId} (l : List Int) : RC (w.alloc (.cells (ivals l).toArray t)) (some ⟨w.heap.size, 0, none⟩) (ivals l) := RC.of_blk (Blk.new w t _) _ (by rw [List.toList_toArray, List.take_length])
def lay22 : Lay14 := ⟨16, 8, 0⟩
def ino22 : List Int := [1, 1, 256, 0, 9, 0, 0, 0, 0, 0, 10]
/-- The page's example: a device with nothing but a block that tells another. -/
def exL : List (List UInt8) := ((List.replicate 16 (zeros 256)).set 0 lay22.blk).set 10 (mkB [11])
theorem exL_len : exL.length = 16 := rfl
theorem exL_bks : Bks exL := ((Bks.same 16 (zeros_len 256)).set 0 (Lay14.blk_len _)).set 10 (mkB_len _)
theorem ex_lay : layW exL = some lay22 := by
  have h1 : get14 (bkV exL 0) = some lay22 := by
    have e : bkV exL 0 = lay22.blk := rfl
    rw [e]
    unfold Lay14.blk
    rw [if_pos (by decide)]
    exact get_put14 (by decide) (by decide)
  exact layW_some (by rw [exL_len]; omega) h1 (by rw [exL_len]; rfl)
theorem ino22_in : In64 ino22 := by unfold In64; decide
theorem ex_some : someF (allF lay22 (bkV exL) ino22) = [9, 11] := by decide +kernel
theorem ex_own : ownF lay22 (bkV exL) ino22 = [9, 10, 11] := by decide +kernel
theorem ex_bey : beyF lay22 (bkV exL) ino22 134 = [6] := by decide +kernel
theorem Tryz.inoBuilt22 : Tryz.prog.built 39 [(0, .int .i64 1), (1, .int .i64 1), (5, .int .i64 10), (2, .int .i64 256)] = some (icells [1, 1, 256, 0, 0, 0, 0, 0, 0, 0, 10]) := by kernel_rfl
section
variable {P : Program} {ops : Array Oper} {rest : List Oper} {o : Oper} {a : Act} {w : World} {Q : Exit → Act → World → Prop}
theorem wpList_build_four22 (hgd : Region.wanted o (yielded ops a.tmps) = true) (t : TypeId) (i j k m : Nat) (x y z u : Operand) (ho : o.op = .build t #[(i, x), (j, y), (k, z), (m, u)]) (vx vy vz vu : Value) (hx : a.eval x = vx) (hy : a.eval y = vy) (hz : a.eval z = vz) (hu : a.eval u = vu) (cs : Array Value) (hb : P.built t [(i, vx), (j, vy), (k, vz), (m, vu)] = some cs)
    (h : wpList P ops Q rest (a.put o.dst (.agg cs)) w) : wpList P ops Q (o :: rest) a w := by
  refine wpList_wanted hgd fun K hK => ?_
  have hr : (Instr.build t #[(i, vx), (j, vy), (k, vz), (m, vu)]).run P w = .ok (.agg cs) w := run_build w t #[(i, vx), (j, vy), (k, vz), (m, vu)] cs hb
  unfold Oper.wp execOp
  simp only [ho, Sem.run_bind, List.map_toArray, List.map_cons, List.map_nil, hx, hy, hz, hu, hr, Result.andThen_ok]
  exact hK _ _ h
end
set_option maxHeartbeats 3200000 in
theorem works22_any (C : FC) (w : World) : Calls Tryz.prog 4 #[] w fun e w' => e = .returned (.bool true) ∧ Below w.heap.size w w' := by
  have HTL := Lib.hid (fun no => bkV_len exL_bks no)
  obtain ⟨L0, HL0⟩ : ∃ L, Hid (List.replicate 16 (zeros 256) = L) := ⟨_, Lib.hid rfl⟩
  have HB0 := Lib.hid (show Bks L0 by rw [← HL0.out]; exact Bks.same 16 (zeros_len 256))
  have HN0 := Lib.hid (show L0.length = 16 by rw [← HL0.out]; rfl)
  have HPL := Lib.hid (Lay14.blk_len lay22)
  have HCL := Lib.hid (mkB_len [11])
  have HS := Lib.hid (show (L0.set 0 lay22.blk).set 10 (mkB [11]) = exL by rw [← HL0.out]; rfl)
  have HP1 := Lib.hid (fun w => put14_any lay22 (by decide) w)
  have HP3 := Lib.hid (fun A c w h => qmake_any A 1 c [11] rfl (by unfold maxLen; omega) w h)
  generalize lay22.blk = P1 at *
  generalize mkB [11] = P3 at *
  obtain ⟨e1, He1⟩ : ∃ e, Hid (okArg lay22.may = e) := ⟨_, Lib.hid rfl⟩
  rw [He1.out] at HP1
  obtain ⟨e3, He3⟩ : ∃ e, Hid (mkE [11] = e) := ⟨_, Lib.hid rfl⟩
  rw [He3.out] at HP3
  have HC1 := Lib.hid (fun (A : Option Addr) (c : Nat) (w : World) (h : RK w A exL) => show Calls Tryz.prog 5 #[.slice A 16 c] w fun e w' => ∃ f, e = .returned (.tuple #[.agg (vval lay22 f), .int .i64 0]) ∧ Below w.heap.size w w' ∧ FV w' lay22 f (bkV exL) by
    have := vof_any A 16 c exL exL_len exL_bks (by omega) w h
    rw [layV_some ex_lay, ex_lay] at this
    exact this)
  have HCB := Lib.hid (fun f w h => C.blocks lay22 f (bkV exL) HTL.out ino22 rfl ino22_in w h)
  have HCO := Lib.hid (fun f w h => C.owns lay22 f (bkV exL) HTL.out ino22 rfl ino22_in w h)
  have HCY := Lib.hid (fun f w h => C.beyond lay22 f (bkV exL) HTL.out ino22 rfl ino22_in w h)
  rw [ex_some] at HCB
  rw [ex_own] at HCO
  rw [ex_bey] at HCY
  obtain ⟨X, HX⟩ : ∃ X, Hid (ino22 = X) := ⟨_, Lib.hid rfl⟩
  have HXL := Lib.hid (show X.length = 11 by rw [← HX.out]; rfl)
  rw [HX.out] at HCB HCO HCY
  have HXs : Hid ([1, 1, 256, 0, 0, 0, 0, 0, 0, 0, 10].set 4 9 = X) := Lib.hid HX.out
  obtain ⟨X0, HX0⟩ : ∃ X0 : List Int, Hid ([1, 1, 256, 0, 0, 0, 0, 0, 0, 0, 10] = X0) := ⟨_, Lib.hid rfl⟩
  have HBt := Lib.hid Tryz.inoBuilt22
  rw [HX0.out] at HXs HBt
  have H0L := Lib.hid (show X0.length = 11 by rw [← HX0.out]; rfl)
  have HfL : Hid (freeI.length = 11) := Lib.hid rfl
  generalize hT : bkV exL = T at *
  clear hT HX HX0 HTL
  go_enter Tryz.func4, Tryz.ntmps4
  go_wp2_with (refine wpList_make_bkL rfl _ _ _ _ rfl Tryz.underlying33 Tryz.blockInfo _ _ _ _ 16 rfl rfl rfl rfl (by omega) L0 HL0.out ?_)
  apply Stop.go; intro w1 Hg1 Hb1
  have E1 := Lib.hid Hg1.out.1
  clear Hg1 HL0
  go_wp2_with fail
  refine (HP1.out _).mono ?_; rintro e w2 ⟨rfl, hb2⟩
  have Hb2 := Lib.hid (Hb1.out.ext hb2)
  have E2 := Lib.hid (bt E1.out hb2)
  clear hb2 Hb1 E1 HP1
  go_wp2_with (refine wpList_store_bk rfl _ _ _ rfl Tryz.blockSize w.heap.size 0 rfl P1 rfl HPL.out _ L0 HB0.out (by rw [HN0.out]; omega) Hb2.out ?_)
  apply Stop.go; intro w3 Ho3 Hb3
  have E3 := Lib.hid (bonly E2.out Ho3.out (Nat.le_refl _))
  have HB1 := Lib.hid (HB0.out.set 0 HPL.out)
  have HN1 := Lib.hid (show (L0.set 0 P1).length = 16 by rw [List.length_set, HN0.out])
  generalize L0.set 0 P1 = L1 at *
  clear Ho3 Hb2 E2 HB0 HN0
  go_wp2_with fail
  have hr4 : RC (w3.alloc (.cells #[.int .i64 11] 3)) (some ⟨w3.heap.size, 0, none⟩) (ivals [11]) := rc_lits22 [11]
  have hbn : Below w3.heap.size w3 (w3.alloc (.cells #[.int .i64 11] 3)) := (Below.refl _ _).alloc (Nat.le_refl _) _
  refine (HP3.out _ 1 _ hr4).mono ?_; rintro e w4 ⟨rfl, hb4⟩
  have hbn := bt hbn hb4
  have Hb4 := Lib.hid (Hb3.out.ext hbn)
  have E4 := Lib.hid (bt E3.out hbn)
  clear hb4 hr4 hbn Hb3 E3 HP3
  go_wp2_with (refine wpList_store_bk rfl _ _ _ rfl Tryz.blockSize w.heap.size 10 rfl P3 rfl HCL.out _ L1 HB1.out (by rw [HN1.out]; omega) Hb4.out ?_)
  apply Stop.go; intro w5 Ho5 Hb5
  have E5 := Lib.hid (bonly E4.out Ho5.out (Nat.le_refl _))
  have HB2 := Lib.hid (HB1.out.set 10 HCL.out)
  rw [HS.out] at Hb5 HB2
  have HR5 := Lib.hid (RK.of_blk HB2.out Hb5.out)
  clear Ho5 Hb4 E4 HB1 HN1 HS Hb5 HB2
  go_wp2_with fail
  refine (HC1.out _ 16 _ HR5.out).mono ?_; rintro e w6 ⟨f, rfl, hb6, hf6⟩
  have HF6 := Lib.hid hf6
  have E6 := Lib.hid (bt E5.out hb6)
  have HCB := Lib.hid (fun w h => HCB.out f w h)
  have HCO := Lib.hid (fun w h => HCO.out f w h)
  have HCY := Lib.hid (fun w h => HCY.out f w h)
  clear hb6 hf6 HR5 E5 HC1
  go_wp2_with (refine wpList_alloc_row rfl _ rfl _ Tryz.viewZero ?_)
  apply Stop.go; intro w7 Hg7 Hb7
  go_wp2_with (refine wpList_store_arr rfl _ _ _ rfl _ (vval lay22 f) rfl rfl _ _ Hb7.out Tryz.viewSize rfl (FV.one HF6.out) ?_)
  apply Stop.go; intro w8 Ho8 Hb8
  have D := Lib.hid (bonly Hg7.out.1 Ho8.out (Nat.le_refl _))
  have HF8 := Lib.hid (HF6.out.below D.out)
  have E8 := Lib.hid (bt E6.out D.out)
  clear Hg7 Hb7 Ho8 D HF6 E6
  go_wp2_with (first | refine wpList_build_four22 rfl _ _ _ _ _ _ _ _ _ rfl _ _ _ _ rfl rfl rfl rfl _ HBt.out ?_ | refine wpList_alloc_row rfl _ rfl _ Tryz.inoZero ?_)
  apply Stop.go; intro w9 Hg9 Hb9
  go_wp2_with (refine wpList_store_arr rfl _ _ _ rfl _ _ rfl rfl _ _ Hb9.out (Tryz.inoFits H0L.out) (by simp only [icells_size, H0L.out, HfL.out]) (oneCell_icells _) ?_)
  apply Stop.go; intro wa Hoa Hba
  have D := Lib.hid (bonly Hg9.out.1 Hoa.out (Nat.le_refl _))
  clear Hg9 Hb9 Hoa
  go_wp2_with (refine wpList_store_cell rfl _ _ _ rfl Tryz.int1Size w8.heap.size 4 rfl (.int .i64 9) rfl rfl rfl _ _ Hba.out (by rw [icells_size, H0L.out]; omega) ?_)
  apply Stop.go; intro wb Hob Hbb
  have hXb := Hbb.out
  rw [icells_set, HXs.out] at hXb
  have HIb := Lib.hid hXb
  have D := Lib.hid (bonly D.out Hob.out (Nat.le_refl _))
  have HFb := Lib.hid (HF8.out.below D.out)
  have HVb := Lib.hid (Hb8.out.ext D.out)
  have Eb := Lib.hid (bt E8.out D.out)
  clear hXb Hbb Hob Hba D HF8 Hb8 E8 HBt HXs H0L
  generalize w8.heap.size = gi at *
  generalize w6.heap.size = gv at *
  go_wp2_with (first | refine wpList_load_blk rfl _ _ rfl _ rfl _ _ HVb.out _ Tryz.underlying29 rfl Tryz.viewSize ?_ | refine wpList_load_blk rfl _ _ rfl _ rfl _ _ HIb.out _ Tryz.underlying39 rfl (Tryz.inoFits HXL.out) ?_)
  refine (HCB.out _ HFb.out).mono ?_; rintro e wc ⟨vc, rfl, hvc, hbc⟩
  obtain ⟨Ac, cc, rfl, hcc, hmc, hrc⟩ := hvc.ints
  have HFc := Lib.hid (HFb.out.below hbc)
  have HVc := Lib.hid (HVb.out.ext hbc)
  have HIc := Lib.hid (HIb.out.ext hbc)
  have Ec := Lib.hid (bt Eb.out hbc)
  have HRc := Lib.hid hrc
  clear hvc hcc hmc hrc hbc HFb HVb HIb Eb
  go_wp2_with fail
  have hrx : RC (wc.alloc (.cells #[.int .i64 9, .int .i64 11] 3)) (some ⟨wc.heap.size, 0, none⟩) (ivals [9, 11]) := rc_lits22 [9, 11]
  have hbx : Below wc.heap.size wc (wc.alloc (.cells #[.int .i64 9, .int .i64 11] 3)) := (Below.refl _ _).alloc (Nat.le_refl _) _
  refine (ints_any Ac 2 cc [9, 11] rfl _ 2 2 [9, 11] rfl (by unfold maxLen; omega) (by unfold maxLen; omega) _ (HRc.out.below hbx) hrx).mono ?_; rintro e wd ⟨rfl, md, rfl⟩
  rw [show decide (([9, 11] : List Int) = [9, 11]) = true from rfl]
  have hby := bt hbx (bdrew _ md)
  obtain ⟨wd, hwd⟩ : ∃ x, (wc.alloc (.cells #[.int .i64 9, .int .i64 11] 3)).drewN md = x := ⟨_, rfl⟩
  rw [hwd] at hby ⊢
  have HFd := Lib.hid (HFc.out.below hby)
  have HVd := Lib.hid (HVc.out.ext hby)
  have HId := Lib.hid (HIc.out.ext hby)
  have Ed := Lib.hid (bt Ec.out hby)
  clear hrx hbx hby hwd HRc HFc HVc HIc Ec
  go_wp2_with (first | refine wpList_load_blk rfl _ _ rfl _ rfl _ _ HVd.out _ Tryz.underlying29 rfl Tryz.viewSize ?_ | refine wpList_load_blk rfl _ _ rfl _ rfl _ _ HId.out _ Tryz.underlying39 rfl (Tryz.inoFits HXL.out) ?_)
  refine (HCO.out _ HFd.out).mono ?_; rintro e we ⟨ve, rfl, hve, hbe⟩
  obtain ⟨Ae, ce, rfl, hce, hme, hre⟩ := hve.ints
  have HFe := Lib.hid (HFd.out.below hbe)
  have HVe := Lib.hid (HVd.out.ext hbe)
  have HIe := Lib.hid (HId.out.ext hbe)
  have Ee := Lib.hid (bt Ed.out hbe)
  have HRe := Lib.hid hre
  clear hve hce hme hre hbe HFd HVd HId Ed
  go_wp2_with fail
  have hrx : RC (we.alloc (.cells #[.int .i64 9, .int .i64 10, .int .i64 11] 3)) (some ⟨we.heap.size, 0, none⟩) (ivals [9, 10, 11]) := rc_lits22 [9, 10, 11]
  have hbx : Below we.heap.size we (we.alloc (.cells #[.int .i64 9, .int .i64 10, .int .i64 11] 3)) := (Below.refl _ _).alloc (Nat.le_refl _) _
  refine (ints_any Ae 3 ce [9, 10, 11] rfl _ 3 3 [9, 10, 11] rfl (by unfold maxLen; omega) (by unfold maxLen; omega) _ (HRe.out.below hbx) hrx).mono ?_; rintro e wh ⟨rfl, mh, rfl⟩
  rw [show decide (([9, 10, 11] : List Int) = [9, 10, 11]) = true from rfl]
  have hby := bt hbx (bdrew _ mh)
  obtain ⟨wh, hwh⟩ : ∃ x, (we.alloc (.cells #[.int .i64 9, .int .i64 10, .int .i64 11] 3)).drewN mh = x := ⟨_, rfl⟩
  rw [hwh] at hby ⊢
  have HFh := Lib.hid (HFe.out.below hby)
  have HVh := Lib.hid (HVe.out.ext hby)
  have HIh := Lib.hid (HIe.out.ext hby)
  have Eh := Lib.hid (bt Ee.out hby)
  clear hrx hbx hby hwh HRe HFe HVe HIe Ee
  go_wp2_with (first | refine wpList_load_blk rfl _ _ rfl _ rfl _ _ HVh.out _ Tryz.underlying29 rfl Tryz.viewSize ?_ | refine wpList_load_blk rfl _ _ rfl _ rfl _ _ HIh.out _ Tryz.underlying39 rfl (Tryz.inoFits HXL.out) ?_)
  refine (HCY.out _ HFh.out).mono ?_; rintro e wi ⟨vi, rfl, hvi, hbi⟩
  obtain ⟨Ai, ci, rfl, hci, hmi, hri⟩ := hvi.ints
  have HFi := Lib.hid (HFh.out.below hbi)
  have HVi := Lib.hid (HVh.out.ext hbi)
  have HIi := Lib.hid (HIh.out.ext hbi)
  have Ei := Lib.hid (bt Eh.out hbi)
  have HRi := Lib.hid hri
  clear hvi hci hmi hri hbi HFh HVh HIh Eh
  go_wp2_with fail
  have hrx : RC (wi.alloc (.cells #[.int .i64 6] 3)) (some ⟨wi.heap.size, 0, none⟩) (ivals [6]) := rc_lits22 [6]
  have hbx : Below wi.heap.size wi (wi.alloc (.cells #[.int .i64 6] 3)) := (Below.refl _ _).alloc (Nat.le_refl _) _
  refine (ints_any Ai 1 ci [6] rfl _ 1 1 [6] rfl (by unfold maxLen; omega) (by unfold maxLen; omega) _ (HRi.out.below hbx) hrx).mono ?_; rintro e wj ⟨rfl, mj, rfl⟩
  rw [show decide (([6] : List Int) = [6]) = true from rfl]
  have hby := bt hbx (bdrew _ mj)
  obtain ⟨wj, hwj⟩ : ∃ x, (wi.alloc (.cells #[.int .i64 6] 3)).drewN mj = x := ⟨_, rfl⟩
  rw [hwj] at hby ⊢
  have HFj := Lib.hid (HFi.out.below hby)
  have HVj := Lib.hid (HVi.out.ext hby)
  have HIj := Lib.hid (HIi.out.ext hby)
  have Ej := Lib.hid (bt Ei.out hby)
  clear hrx hbx hby hwj HRi HFi HVi HIi Ei
  go_wp2_with fail
  go_ret
  exact ⟨rfl, Ej.out⟩

end Go.Proofs.YtcdbligdcikphaaGreat
