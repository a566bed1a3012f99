/-
  Layer 25: small, works.
-/
import Derived.Test.YtkakihbfhmiabaaGreatGrAP
import Derived.Test.YtkakihbfhmiabaaGreatLaw24w
import Derived.Test.YtkakihbfhmiabaaGreatTre4
import Derived.Test.YtkakihbfhmiabaaGreatTre8
import Derived.Test.YtkakihbfhmiabaaGreatGrAM
import Derived.Test.YtkakihbfhmiabaaGreatGrAR
import Derived.Test.YtkakihbfhmiabaaGreatGrAZ
namespace Go.Proofs.YtkakihbfhmiabaaGreat
open Go.RowKit
set_option maxRecDepth 10000

theorem rc_one {w : World} {g : Nat} {t : TypeId} {s : ByteArray} (h : Blk w g t #[.string s]) : RC w (some ⟨g, 0, none⟩) (svals [s]) := fun k hk => by
  have h0 : k = 0 := by simpa [svals] using hk
  subst h0
  exact ⟨_, rfl, by rw [addr_add0, h.cell]; rfl⟩
theorem Tryz.inoBuilt25 : Tryz.prog.built 59 [(0, .int .i64 2), (1, .int .i64 1), (3, .int .i64 1)] = some (icells [2, 1, 0, 1, 0, 0, 0, 0, 0, 0, 0]) := by kernel_rfl
theorem Tryz.filBuilt25 : Tryz.prog.built 59 [(0, .int .i64 1), (1, .int .i64 1), (2, .int .i64 2)] = some (icells fil25) := by kernel_rfl
theorem Tryz.intSize25 : (Tryz.prog.info? 3).map (·.size) = some 1 := by kernel_rfl
set_option maxHeartbeats 3200000 in
theorem small25_any (w : World) : Calls Tryz.prog 23 #[] w (RetK w exL25) := by
  have HzL : Hid ((zeros 256).length = 256) := Lib.hid (zeros_len _)
  obtain ⟨L0, HL0⟩ : ∃ L, Hid (List.replicate 16 (zeros 256) = L) := ⟨_, Lib.hid rfl⟩
  have HB0 := Lib.hid (show Bks L0 by rw [← HL0.out]; exact Bks.same 16 (zeros_len 256))
  have HN0 := Lib.hid (show L0.length = 16 by rw [← HL0.out]; rfl)
  have HPL := Lib.hid (Lay14.blk_len lay24)
  have HZ2 := Lib.hid (show ∀ h : 2 < (L0.set 0 lay24.blk).length, (L0.set 0 lay24.blk)[2] = zeros 256 from fun h => by
    rw [List.getElem_set_ne (by omega)]
    simp only [← HL0.out, List.getElem_replicate])
  have HWL := Lib.hid (withT_len (zeros_len 256) 0 ino24)
  have HXL := Lib.hid (outX_len idx25_len 0)
  have HWL2 := Lib.hid (withT_len (withT_len (zeros_len 256) 0 ino24) 1 fil25)
  have HAL := Lib.hid ent24a_len
  have HS := Lib.hid (show ((((L0.set 0 lay24.blk).set 2 (withT (zeros 256) 0 ino24)).set 2 (withT (withT (zeros 256) 0 ino24) 1 fil25)).set 5 (outX 0 idx25)).set 6 (newB ent24a) = exL25 by rw [← HL0.out]; rfl)
  have HP1 := Lib.hid (fun w => put14_any lay24 (by decide) w)
  have HP2 := Lib.hid (fun w => twith_any (zeros 256) HzL.out 0 ino24 rfl w)
  have HP6 := Lib.hid (fun w => twith_any (withT (zeros 256) 0 ino24) (withT_len (zeros_len 256) 0 ino24) 1 fil25 rfl w)
  have HP3 := Lib.hid (fun w => xput_any 0 idx25 idx25_len w)
  have HP4 := Lib.hid (fun A c w h => bnew_any A 2 c ent24a rfl (by unfold maxLen; omega) ent24a_size w h)
  generalize lay24.blk = P1 at *
  generalize withT (withT (zeros 256) 0 ino24) 1 fil25 = P6 at *
  generalize withT (zeros 256) 0 ino24 = P2 at *
  generalize outX 0 idx25 = P3 at *
  generalize newB ent24a = P4 at *
  obtain ⟨e1, He1⟩ : ∃ e, Hid (okArg lay24.may = e) := ⟨_, Lib.hid rfl⟩
  rw [He1.out] at HP1
  obtain ⟨e2, He2⟩ : ∃ e, Hid (errT 0 ino24 = e) := ⟨_, Lib.hid rfl⟩
  rw [He2.out] at HP2
  obtain ⟨e6, He6⟩ : ∃ e, Hid (errT 1 fil25 = e) := ⟨_, Lib.hid rfl⟩
  rw [He6.out] at HP6
  obtain ⟨e3, He3⟩ : ∃ e, Hid (okArg (mayX 0 idx25) = e) := ⟨_, Lib.hid rfl⟩
  rw [He3.out] at HP3
  obtain ⟨e4, He4⟩ : ∃ e, Hid (errB ent24a = e) := ⟨_, Lib.hid rfl⟩
  rw [He4.out] at HP4
  clear He1 He2 He3 He4 He6
  have HiL := Lib.hid (show ([2, 1, 0, 1, 0, 0, 0, 0, 0, 0, 0] : List Int).length = 11 from rfl)
  have HfL : Hid (freeI.length = 11) := Lib.hid rfl
  have HiL2 : Hid (ino24.length = 11) := Lib.hid rfl
  have HZt := Lib.hid zeroT_len
  have HiL3 : Hid (fil25.length = 11) := Lib.hid rfl
  have HIs : Hid ((icells ([2, 1, 0, 1, 0, 0, 0, 0, 0, 0, 0] : List Int)).setIfInBounds 4 (.int .i64 5) = icells ino24) := Lib.hid rfl
  have HXs : Hid ((icells (0 :: zeroT)).setIfInBounds 1 (.int .i64 6) = icells (0 :: idx25)) := Lib.hid (by
    rw [icells_set]
    rfl)
  have HXl := Lib.hid idx25_len
  have HFb := Lib.hid Tryz.filBuilt25
  generalize ino24 = I2 at *
  generalize idx25 = X2 at *
  generalize fil25 = F2 at *
  go_enter Tryz.func23, Tryz.ntmps23
  go_wp2_with (refine wpList_make_bkL rfl _ _ _ _ rfl Tryz.underlying48 Tryz.blockInfo _ _ _ _ 16 rfl rfl rfl rfl (by omega) L0 HL0.out ?_)
  apply Stop.go; intro w1 Hg1 Hb1
  have E1 := Lib.hid Hg1.out.1
  clear Hg1 HL0
  go_wp2_with fail
  refine (HP1.out _).mono ?_; rintro e w2 ⟨rfl, hb2⟩
  have Hb2 := Lib.hid (Hb1.out.ext hb2)
  have E2 := Lib.hid (bt E1.out hb2)
  clear hb2 Hb1 E1 HP1
  go_wp2_with (refine wpList_store_bk rfl _ _ _ rfl Tryz.blockSize w.heap.size 0 rfl P1 rfl HPL.out _ L0 HB0.out (by rw [HN0.out]; omega) Hb2.out ?_)
  apply Stop.go; intro w3 Ho3 Hb3
  have E3 := Lib.hid (bonly E2.out Ho3.out (Nat.le_refl _))
  have HB1 := Lib.hid (HB0.out.set 0 HPL.out)
  have HN1 := Lib.hid (show (L0.set 0 P1).length = 16 by rw [List.length_set, HN0.out])
  generalize L0.set 0 P1 = L1 at *
  clear Ho3 Hb2 E2 HB0 HN0
  have h2 : 2 < L1.length := by rw [HN1.out]; omega
  have HZ2 := Lib.hid (HZ2.out h2)
  go_wp2_with (first | refine wpList_build_three24 rfl _ _ _ _ _ _ _ rfl _ _ _ rfl rfl rfl _ Tryz.inoBuilt25 ?_ | refine wpList_alloc_row rfl _ rfl _ Tryz.inoZero ?_)
  apply Stop.go; intro w4 Hg4 Hb4
  go_wp2_with (refine wpList_store_arr rfl _ _ _ rfl _ _ rfl rfl _ _ Hb4.out (Tryz.inoFits HiL.out) (by simp only [icells_size, HiL.out, HfL.out]) (oneCell_icells _) ?_)
  apply Stop.go; intro w5 Ho5 Hb5
  have zi := Lib.hid (show w.heap.size < w3.heap.size from Hb3.out.lt)
  have D5 := Lib.hid (bonly Hg4.out.1 Ho5.out (Nat.le_refl _))
  have HL5 := Lib.hid (Hb3.out.ext D5.out)
  have E5 := Lib.hid (bt E3.out D5.out)
  generalize w3.heap.size = gi at *
  clear Hg4 Hb4 Ho5 D5 Hb3 E3
  go_wp2_with (refine wpList_store_cell rfl _ _ _ rfl Tryz.intSize25 gi 4 rfl _ rfl rfl rfl _ _ Hb5.out (show 4 < (icells ([2, 1, 0, 1, 0, 0, 0, 0, 0, 0, 0] : List Int)).size by decide) ?_)
  apply Stop.go; intro w6 Ho6 Hb6
  have HI6 := Lib.hid (show Blk w6 gi 59 (icells I2) by have := Hb6.out; rw [HIs.out] at this; exact this)
  have HL6 := Lib.hid (HL5.out.only Ho6.out (by have := zi.out; omega))
  have E6 := Lib.hid (bonly E5.out Ho6.out (by have := zi.out; omega))
  clear Ho6 Hb6 Hb5 HL5 E5 HIs
  go_wp2_with fail
  refine WH.start (S := fun w' : World => Blk w' gi 59 (icells I2)) [false, false, false, false, false, false, false, false, false, false, false] 11 rfl rfl (by kernel_rfl) (HI6.out.ext (bdrew w6 1)) (fun hSn => ?_); obtain ⟨wS, hwS⟩ : ∃ x, (w6).drew = x := ⟨_, rfl⟩; have HE := Lib.hid (show Below (w6).heap.size (w6) wS from hwS ▸ bdrew w6 1); rw [hwS] at hSn ⊢; clear hwS
  refine WH.tk 0 ?_; simp only [setL]
  refine WH.tk 1 ?_; simp only [setL]
  refine WH.tk 2 ?_; simp only [setL]
  refine WH.tv 4 rfl (fun w' hSw => exec_load_blk _ _ rfl _ rfl _ _ hSw _ Tryz.underlying59 rfl (Tryz.inoFits HiL2.out)) ?_; simp only [setL]
  refine WH.only 3 _ rfl (by kernel_rfl) rfl (fun K hK => ?_)
  have HLS := Lib.hid (HL6.out.ext HE.out)
  refine ow_exec24 (exec_load_bk _ _ rfl ⟨w.heap.size, 0, none⟩ 2 rfl L1 HB1.out h2 (RK.of_blk HB1.out HLS.out) _ Tryz.underlying82 rfl Tryz.blockSize) ?_
  rw [HZ2.out]
  have hSn := hSn; refine hK _ _ hSn ?_; clear hK; clear K; simp only [setL]
  refine WH.only 5 _ rfl (by kernel_rfl) rfl (fun K hK => ?_)
  go_simp; refine (HP2.out _).mono ?_; rintro e w7 ⟨rfl, hb7⟩; go_simp
  have HL7 := Lib.hid (HLS.out.ext hb7)
  have HE := Lib.hid (bt HE.out hb7)
  have hSn := hSn.ext hb7; refine hK _ _ hSn ?_; clear hK; clear K; simp only [setL]
  refine WH.tk 6 ?_; simp only [setL]
  refine WH.tk 7 ?_; simp only [setL]
  refine WH.tk 9 ?_; simp only [setL]
  refine WH.two 8 10 _ _ rfl rfl (by kernel_rfl) rfl rfl (fun K hK => ?_) (fun K hK => ?_)
  focus
    refine ow_exec24 (v := .int .i64 e2) (by go_simp) ?_
    have hSn := hSn; refine hK _ _ hSn ?_; clear hK; clear K; simp only [setL]
    refine WH.only 10 _ rfl (by kernel_rfl) rfl (fun K hK => ?_)
    refine ow_store_bk _ _ _ rfl Tryz.blockSize w.heap.size 2 rfl P2 rfl HWL.out _ L1 HB1.out h2 HL7.out ?_
    apply Stop.go; intro w8 Ho8 Hb8
    have E8 := Lib.hid (bonly (bt E6.out HE.out) Ho8.out (Nat.le_refl _))
    have hSn := hSn.only Ho8.out (by have := zi.out; omega); refine hK _ _ hSn ?_; clear hK; clear K; simp only [setL]
    refine WH.done (by kernel_rfl) ?_
  rotate_left
  focus
    refine ow_store_bk _ _ _ rfl Tryz.blockSize w.heap.size 2 rfl P2 rfl HWL.out _ L1 HB1.out h2 HL7.out ?_
    apply Stop.go; intro w8 Ho8 Hb8
    have E8 := Lib.hid (bonly (bt E6.out HE.out) Ho8.out (Nat.le_refl _))
    have hSn := hSn.only Ho8.out (by have := zi.out; omega); refine hK _ _ hSn ?_; clear hK; clear K; simp only [setL]
    refine WH.only 8 _ rfl (by kernel_rfl) rfl (fun K hK => ?_)
    refine ow_exec24 (v := .int .i64 e2) (by go_simp) ?_
    have hSn := hSn; refine hK _ _ hSn ?_; clear hK; clear K; simp only [setL]
    refine WH.done (by kernel_rfl) ?_
  all_goals
    have HB2 := Lib.hid (HB1.out.set 2 HWL.out)
    have HN2 := Lib.hid (show (L1.set 2 P2).length = 16 by rw [List.length_set, HN1.out])
    have HZ3 := Lib.hid (show ∀ h : 2 < (L1.set 2 P2).length, (L1.set 2 P2)[2] = P2 from fun h => List.getElem_set_self h)
    generalize L1.set 2 P2 = L2 at *
    clear hSn HE Ho8 hb7 HL6 HI6 E6 HB1 HN1 h2 HZ2 HP2 HLS HL7
    have HL8 : Hid (Blk w8 w.heap.size 82 (bcells L2.flatten)) := Hb8
    clear Hb8
    have h22 : 2 < L2.length := by rw [HN2.out]; omega
    have HR8 := Lib.hid (RK.of_blk HB2.out HL8.out)
    go_wp2_with (first | refine wpList_load_bk rfl _ _ rfl ⟨w.heap.size, 0, none⟩ 2 rfl L2 HB2.out h22 HR8.out _ Tryz.underlying82 rfl Tryz.blockSize ?_ | refine wpList_build_three24 rfl _ _ _ _ _ _ _ rfl _ _ _ rfl rfl rfl _ HFb.out ?_)
    rw [HZ3.out h22]
    refine (HP6.out _).mono ?_; rintro e w9 ⟨rfl, hb9⟩
    have HL9 := Lib.hid (HL8.out.ext hb9)
    have E9 := Lib.hid (bt E8.out hb9)
    clear hb9 HL8 E8 HR8 HP6 HFb
    go_wp2_with (refine wpList_store_bk rfl _ _ _ rfl Tryz.blockSize w.heap.size 2 rfl P6 rfl HWL2.out _ L2 HB2.out h22 HL9.out ?_)
    apply Stop.go; intro wa Hoa HLa
    have Ea := Lib.hid (bonly E9.out Hoa.out (Nat.le_refl _))
    have HB3 := Lib.hid (HB2.out.set 2 HWL2.out)
    have HN3 := Lib.hid (show (L2.set 2 P6).length = 16 by rw [List.length_set, HN2.out])
    generalize L2.set 2 P6 = L3 at *
    clear Hoa HL9 E9 HB2 HN2 h22 HZ3
    go_wp2_with (first | refine wpList_build_nil rfl _ rfl _ Tryz.ixBuilt0 ?_ | refine wpList_alloc_row rfl _ rfl _ Tryz.ixZero ?_)
    apply Stop.go; intro wb Hgb Hbb
    go_wp2_with (refine wpList_store_arr rfl _ _ _ rfl _ _ rfl rfl _ _ Hbb.out (Tryz.ixFits HZt.out) (icells_same HZt.out HZt.out) (oneCell_icells _) ?_)
    apply Stop.go; intro wc Hoc Hbc
    have zx := Lib.hid (show w.heap.size < wa.heap.size from HLa.out.lt)
    have Dc := Lib.hid (bonly Hgb.out.1 Hoc.out (Nat.le_refl _))
    have HLc := Lib.hid (HLa.out.ext Dc.out)
    have Ec := Lib.hid (bt Ea.out Dc.out)
    generalize wa.heap.size = gx at *
    clear Hgb Hbb Hoc Dc HLa Ea
    go_wp2_with (refine wpList_store_cell rfl _ _ _ rfl Tryz.intSize25 gx 1 rfl _ rfl rfl rfl _ _ Hbc.out (show 1 < (icells (0 :: zeroT)).size by decide) ?_)
    apply Stop.go; intro wd Hod Hbd
    have HXd := Lib.hid (show Blk wd gx 102 (icells (0 :: X2)) by have := Hbd.out; rw [HXs.out] at this; exact this)
    have HLd := Lib.hid (HLc.out.only Hod.out (by have := zx.out; omega))
    have Ed := Lib.hid (bonly Ec.out Hod.out (by have := zx.out; omega))
    clear Hbc Hod Hbd HLc Ec HXs
    go_wp2_with (refine wpList_load_blk rfl _ _ rfl _ rfl _ _ HXd.out _ Tryz.underlying102 rfl (Tryz.ixFits HXl.out) ?_)
    refine (HP3.out _).mono ?_; rintro e we ⟨rfl, hbe⟩
    have HLe := Lib.hid (HLd.out.ext hbe)
    have Ee := Lib.hid (bt Ed.out hbe)
    clear hbe HLd Ed HXd HP3
    go_wp2_with (refine wpList_store_bk rfl _ _ _ rfl Tryz.blockSize w.heap.size 5 rfl P3 rfl HXL.out _ L3 HB3.out (by rw [HN3.out]; omega) HLe.out ?_)
    apply Stop.go; intro wf Hof HLf
    have Ef := Lib.hid (bonly Ee.out Hof.out (Nat.le_refl _))
    have HB4 := Lib.hid (HB3.out.set 5 HXL.out)
    have HN4 := Lib.hid (show (L3.set 5 P3).length = 16 by rw [List.length_set, HN3.out])
    generalize L3.set 5 P3 = L4 at *
    clear Hof HLe Ee HB3 HN3
    go_wp2_with (refine wpList_build_row2 rfl _ _ _ _ rfl Tryz.underlying27 2 _ _ Tryz.entInfo24 (by decide) (by decide) #[.string ⟨#[97]⟩, .int .i64 2] #[.string ⟨#[98]⟩, .int .i64 3] rfl rfl rfl rfl ?_)
    apply Stop.go; intro wg Hgg Hbg
    have HRg := Lib.hid (RN.of_blk (L := erows ent24a) (N := 2) (fun r hr => by
      unfold erows at hr
      obtain ⟨e, _, rfl⟩ := List.mem_map.1 hr
      rfl) Hbg.out rfl)
    have HLg := Lib.hid (HLf.out.ext Hgg.out.1)
    have Eg := Lib.hid (bt Ef.out Hgg.out.1)
    clear Hgg Hbg HLf Ef
    go_wp2_with fail
    refine (HP4.out _ 2 _ HRg.out).mono ?_; rintro e wh ⟨rfl, hbh⟩
    have HLh := Lib.hid (HLg.out.ext hbh)
    have Eh := Lib.hid (bt Eg.out hbh)
    clear hbh HLg Eg HRg HP4
    go_wp2_with (refine wpList_store_bk rfl _ _ _ rfl Tryz.blockSize w.heap.size 6 rfl P4 rfl HAL.out _ L4 HB4.out (by rw [HN4.out]; omega) HLh.out ?_)
    apply Stop.go; intro wi Hoi HLi
    have Ei := Lib.hid (bonly Eh.out Hoi.out (Nat.le_refl _))
    have HB5 := Lib.hid (HB4.out.set 6 HAL.out)
    rw [HS.out] at HLi HB5
    clear Hoi HLh Eh HB4 HN4
    go_wp2_with fail
    go_ret
    exact ⟨_, rfl, OwnK.of_blk HB5.out HLi.out (Nat.le_refl _) (by rw [exL25_len]; unfold maxLen; omega), Ei.out⟩

set_option maxHeartbeats 3200000 in
theorem works25_any (w : World) : Calls Tryz.prog 7 #[] w fun e w' => e = .returned (.bool true) ∧ Below w.heap.size w w' := by
  have HTL := Lib.hid (fun no => bkV_len exL25_bks no)
  have HSm := Lib.hid (fun w => small25_any w)
  have HC1 := Lib.hid (fun (A : Option Addr) (c : Nat) (w : World) (h : RK w A exL25) => show Calls Tryz.prog 15 #[.slice A 16 c] w fun e w' => ∃ f, e = .returned (.tuple #[.agg (vval lay24 f), .int .i64 0]) ∧ Below w.heap.size w w' ∧ FV w' lay24 f (bkV exL25) by
    have := vof_any A 16 c exL25 exL25_len exL25_bks (by omega) w h
    rw [layV_some ex_lay25, ex_lay25] at this
    exact this)
  have HTr := Lib.hid (fun f w h => tree_of_any lay24 f (bkV exL25) HTL.out w h)
  rw [ex_tree25] at HTr
  have HLn := Lib.hid exL25_len
  generalize exL25 = L at *
  generalize hT : bkV L = T at *
  clear hT HTL
  have HAt := Lib.hid (fun A c A' c' w h h' => tat_any A 2 c [nod25a, nod25b] rfl (by omega) (fun x hx => by
    simp only [List.mem_cons, List.mem_nil_iff, or_false] at hx
    rcases hx with rfl | rfl <;> decide) A' 1 c' [⟨#[97]⟩] rfl (by unfold maxLen; omega) w h h')
  rw [ex_at25] at HAt
  have HPa := Lib.hid (fun A c w h => tpaths_any A 2 c [nod25a, nod25b] rfl (by omega) (fun x hx => by
    simp only [List.mem_cons, List.mem_nil_iff, or_false] at hx
    rcases hx with rfl | rfl <;> decide) (by decide) (fun x hx => by
    simp only [List.mem_cons, List.mem_nil_iff, or_false] at hx
    rcases hx with rfl | rfl <;> decide) 1 (fun x hx => by
    simp only [List.mem_cons, List.mem_nil_iff, or_false] at hx
    rcases hx with rfl | rfl <;> decide) (by omega) w h)
  rw [ex_path25] at HPa
  have HCn := Lib.hid (fun A c w h => tcount_any A 2 c [nod25a, nod25b] rfl (by omega) (fun x hx => by
    simp only [List.mem_cons, List.mem_nil_iff, or_false] at hx
    rcases hx with rfl | rfl <;> decide) 2 w h)
  rw [ex_cnt25] at HCn
  have HTx := Lib.hid (fun A A' c c' w h h' => rtexts_any A 1 c [⟨#[47, 97]⟩] rfl A' 1 c' [⟨#[47, 97]⟩] rfl (by unfold maxLen; omega) (by unfold maxLen; omega) w h h')
  rw [decide_eq_true (show ([⟨#[47, 97]⟩] : List ByteArray) = [⟨#[47, 97]⟩] from rfl)] at HTx
  go_enter Tryz.func7, Tryz.ntmps7
  go_wp2_with fail
  refine (HSm.out _).mono ?_; rintro e w1 ⟨v1, rfl, hv1, hb1⟩
  obtain ⟨A1, c1, rfl, _, _, hr1⟩ := hv1.read
  rw [HLn.out]
  have HR1 := Lib.hid hr1
  have E1 := Lib.hid hb1
  clear hv1 hr1 hb1 HSm
  go_wp2_with fail
  refine (HC1.out _ c1 _ HR1.out).mono ?_; rintro e w6 ⟨f, rfl, hb6, hf6⟩
  have HF6 := Lib.hid hf6
  have E6 := Lib.hid (bt E1.out hb6)
  have HTr := Lib.hid (fun w h => HTr.out f w h)
  clear hb6 hf6 HR1 E1 HC1 HLn
  go_wp2_with (refine wpList_alloc_row rfl _ rfl _ Tryz.viewZero ?_)
  apply Stop.go; intro w7 Hg7 Hb7
  go_wp2_with (refine wpList_store_arr rfl _ _ _ rfl _ (vval lay24 f) rfl rfl _ _ Hb7.out Tryz.viewSize rfl (FV.one HF6.out) ?_)
  apply Stop.go; intro w8 Ho8 Hb8
  have D := Lib.hid (bonly Hg7.out.1 Ho8.out (Nat.le_refl _))
  have HF8 := Lib.hid (HF6.out.below D.out)
  have E8 := Lib.hid (bt E6.out D.out)
  generalize w6.heap.size = gv at *
  clear Hg7 Hb7 Ho8 D HF6 E6
  go_wp2_with (refine wpList_load_blk rfl _ _ rfl _ rfl _ _ Hb8.out _ Tryz.underlying44 rfl Tryz.viewSize ?_)
  refine (HTr.out _ HF8.out).mono ?_; rintro e w9 ⟨vt, rfl, hvt, hb9⟩
  have E9 := Lib.hid (bt E8.out hb9)
  obtain ⟨gt, ct, hvf⟩ : ∃ g c, vt = .slice (some ⟨g, 0, none⟩) 2 c := by
    obtain ⟨rows, ⟨_, _, ⟨_, h⟩ | ⟨g, cap, cur, hv, _⟩⟩, h2, _⟩ := hvt
    · rw [h2] at h; cases h
    · rw [h2] at hv; exact ⟨g, cap, hv⟩
  subst hvf
  obtain ⟨A0, c0, e0, _, _, hrt⟩ := hvt.read
  have e0' : A0 = some ⟨gt, 0, none⟩ := by injection e0 with h; exact h.symm
  subst e0'
  have HRt := Lib.hid (show RdL RdN w9 (some ⟨gt, 0, none⟩) 7 [nod25a, nod25b] from hrt)
  clear hvt hb9 hrt e0 E8 HF8 Hb8 HTr
  have Hb1 := Lib.hid (Blk.new w9 9 #[.string ⟨#[97]⟩])
  have D1 := Lib.hid (show Below w9.heap.size w9 (w9.alloc (.cells #[.string ⟨#[97]⟩] 9)) from (Below.refl _ _).alloc (Nat.le_refl _) _)
  have HL1 := Lib.hid (rc_one Hb1.out)
  go_wp2_with fail
  refine (HAt.out (some ⟨gt, 0, none⟩) ct (some ⟨w9.heap.size, 0, none⟩) 1 _ (HRt.out.below D1.out) HL1.out).mono ?_; rintro e wa ⟨⟨ia, rfl, hia⟩, hba⟩
  obtain ⟨xa, hxa, hie⟩ := hia 1 rfl
  have hi2 : ia = 2 := by
    simp at hxa
    rw [hie, ← hxa]
    rfl
  subst hi2
  have HRa := Lib.hid (HRt.out.below (bt D1.out hba))
  have Ea := Lib.hid (bt E9.out (bt D1.out hba))
  rw [show (some 1 : Option Nat).isSome = true from rfl]
  clear hia hxa hie hba xa HRt E9 Hb1 D1 HL1 HAt
  obtain ⟨x0, hx0, hc0⟩ := HRa.out.nodeA (k := 0) (n := nod25a) rfl
  obtain ⟨x1, hx1, hc1⟩ := HRa.out.nodeA (k := 1) (n := nod25b) rfl
  have c6 : wa.cell? ⟨gt, 6, none⟩ = some (.slice x0.S 1 x0.d) := by
    have h := hc0 6 _ rfl
    rw [hx0.sn, show nod25a.names.length = 1 from rfl] at h
    simpa [Addr.add] using h
  have c11 : wa.cell? ⟨gt, 11, none⟩ = some (.int .i64 2) := by
    have h := hc1 4 _ rfl
    rw [hx1.size, show nod25b.size = 2 from rfl] at h
    simpa [Addr.add] using h
  clear hx0 hc0 hx1 hc1
  go_wp2_with fail
  refine (HPa.out (some ⟨gt, 0, none⟩) ct _ HRa.out).mono ?_; rintro e wb ⟨vp, rfl, hvp, hbb⟩
  obtain ⟨Ap, cp, rfl, _, _, hrp⟩ := hvp.strs
  rw [show ([⟨#[47, 97]⟩] : List ByteArray).length = 1 from rfl]
  have HRp := Lib.hid hrp
  have HRb := Lib.hid (HRa.out.below hbb)
  have Eb := Lib.hid (bt Ea.out hbb)
  clear hvp hbb hrp HRa Ea c6 c11 HPa
  have Hb1 := Lib.hid (Blk.new wb 9 #[.string ⟨#[47, 97]⟩])
  have D1 := Lib.hid (show Below wb.heap.size wb (wb.alloc (.cells #[.string ⟨#[47, 97]⟩] 9)) from (Below.refl _ _).alloc (Nat.le_refl _) _)
  have HL1 := Lib.hid (rc_one Hb1.out)
  go_wp2_with fail
  refine (HTx.out Ap (some ⟨wb.heap.size, 0, none⟩) cp 1 _ (HRp.out.below D1.out) HL1.out).mono ?_; rintro e wc ⟨rfl, kk, hwc⟩
  have hbc : Below (wb.alloc (.cells #[.string ⟨#[47, 97]⟩] 9)).heap.size (wb.alloc (.cells #[.string ⟨#[47, 97]⟩] 9)) wc := hwc ▸ bdrew _ kk
  have HRc := Lib.hid (HRb.out.below (bt D1.out hbc))
  have Ec := Lib.hid (bt Eb.out (bt D1.out hbc))
  clear hwc hbc HRb Eb Hb1 D1 HL1 HRp HTx
  go_wp2_with fail
  refine (HCn.out (some ⟨gt, 0, none⟩) ct _ HRc.out).mono ?_; rintro e wd ⟨rfl, hbd⟩
  have Ed := Lib.hid (bt Ec.out hbd)
  clear hbd HRc Ec HCn
  go_wp2_with fail
  go_ret
  exact ⟨rfl, Ed.out⟩

end Go.Proofs.YtkakihbfhmiabaaGreat
