/-
  Layer 16: the walks of InodeBack and InodeSizes.
-/
import Derived.Test.YtlonloiacgipeaaLaw16
import Derived.Deep.CutRange
namespace Go.Proofs.Ytlonloiacgipeaa
open Go.RowKit

theorem run_eql_32 (xs ys : List UInt8) (hx : xs.length = 32) (hy : ys.length = 32) (w : World) : (binOp .eql 25 (.agg (bcells xs)) (.agg (bcells ys))).run Try.prog w = .ok (.bool (xs == ys)) w := by
  have h := run_equalIn_bytes (P := Try.prog) w 9998 25 5 32 Try.underlying25 Try.underlying5 (sizeOf_of Try.byteSize) xs ys hx hy
  have e1 : (xs.map Extern.Stop.cell).toArray = bcells xs := rfl
  have e2 : (ys.map Extern.Stop.cell).toArray = bcells ys := rfl
  rw [e1, e2] at h
  rw [run_eql_struct, h]
  rfl

set_option maxHeartbeats 3200000 in
theorem inodeBack_any (l j : List Int) (hl : l.length = 11) (hj : j.length = 11) (w : World) :
    Calls Try.prog 5 #[.agg (icells l), .agg (icells j)] w fun e w' => e = .returned (.bool true) ∧ Below w.heap.size w w' := by
  have HL := Lib.hid hl
  have HJ := Lib.hid hj
  have HzL : Hid ((zeros 32).length = 32) := Lib.hid (zeros_len _)
  obtain ⟨m, Hm⟩ : ∃ m, Hid (mayI l = m) := ⟨_, Lib.hid rfl⟩
  obtain ⟨p, Hp⟩ : ∃ m, Hid (mayI j = m) := ⟨_, Lib.hid rfl⟩
  obtain ⟨X, HXd⟩ : ∃ X, Hid (outI l = X) := ⟨_, Lib.hid rfl⟩
  obtain ⟨Y, HYd⟩ : ∃ X, Hid (outI j = X) := ⟨_, Lib.hid rfl⟩
  have HXL := Lib.hid (show X.length = 32 by rw [← HXd.out]; exact outI_len hl)
  have HYL := Lib.hid (show Y.length = 32 by rw [← HYd.out]; exact outI_len hj)
  go_enter Try.func5, Try.ntmps5
  go_wp2_with (refine wpList_box_row rfl _ _ rfl _ rfl ?_)
  apply Stop.go; intro w1 Hg1 Hb1
  go_wp2_with (refine wpList_box_row rfl _ _ rfl _ rfl ?_)
  apply Stop.go; intro w2 Hg2 Hb2
  have z1 := Lib.hid Hg1.out.2
  have z2 := Lib.hid Hg2.out.2
  have HA2 := Lib.hid (Hb1.out.ext Hg2.out.1)
  have E2 := Lib.hid (bt Hg1.out.1 Hg2.out.1)
  have HO2 := Lib.hid (show w.heap.size < w1.heap.size ∧ w1.heap.size < w2.heap.size by have := z1.out; have := z2.out; omega)
  generalize w1.heap.size = g3 at *
  clear Hb1 Hg1 Hg2 z1 z2
  go_wp2_with (refine wpList_load_blk rfl _ _ rfl _ rfl _ _ HA2.out _ Try.underlying24 rfl (Try.inoFits HL.out) ?_)
  refine (putI_any l HL.out _).mono ?_; rintro e w3 ⟨rfl, hb3⟩
  rw [HXd.out, Hm.out]
  have HA3 := Lib.hid (HA2.out.ext hb3)
  have HB3 := Lib.hid (Hb2.out.ext hb3)
  have E3 := Lib.hid (bt E2.out hb3)
  have HO3 := Lib.hid (show w.heap.size < g3 ∧ g3 < w3.heap.size by have := HO2.out; have := hb3.size; omega)
  clear hb3 HA2 Hb2 E2 HO2
  go_wp2_with (refine wpList_alloc_row rfl _ rfl _ Try.b32Zero ?_)
  apply Stop.go; intro w4 Hg4 Hb4
  go_wp2_with (refine wpList_store_arr rfl _ _ _ rfl _ _ rfl rfl _ _ Hb4.out (Try.b32Fits HXL.out) (by simp only [bcells_size, HXL.out, HzL.out]) (oneCell_bcells _) ?_)
  apply Stop.go; intro w5 Ho5 Hb5
  have HA5 := Lib.hid ((HA3.out.ext Hg4.out.1).only Ho5.out (by have := HO3.out; omega))
  have HB5 := Lib.hid ((HB3.out.ext Hg4.out.1).only Ho5.out (by have := HO3.out; omega))
  have E5 := Lib.hid (bonly (bt E3.out Hg4.out.1) Ho5.out (by have := HO3.out; omega))
  have HO5 := Lib.hid (show w.heap.size < g3 ∧ g3 < w3.heap.size ∧ w3.heap.size < w5.heap.size from ⟨HO3.out.1, HO3.out.2, Hb5.out.lt⟩)
  generalize w3.heap.size = g5 at *
  clear Hg4 Hb4 Ho5 HA3 HB3 E3 HO3
  go_wp2_with (refine wpList_load_blk rfl _ _ rfl _ rfl _ _ HB5.out _ Try.underlying24 rfl (Try.inoFits HJ.out) ?_)
  refine (putI_any j HJ.out _).mono ?_; rintro e w6 ⟨rfl, hb6⟩
  rw [HYd.out, Hp.out]
  have HA6 := Lib.hid (HA5.out.ext hb6)
  have HB6 := Lib.hid (HB5.out.ext hb6)
  have HX6 := Lib.hid (Hb5.out.ext hb6)
  have E6 := Lib.hid (bt E5.out hb6)
  have HO6 := Lib.hid (show w.heap.size < g3 ∧ g3 < g5 ∧ g5 < w6.heap.size by have := HO5.out; have := hb6.size; omega)
  clear hb6 HA5 HB5 Hb5 E5 HO5
  go_wp2_with (refine wpList_alloc_row rfl _ rfl _ Try.b32Zero ?_)
  apply Stop.go; intro w7 Hg7 Hb7
  go_wp2_with (refine wpList_store_arr rfl _ _ _ rfl _ _ rfl rfl _ _ Hb7.out (Try.b32Fits HYL.out) (by simp only [bcells_size, HYL.out, HzL.out]) (oneCell_bcells _) ?_)
  apply Stop.go; intro w8 Ho8 Hb8
  have HA8 := Lib.hid ((HA6.out.ext Hg7.out.1).only Ho8.out (by have := HO6.out; omega))
  have HB8 := Lib.hid ((HB6.out.ext Hg7.out.1).only Ho8.out (by have := HO6.out; omega))
  have HX8 := Lib.hid ((HX6.out.ext Hg7.out.1).only Ho8.out (by have := HO6.out; omega))
  have E8 := Lib.hid (bonly (bt E6.out Hg7.out.1) Ho8.out (by have := HO6.out; omega))
  have HO8 := Lib.hid (show w.heap.size < g3 ∧ g3 < g5 ∧ g5 < w6.heap.size ∧ w6.heap.size < w8.heap.size from ⟨HO6.out.1, HO6.out.2.1, HO6.out.2.2, Hb8.out.lt⟩)
  generalize w6.heap.size = g7 at *
  clear Hg7 Hb7 Ho8 HA6 HB6 HX6 E6 HO6
  cases m
  · rw [okArg_false]
    obtain ⟨ev, Hev⟩ : ∃ v, Hid (okArg p = v) := ⟨_, Lib.hid rfl⟩
    rw [Hev.out]
    go_wp2_with fail
    refine WH.start (S := fun w' : World => Blk w' w.heap.size 24 (icells l) ∧ (Blk w' g3 24 (icells j) ∧ (Blk w' g5 25 (bcells X) ∧ Blk w' g7 25 (bcells Y)))) [false, false, false, false, false, false, false, false, false, false, false, false, false, false, false, false, false, false, false] 19 rfl rfl (by kernel_rfl) ⟨HA8.out.ext (bdrew w8 1), HB8.out.ext (bdrew w8 1), HX8.out.ext (bdrew w8 1), Hb8.out.ext (bdrew w8 1)⟩ (fun hSn => ?_); obtain ⟨wS, hwS⟩ : ∃ x, (w8).drew = x := ⟨_, rfl⟩; have HE := Lib.hid (show Below (w8).heap.size (w8) wS from hwS ▸ bdrew w8 1); rw [hwS] at hSn ⊢; clear hwS
    refine WH.tk 0 ?_; simp only [setL]
    refine WH.tk 1 ?_; simp only [setL]
    refine WH.tk 2 ?_; simp only [setL]
    refine WH.skip 3 _ rfl (by kernel_rfl) (fun _ _ _ h => h) rfl (by assumption) ?_; simp only [setL]
    refine WH.skip 4 _ rfl (by kernel_rfl) (fun _ _ _ h => h) rfl (by assumption) ?_; simp only [setL]
    refine WH.tk 5 ?_; simp only [setL]
    refine WH.tk 6 ?_; simp only [setL]
    refine WH.skip 7 _ rfl (by kernel_rfl) (fun _ _ _ h => h) rfl (by assumption) ?_; simp only [setL]
    refine WH.skip 8 _ rfl (by kernel_rfl) (fun _ _ _ h => h) rfl (by assumption) ?_; simp only [setL]
    refine WH.skip 9 _ rfl (by kernel_rfl) (fun _ _ _ h => h) rfl (by assumption) ?_; simp only [setL]
    refine WH.skip 10 _ rfl (by kernel_rfl) (fun _ _ _ h => h) rfl (by assumption) ?_; simp only [setL]
    refine WH.skip 11 _ rfl (by kernel_rfl) (fun _ _ _ h => h) rfl (by assumption) ?_; simp only [setL]
    refine WH.skip 12 _ rfl (by kernel_rfl) (fun _ _ _ h => h) rfl (by assumption) ?_; simp only [setL]
    refine WH.skip 13 _ rfl (by kernel_rfl) (fun _ _ _ h => h) rfl (by assumption) ?_; simp only [setL]
    refine WH.tk 14 ?_; simp only [setL]
    refine WH.tk 15 ?_; simp only [setL]
    refine WH.only 16 _ rfl (by kernel_rfl) rfl (fun K hK => ?_); go_simp; refine (works16_any _).mono ?_; rintro e wd ⟨rfl, hbd⟩; go_simp; have HE := Lib.hid (bt HE.out hbd); have hSn := And.intro (hSn.1.ext hbd) (And.intro (hSn.2.1.ext hbd) (And.intro (hSn.2.2.1.ext hbd) (hSn.2.2.2.ext hbd))); refine hK _ _ hSn ?_; clear hK; clear K; simp only [setL]; refine WH.tk 17 ?_; simp only [setL]; refine WH.tk 18 ?_; simp only [setL]; refine WH.done (by kernel_rfl) ?_; go_wp2_with fail; go_ret
    exact ⟨rfl, bt E8.out HE.out⟩
  · rw [okArg_true]
    obtain rfl : X = putI l := by rw [← HXd.out]; unfold outI; rw [Hm.out]; rfl
    have HCl := Lib.hid (show cleanV (putI l) = l ∧ (cleanI (putI l)).isSome = true ∧ getI (putI l) = l from ⟨by unfold cleanV; rw [clean_putI hl Hm.out]; rfl, by rw [clean_putI hl Hm.out]; rfl, get_putI hl Hm.out⟩)
    have HNe := Lib.hid (show ∀ w, (binOp .neq 24 (.agg (icells l)) (.agg (icells l))).run Try.prog w = .ok (.bool false) w from fun w => by rw [run_neq_ino l l HL.out HL.out w]; simp)
    obtain ⟨ev, Hev⟩ : ∃ v, Hid (okArg p = v) := ⟨_, Lib.hid rfl⟩
    rw [Hev.out]
    go_wp2_with (refine wpList_load_arr rfl _ _ rfl _ rfl _ _ HX8.out _ _ Try.underlying25 (Try.b32Fits HXL.out) ?_)
    refine (cleanI_any (putI l) HXL.out _).mono ?_; rintro e w9 ⟨rfl, hb9⟩
    rw [HCl.out.1, HCl.out.2.1]
    have HA9 := Lib.hid (HA8.out.ext hb9)
    have HB9 := Lib.hid (HB8.out.ext hb9)
    have HX9 := Lib.hid (HX8.out.ext hb9)
    have HY9 := Lib.hid (Hb8.out.ext hb9)
    have E9 := Lib.hid (bt E8.out hb9)
    have HO9 := Lib.hid (show w.heap.size < g3 ∧ g3 < g5 ∧ g5 < g7 ∧ g7 < w9.heap.size by have := HO8.out; have := hb9.size; omega)
    clear hb9 HA8 HB8 HX8 Hb8 E8 HO8
    go_wp2_with (refine wpList_alloc_row rfl _ rfl _ Try.inoZero ?_)
    apply Stop.go; intro wa Hga Hba
    go_wp2_with (refine wpList_store_arr rfl _ _ _ rfl _ _ rfl rfl _ _ Hba.out (Try.inoFits HL.out) (by rw [icells_size, icells_size, HL.out]; rfl) (oneCell_icells _) ?_)
    apply Stop.go; intro wb Hob Hbb
    have HAb := Lib.hid ((HA9.out.ext Hga.out.1).only Hob.out (by have := HO9.out; omega))
    have HBb := Lib.hid ((HB9.out.ext Hga.out.1).only Hob.out (by have := HO9.out; omega))
    have HXb := Lib.hid ((HX9.out.ext Hga.out.1).only Hob.out (by have := HO9.out; omega))
    have HYb := Lib.hid ((HY9.out.ext Hga.out.1).only Hob.out (by have := HO9.out; omega))
    have Eb := Lib.hid (bonly (bt E9.out Hga.out.1) Hob.out (by have := HO9.out; omega))
    generalize w9.heap.size = g9 at *
    clear Hga Hba Hob HA9 HB9 HX9 HY9 E9 HO9
    go_upto_region 5 with fail
    go_cut [40] from 28 to 41 (fun v wx => v = .bool false ∧ Below wb.heap.size wb wx)
    case first =>
      refine WH.start (S := fun w' : World => Blk w' w.heap.size 24 (icells l) ∧ (Blk w' g9 24 (icells l) ∧ Blk w' g5 25 (bcells (putI l)))) [false, false, false, false, false, false, false, false, false, false, false, false, false] 13 rfl rfl (by kernel_rfl) ⟨HAb.out.ext (bdrew wb 1), Hbb.out.ext (bdrew wb 1), HXb.out.ext (bdrew wb 1)⟩ (fun hSn => ?_); obtain ⟨wS, hwS⟩ : ∃ x, (wb).drew = x := ⟨_, rfl⟩; have HE := Lib.hid (show Below (wb).heap.size (wb) wS from hwS ▸ bdrew wb 1); rw [hwS] at hSn ⊢; clear hwS
      refine WH.tk 0 ?_; simp only [setL]
      refine WH.tk 1 ?_; simp only [setL]
      refine WH.tk 2 ?_; simp only [setL]
      refine WH.tv 3 rfl (fun w' hSw => exec_load_blk _ _ rfl _ rfl _ _ (hSw.2.1) _ (Try.underlying24) rfl (Try.inoFits HL.out)) ?_; simp only [setL]
      refine WH.tv 4 rfl (fun w' hSw => exec_load_blk _ _ rfl _ rfl _ _ (hSw.1) _ (Try.underlying24) rfl (Try.inoFits HL.out)) ?_; simp only [setL]
      refine WH.tv 5 rfl (fun w' hSw => exec_eql_agg _ _ _ _ _ rfl (by kernel_rfl) (icells l) (icells l) rfl rfl _ (HNe.out _)) ?_; simp only [setL]
      refine WH.tk 6 ?_; simp only [setL]
      refine WH.tk 7 ?_; simp only [setL]
      refine WH.tv 8 rfl (fun w' hSw => run_load_arr _ _ rfl _ rfl _ _ (hSw.2.2) _ _ (Try.underlying25) (Try.b32Fits HXL.out)) ?_; simp only [setL]
      refine WH.tv 10 rfl (fun w' hSw => exec_load_blk _ _ rfl _ rfl _ _ (hSw.1) _ (Try.underlying24) rfl (Try.inoFits HL.out)) ?_; simp only [setL]
      refine WH.only 9 _ rfl (by kernel_rfl) rfl (fun K hK => ?_)
      go_simp; refine (getI_any (putI l) HXL.out _).mono ?_; rintro e wc ⟨rfl, hbc⟩; go_simp
      rw [HCl.out.2.2]
      have HE := Lib.hid (bt HE.out hbc)
      have hSn := And.intro (hSn.1.ext hbc) (And.intro (hSn.2.1.ext hbc) (hSn.2.2.ext hbc)); refine hK _ _ hSn ?_; clear hK; clear K; simp only [setL]
      refine WH.tv 11 rfl (fun w' hSw => exec_eql_agg _ _ _ _ _ rfl (by kernel_rfl) (icells l) (icells l) rfl rfl _ (HNe.out _)) ?_; simp only [setL]
      refine WH.tk 12 ?_; simp only [setL]
      refine WH.done (by kernel_rfl) ?_
      go_wp2_with fail
      go_meet
      exact ⟨rfl, HE.out⟩
    case rest =>
    obtain ⟨rfl, hd⟩ := hcut
    have HAc := Lib.hid (HAb.out.ext hd)
    have HBc := Lib.hid (HBb.out.ext hd)
    have HXc := Lib.hid (HXb.out.ext hd)
    have HYc := Lib.hid (HYb.out.ext hd)
    have Ec := Lib.hid (bt Eb.out hd)
    generalize wc = wx at *
    clear hd HAb HBb HXb HYb Hbb Eb HNe HCl
    cases p
    · obtain rfl : ev = 1 := by rw [← Hev.out]; rfl
      go_wp2_with fail
      refine WH.start (S := fun w' : World => Blk w' w.heap.size 24 (icells l) ∧ (Blk w' g3 24 (icells j) ∧ (Blk w' g5 25 (bcells (putI l)) ∧ Blk w' g7 25 (bcells Y)))) [false, false, false, false, false, false, false, false, false, false, false, false, false, false, false, false, false, false, false] 19 rfl rfl (by kernel_rfl) ⟨HAc.out.ext (bdrew wx 1), HBc.out.ext (bdrew wx 1), HXc.out.ext (bdrew wx 1), HYc.out.ext (bdrew wx 1)⟩ (fun hSn => ?_); obtain ⟨wS, hwS⟩ : ∃ x, (wx).drew = x := ⟨_, rfl⟩; have HE := Lib.hid (show Below (wx).heap.size (wx) wS from hwS ▸ bdrew wx 1); rw [hwS] at hSn ⊢; clear hwS
      refine WH.tk 0 ?_; simp only [setL]
      refine WH.tk 1 ?_; simp only [setL]
      refine WH.tk 2 ?_; simp only [setL]
      refine WH.tk 3 ?_; simp only [setL]
      refine WH.tk 4 ?_; simp only [setL]
      refine WH.tk 5 ?_; simp only [setL]
      refine WH.tk 6 ?_; simp only [setL]
      refine WH.skip 7 _ rfl (by kernel_rfl) (fun _ _ _ h => h) rfl (by assumption) ?_; simp only [setL]
      refine WH.skip 8 _ rfl (by kernel_rfl) (fun _ _ _ h => h) rfl (by assumption) ?_; simp only [setL]
      refine WH.skip 9 _ rfl (by kernel_rfl) (fun _ _ _ h => h) rfl (by assumption) ?_; simp only [setL]
      refine WH.skip 10 _ rfl (by kernel_rfl) (fun _ _ _ h => h) rfl (by assumption) ?_; simp only [setL]
      refine WH.skip 11 _ rfl (by kernel_rfl) (fun _ _ _ h => h) rfl (by assumption) ?_; simp only [setL]
      refine WH.skip 12 _ rfl (by kernel_rfl) (fun _ _ _ h => h) rfl (by assumption) ?_; simp only [setL]
      refine WH.skip 13 _ rfl (by kernel_rfl) (fun _ _ _ h => h) rfl (by assumption) ?_; simp only [setL]
      refine WH.tk 14 ?_; simp only [setL]
      refine WH.tk 15 ?_; simp only [setL]
      refine WH.only 16 _ rfl (by kernel_rfl) rfl (fun K hK => ?_); go_simp; refine (works16_any _).mono ?_; rintro e wd ⟨rfl, hbd⟩; go_simp; have HE := Lib.hid (bt HE.out hbd); have hSn := And.intro (hSn.1.ext hbd) (And.intro (hSn.2.1.ext hbd) (And.intro (hSn.2.2.1.ext hbd) (hSn.2.2.2.ext hbd))); refine hK _ _ hSn ?_; clear hK; clear K; simp only [setL]; refine WH.tk 17 ?_; simp only [setL]; refine WH.tk 18 ?_; simp only [setL]; refine WH.done (by kernel_rfl) ?_; go_wp2_with fail; go_ret
      exact ⟨rfl, bt Ec.out HE.out⟩
    · obtain rfl : ev = 0 := by rw [← Hev.out]; rfl
      obtain rfl : Y = putI j := by rw [← HYd.out]; unfold outI; rw [Hp.out]; rfl
      obtain ⟨r, Hr⟩ : ∃ r, Hid ((l == j) = r) := ⟨_, Lib.hid rfl⟩
      have Hr2 := Lib.hid (show (putI l == putI j) = r by rw [← Hr.out]; exact Bool.eq_iff_iff.2 (by simp only [beq_iff_eq]; exact ⟨putI_inj hl hj Hm.out Hp.out, fun h => by rw [h]⟩))
      have HEb := Lib.hid (show ∀ w, (binOp .eql 25 (.agg (bcells (putI l))) (.agg (bcells (putI j)))).run Try.prog w = .ok (.bool r) w from fun w => by rw [run_eql_32 _ _ HXL.out HYL.out w, Hr2.out])
      have HEi := Lib.hid (show ∀ w, (binOp .eql 24 (.agg (icells l)) (.agg (icells j))).run Try.prog w = .ok (.bool r) w from fun w => by rw [run_eql_ino l j HL.out HJ.out w, Hr.out])
      have drr : (r == r) = true := by simp
      go_wp2_with fail
      refine WH.start (S := fun w' : World => Blk w' w.heap.size 24 (icells l) ∧ (Blk w' g3 24 (icells j) ∧ (Blk w' g5 25 (bcells (putI l)) ∧ Blk w' g7 25 (bcells (putI j))))) [false, false, false, false, false, false, false, false, false, false, false, false, false, false, false, false, false, false, false] 19 rfl rfl (by kernel_rfl) ⟨HAc.out.ext (bdrew wx 1), HBc.out.ext (bdrew wx 1), HXc.out.ext (bdrew wx 1), HYc.out.ext (bdrew wx 1)⟩ (fun hSn => ?_); obtain ⟨wS, hwS⟩ : ∃ x, (wx).drew = x := ⟨_, rfl⟩; have HE := Lib.hid (show Below (wx).heap.size (wx) wS from hwS ▸ bdrew wx 1); rw [hwS] at hSn ⊢; clear hwS
      refine WH.tk 0 ?_; simp only [setL]
      refine WH.tk 1 ?_; simp only [setL]
      refine WH.tk 2 ?_; simp only [setL]
      refine WH.tk 3 ?_; simp only [setL]
      refine WH.tk 4 ?_; simp only [setL]
      refine WH.tk 5 ?_; simp only [setL]
      refine WH.tk 6 ?_; simp only [setL]
      refine WH.tv 7 rfl (fun w' hSw => run_load_arr _ _ rfl _ rfl _ _ (hSw.2.2.1) _ _ (Try.underlying25) (Try.b32Fits HXL.out)) ?_; simp only [setL]
      refine WH.tv 8 rfl (fun w' hSw => run_load_arr _ _ rfl _ rfl _ _ (hSw.2.2.2) _ _ (Try.underlying25) (Try.b32Fits HYL.out)) ?_; simp only [setL]
      refine WH.tv 9 rfl (fun w' hSw => exec_eql_agg _ _ _ _ _ rfl (by kernel_rfl) (bcells (putI l)) (bcells (putI j)) rfl rfl _ (HEb.out _)) ?_; simp only [setL]
      refine WH.tv 10 rfl (fun w' hSw => exec_load_blk _ _ rfl _ rfl _ _ (hSw.1) _ (Try.underlying24) rfl (Try.inoFits HL.out)) ?_; simp only [setL]
      refine WH.tv 11 rfl (fun w' hSw => exec_load_blk _ _ rfl _ rfl _ _ (hSw.2.1) _ (Try.underlying24) rfl (Try.inoFits HJ.out)) ?_; simp only [setL]
      refine WH.tv 12 rfl (fun w' hSw => exec_eql_agg _ _ _ _ _ rfl (by kernel_rfl) (icells l) (icells j) rfl rfl _ (HEi.out _)) ?_; simp only [setL]
      refine WH.tk 13 ?_; simp only [setL]
      refine WH.tk 14 ?_; simp only [setL]
      refine WH.tk 15 ?_; simp only [setL]
      refine WH.only 16 _ rfl (by kernel_rfl) rfl (fun K hK => ?_); go_simp; refine (works16_any _).mono ?_; rintro e wd ⟨rfl, hbd⟩; go_simp; have HE := Lib.hid (bt HE.out hbd); have hSn := And.intro (hSn.1.ext hbd) (And.intro (hSn.2.1.ext hbd) (And.intro (hSn.2.2.1.ext hbd) (hSn.2.2.2.ext hbd))); refine hK _ _ hSn ?_; clear hK; clear K; simp only [setL]; refine WH.tk 17 ?_; simp only [setL]; refine WH.tk 18 ?_; simp only [setL]; refine WH.done (by kernel_rfl) ?_; go_wp2_with fail; go_ret
      exact ⟨rfl, bt Ec.out HE.out⟩

theorem blocksI_facts (x : Int) (h : 0 ≤ x ∧ x < 34305) : x ≤ 256 * blocksI x ∧ (blocksI x = 0 ∨ 256 * (blocksI x - 1) < x) ∧ 0 ≤ blocksI x ∧ blocksI x ≤ 134 := by
  unfold blocksI
  omega
theorem blocksI_mono (x y : Int) (h : x ≤ y) : blocksI x ≤ blocksI y := by
  unfold blocksI
  omega
set_option maxHeartbeats 3200000 in
theorem inodeSizes_any (a b : Int) (ha : 0 ≤ a ∧ a < 65536) (hb : 0 ≤ b ∧ b < 65536) (w : World) :
    Calls Try.prog 6 #[.int .u16 a, .int .u16 b] w fun e w' => e = .returned (.bool true) ∧ Below w.heap.size w w' := by
  obtain ⟨x, hx⟩ : ∃ x, a % 34305 = x := ⟨_, rfl⟩
  obtain ⟨y, hy⟩ : ∃ x, b % 34305 = x := ⟨_, rfl⟩
  have hx0 : 0 ≤ x ∧ x < 34305 := by omega
  have hy0 : 0 ≤ y ∧ y < 34305 := by omega
  obtain ⟨f1, f2, f3, f4⟩ := blocksI_facts x hx0
  have HM := Lib.hid (blocksI_mono x y)
  obtain ⟨n, hn⟩ : ∃ n, blocksI x = n := ⟨_, rfl⟩
  obtain ⟨q, hq⟩ : ∃ n, blocksI y = n := ⟨_, rfl⟩
  rw [hn] at f1 f2 f3 f4 HM
  rw [hq] at HM
  have HN := Lib.hid hn
  have HQ := Lib.hid hq
  have HX := Lib.hid hx
  have HY := Lib.hid hy
  clear hn hq hx hy
  have d1 : decide (x ≤ 256 * n) = true := decide_eq_true f1
  have d4 : decide (n ≤ 134) = true := decide_eq_true f4
  have F2 := Lib.hid f2
  clear f2
  go_enter Try.func6, Try.ntmps6
  go_wp2_with fail
  rw [HX.out, HY.out]
  refine (blocks_any x _).mono ?_; rintro e wx ⟨rfl, rfl⟩
  rw [HN.out]
  by_cases h0 : n = 0
  · subst h0
    obtain rfl : x = 0 := by omega
    have d5 : decide (0 ≤ q) = true := decide_eq_true (HM.out hy0.1)
    have d6 : decide (y < 0) = false := decide_eq_false (by omega)
    clear d1 d4
    go_wp2_with fail
    refine (blocks_any y _).mono ?_; rintro e wx ⟨rfl, rfl⟩
    rw [HQ.out]
    go_wp2_with fail
    refine (works16_any _).mono ?_; rintro e wy ⟨rfl, hby⟩
    have E := Lib.hid hby
    clear hby
    go_wp2_with fail
    go_ret
    exact ⟨rfl, E.out⟩
  · have d2 : decide (n = 0) = false := decide_eq_false h0
    have d2b : (n == 0) = false := by simpa using h0
    have d3 : decide (256 * (n - 1) < x) = true := decide_eq_true (by have := F2.out; omega)
    obtain ⟨s, hs⟩ : ∃ r, decide (y < x) = r := ⟨_, rfl⟩
    cases s
    · have d5 : decide (n ≤ q) = true := decide_eq_true (HM.out (by have := of_decide_eq_false hs; omega))
      go_wp2_with fail
      refine (blocks_any y _).mono ?_; rintro e wx ⟨rfl, rfl⟩
      rw [HQ.out]
      go_wp2_with fail
      refine (works16_any _).mono ?_; rintro e wy ⟨rfl, hby⟩
      have E := Lib.hid hby
      clear hby
      go_wp2_with fail
      go_ret
      exact ⟨rfl, E.out⟩
    · go_wp2_with fail
      refine (works16_any _).mono ?_; rintro e wy ⟨rfl, hby⟩
      have E := Lib.hid hby
      clear hby
      go_wp2_with fail
      go_ret
      exact ⟨rfl, E.out⟩

end Go.Proofs.Ytlonloiacgipeaa
