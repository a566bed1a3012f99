/-
  Layer 18: the walk of BucketFixes.
-/
import Derived.Test.YtmojappbgghpbaaLaw18
namespace Go.Proofs.Ytmojappbgghpbaa
open Go.RowKit

theorem fndC_form (b : List UInt8) (s : ByteArray) : ∃ a t c, fndC b s = #[.int .i64 a, .string t, .int .i64 c] := by
  unfold fndC
  cases findS b s with
  | none => exact ⟨_, _, _, rfl⟩
  | some k => exact ⟨_, _, _, rfl⟩
theorem fndC_fix {b : List UInt8} (hb : b.length = 256) (s : ByteArray) : fndC (fixS b 7) s = fndC b s := by
  unfold fndC
  rw [fixS_find7 hb]
  cases h : findS b s with
  | none => rfl
  | some k =>
    show scells k (entV (entS (fixS b 7) k)) = scells k (entV (entS b k))
    rw [fixS_ent_find hb h]

theorem Try.arr256Fits {l : List UInt8} (h : l.length = 256) : (Try.prog.info? 25).map (·.size) = some (bcells l).size := by rw [bcells_size, h]; kernel_rfl

set_option maxRecDepth 4000 in
set_option maxHeartbeats 3200000 in
theorem bucketFixes_any (b : List UInt8) (hb : b.length = 256) (s : ByteArray) (_hs : s.size ≤ maxLen) (w : World) :
    Calls Try.prog 6 #[.agg (bcells b), .string s] w fun e w' => e = .returned (.bool true) ∧ Below w.heap.size w w' := by
  have HbL := Lib.hid hb
  have HzL : Hid ((zeros 256).length = 256) := Lib.hid (zeros_len _)
  have HYL := Lib.hid (fixS_len hb (Nat.le_refl 7))
  have HFx := Lib.hid (fun w => bfix_any b hb w)
  have HFn := Lib.hid (fun w => bfind_any b hb s w)
  have HLs := Lib.hid (fun w => blist_any b hb w)
  have HRt := Lib.hid (fixS_right hb)
  have HTw := Lib.hid (fixS_twice hb)
  have HCn := Lib.hid (fndC_fix hb s)
  have HIs := Lib.hid (fixS_find7 hb s)
  have HLe := Lib.hid (fixS_list hb (Nat.le_refl 7))
  have HL7 := Lib.hid (listS_len b 7)
  obtain ⟨Y, hY⟩ : ∃ Y, fixS b 7 = Y := ⟨_, rfl⟩
  rw [hY] at HYL HFx HRt HTw HCn HIs HLe
  clear hY hb
  by_cases h60 : 60 < s.size
  · have d0 : decide ((60 : Int) < (s.size : Int)) = true := by simp; omega
    have d1 : decide (60 < s.size) = true := decide_eq_true h60
    clear h60
    go_enter Try.func6, Try.ntmps6
    go_wp2_with (refine wpList_box_row rfl _ _ rfl _ rfl ?_)
    apply Stop.go; intro w1 Hg1 Hb1
    go_wp2_with fail
    refine (works18_any _).mono ?_; rintro e w2 ⟨rfl, hb2⟩
    go_wp2_with fail
    go_ret
    exact ⟨rfl, bt Hg1.out.1 hb2⟩
  · have d0 : decide ((60 : Int) < (s.size : Int)) = false := by simp; omega
    have d1 : decide (60 < s.size) = false := decide_eq_false h60
    clear h60
    go_enter Try.func6, Try.ntmps6
    go_wp2_with (refine wpList_box_row rfl _ _ rfl _ rfl ?_)
    apply Stop.go; intro w1 Hg1 Hb1
    go_wp2_with (first | refine wpList_load_arr rfl _ _ rfl _ rfl _ _ Hb1.out _ _ Try.underlying25 (Try.arr256Fits HbL.out) ?_ | refine wpList_alloc_row rfl _ rfl _ Try.blockZero ?_)
    apply Stop.go; intro w2 Hg2 Hb2
    go_wp2_with (refine wpList_store_arr rfl _ _ _ rfl _ _ rfl rfl _ _ Hb2.out (Try.blockFits HbL.out) (by rw [bcells_size, bcells_size, HbL.out, HzL.out]) (oneCell_bcells _) ?_)
    apply Stop.go; intro w3 Ho3 Hb3
    have E3 := Lib.hid (bonly (bt Hg1.out.1 Hg2.out.1) Ho3.out Hg1.out.1.size)
    generalize w1.heap.size = g1 at *
    clear Hb1 Hg1 Hg2 Hb2 Ho3
    go_wp2_with (refine wpList_load_arr rfl _ _ rfl _ rfl _ _ Hb3.out _ _ Try.underlying26 (Try.blockFits HbL.out) ?_)
    refine (HFx.out _).mono ?_; rintro e w4 ⟨rfl, hb4⟩
    have HX4 := Lib.hid (Hb3.out.ext hb4)
    have E4 := Lib.hid (bt E3.out hb4)
    have z4 := Lib.hid (show g1 < w4.heap.size ∧ w.heap.size ≤ w4.heap.size from ⟨HX4.out.lt, E4.out.size⟩)
    clear hb4 Hb3 E3 HFx
    go_wp2_with (refine wpList_alloc_row rfl _ rfl _ Try.blockZero ?_)
    apply Stop.go; intro w5 Hg5 Hb5
    go_wp2_with (refine wpList_store_arr rfl _ _ _ rfl _ _ rfl rfl _ _ Hb5.out (Try.blockFits HYL.out) (by rw [bcells_size, bcells_size, HYL.out, HzL.out]) (oneCell_bcells _) ?_)
    apply Stop.go; intro w6 Ho6 Hb6
    have D6 := Lib.hid (bonly Hg5.out.1 Ho6.out (Nat.le_refl _))
    have HX6 := Lib.hid (HX4.out.ext D6.out)
    have E6 := Lib.hid (bt E4.out D6.out)
    generalize w4.heap.size = g4 at *
    clear Hg5 Hb5 Ho6 D6 HX4 E4
    go_wp2_with (refine wpList_load_arr rfl _ _ rfl _ rfl _ _ HX6.out _ _ Try.underlying26 (Try.blockFits HbL.out) ?_)
    refine (HFn.out _).mono ?_; rintro e w7 ⟨rfl, hb7⟩
    have HX7 := Lib.hid (HX6.out.ext hb7)
    have HY7 := Lib.hid (Hb6.out.ext hb7)
    have E7 := Lib.hid (bt E6.out hb7)
    have z7 := Lib.hid (show g4 < w7.heap.size ∧ w.heap.size ≤ w7.heap.size from ⟨HY7.out.lt, E7.out.size⟩)
    obtain ⟨fa, ft, fc, hF⟩ := fndC_form b s
    rw [hF] at HCn ⊢
    obtain ⟨is, his⟩ : ∃ r, (findS b s).isSome = r := ⟨_, rfl⟩
    rw [his]
    have HI2 := Lib.hid (show (findS Y s).isSome = is by rw [HIs.out, his])
    clear hb7 HX6 Hb6 E6 HFn hF his HIs
    go_wp2_with (refine wpList_alloc_row rfl _ rfl _ Try.slotZero ?_)
    apply Stop.go; intro w8 Hg8 Hb8
    go_wp2_with (refine wpList_store_arr rfl _ _ _ rfl _ #[.int .i64 fa, .string ft, .int .i64 fc] rfl rfl _ _ Hb8.out Try.slotSize rfl (by simp [Value.oneCell']) ?_)
    apply Stop.go; intro w9 Ho9 Hb9
    have D9 := Lib.hid (bonly Hg8.out.1 Ho9.out (Nat.le_refl _))
    have HX9 := Lib.hid (HX7.out.ext D9.out)
    have HY9 := Lib.hid (HY7.out.ext D9.out)
    have E9 := Lib.hid (bt E7.out D9.out)
    generalize w7.heap.size = g7 at *
    clear Hg8 Hb8 Ho9 D9 HX7 HY7 E7
    go_wp2_with (refine wpList_load_arr rfl _ _ rfl _ rfl _ _ HY9.out _ _ Try.underlying26 (Try.blockFits HYL.out) ?_)
    refine (bfind_any Y HYL.out s _).mono ?_; rintro e wa ⟨rfl, hba⟩
    rw [HCn.out, HI2.out]
    have HXa := Lib.hid (HX9.out.ext hba)
    have HYa := Lib.hid (HY9.out.ext hba)
    have HSa := Lib.hid (Hb9.out.ext hba)
    have Ea := Lib.hid (bt E9.out hba)
    have za := Lib.hid (show g7 < wa.heap.size ∧ w.heap.size ≤ wa.heap.size from ⟨HSa.out.lt, Ea.out.size⟩)
    clear hba HX9 HY9 Hb9 E9 HCn HI2
    go_wp2_with (refine wpList_alloc_row rfl _ rfl _ Try.slotZero ?_)
    apply Stop.go; intro wb Hgb Hbb
    go_wp2_with (refine wpList_store_arr rfl _ _ _ rfl _ #[.int .i64 fa, .string ft, .int .i64 fc] rfl rfl _ _ Hbb.out Try.slotSize rfl (by simp [Value.oneCell']) ?_)
    apply Stop.go; intro wc Hoc Hbc
    have Dc := Lib.hid (bonly Hgb.out.1 Hoc.out (Nat.le_refl _))
    have HXc := Lib.hid (HXa.out.ext Dc.out)
    have HYc := Lib.hid (HYa.out.ext Dc.out)
    have HSc := Lib.hid (HSa.out.ext Dc.out)
    have Ec := Lib.hid (bt Ea.out Dc.out)
    generalize wa.heap.size = ga at *
    clear Hgb Hbb Hoc Dc HXa HYa HSa Ea
    have dI : (is == is) = true := by simp
    obtain ⟨n1, hn1⟩ : ∃ n, (listS Y 7).length = n := ⟨_, rfl⟩
    obtain ⟨n2, hn2⟩ : ∃ n, (listS b 7).length = n := ⟨_, rfl⟩
    rw [hn1, hn2] at HLe
    have e1 : decide ((n1 : Int) ≤ (n2 : Int)) = true := by have := HLe.out; simp; omega
    have e2 : decide (n1 ≤ n2) = true := decide_eq_true HLe.out
    have Hn1 := Lib.hid hn1
    have Hn2 := Lib.hid hn2
    clear hn1 hn2
    go_wp2_with fail
    refine WH.start (S := fun w' : World => Blk w' g4 26 (bcells Y) ∧ Blk w' g1 26 (bcells b) ∧ Blk w' g7 43 #[.int .i64 fa, .string ft, .int .i64 fc] ∧ Blk w' ga 43 #[.int .i64 fa, .string ft, .int .i64 fc]) [false, false, false, false, false, false, false, false, false, false, false, false, false, false, false, false, false, false, false, false, false, false, false, false, false, false, false, false, false, false, false] 31 rfl rfl (by kernel_rfl) ⟨HYc.out.ext (bdrew wc 1), HXc.out.ext (bdrew wc 1), HSc.out.ext (bdrew wc 1), Hbc.out.ext (bdrew wc 1)⟩ (fun hSn => ?_); obtain ⟨wS, hwS⟩ : ∃ x, (wc).drew = x := ⟨_, rfl⟩; have HE := Lib.hid (show Below (wc).heap.size (wc) wS from hwS ▸ bdrew wc 1); rw [hwS] at hSn ⊢; clear hwS
    refine WH.tv 0 rfl (fun w' hSw => exec_load_blk _ _ rfl _ rfl _ _ (hSw.1) _ (Try.underlying26) rfl (Try.blockFits HYL.out)) ?_; simp only [setL]
    refine WH.only 1 _ rfl (by kernel_rfl) rfl (fun K hK => ?_)
    go_simp; refine (bright_any Y HYL.out _).mono ?_; rintro e wd ⟨rfl, hbd⟩; go_simp
    rw [HRt.out]
    have HE := Lib.hid (bt HE.out hbd)
    have hSn := And.intro (hSn.1.ext hbd) (And.intro (hSn.2.1.ext hbd) (And.intro (hSn.2.2.1.ext hbd) (hSn.2.2.2.ext hbd))); refine hK _ _ hSn ?_; clear hK; clear K; simp only [setL]
    refine WH.tk 2 ?_; simp only [setL]
    refine WH.tv 3 rfl (fun w' hSw => exec_load_blk _ _ rfl _ rfl _ _ (hSw.1) _ (Try.underlying26) rfl (Try.blockFits HYL.out)) ?_; simp only [setL]
    refine WH.tv 5 rfl (fun w' hSw => exec_load_blk _ _ rfl _ rfl _ _ (hSw.1) _ (Try.underlying26) rfl (Try.blockFits HYL.out)) ?_; simp only [setL]
    refine WH.only 4 _ rfl (by kernel_rfl) rfl (fun K hK => ?_)
    go_simp; refine (bfix_any Y HYL.out _).mono ?_; rintro e we ⟨rfl, hbe⟩; go_simp
    rw [HTw.out]
    have HE := Lib.hid (bt HE.out hbe)
    have hSn := And.intro (hSn.1.ext hbe) (And.intro (hSn.2.1.ext hbe) (And.intro (hSn.2.2.1.ext hbe) (hSn.2.2.2.ext hbe))); refine hK _ _ hSn ?_; clear hK; clear K; simp only [setL]
    refine WH.tv 6 rfl (fun w' hSw => exec_eql_arr _ _ _ _ rfl (by kernel_rfl) _ _ Try.underlying26 Try.underlying5 Try.byteSize Y Y rfl rfl HYL.out HYL.out true (by simp)) ?_; simp only [setL]
    refine WH.tk 7 ?_; simp only [setL]
    refine WH.tk 8 ?_; simp only [setL]
    refine WH.tv 9 rfl (fun w' hSw => exec_load_blk _ _ rfl _ rfl _ _ (hSw.2.2.1) _ (Try.underlying43) rfl (Try.slotSize)) ?_; simp only [setL]
    refine WH.tv 10 rfl (fun w' hSw => exec_load_blk _ _ rfl _ rfl _ _ (hSw.2.2.2) _ (Try.underlying43) rfl (Try.slotSize)) ?_; simp only [setL]
    refine WH.tv 11 rfl (fun w' hSw => exec_eql_agg _ _ _ _ _ rfl (by kernel_rfl) _ _ rfl rfl _ (eql_slot_same fa fc ft _)) ?_; simp only [setL]
    refine WH.tk 12 ?_; simp only [setL]
    refine WH.tk 13 ?_; simp only [setL]
    refine WH.tk 14 ?_; simp only [setL]
    refine WH.tk 15 ?_; simp only [setL]
    refine WH.tk 16 ?_; simp only [setL]
    refine WH.tk 17 ?_; simp only [setL]
    refine WH.tk 18 ?_; simp only [setL]
    refine WH.tv 19 rfl (fun w' hSw => exec_load_blk _ _ rfl _ rfl _ _ (hSw.1) _ (Try.underlying26) rfl (Try.blockFits HYL.out)) ?_; simp only [setL]
    refine WH.tv 22 rfl (fun w' hSw => exec_load_blk _ _ rfl _ rfl _ _ (hSw.2.1) _ (Try.underlying26) rfl (Try.blockFits HbL.out)) ?_; simp only [setL]
    refine WH.only 20 _ rfl (by kernel_rfl) rfl (fun K hK => ?_)
    go_simp; refine (blist_any Y HYL.out _).mono ?_; rintro e wf ⟨vf, rfl, hvf, hbf⟩; go_simp
    obtain ⟨Af, cf, rfl, _, _, _⟩ := hvf.read
    rw [srows_len, Hn1.out]
    have HE := Lib.hid (bt HE.out hbf)
    clear hvf
    have hSn := And.intro (hSn.1.ext hbf) (And.intro (hSn.2.1.ext hbf) (And.intro (hSn.2.2.1.ext hbf) (hSn.2.2.2.ext hbf))); refine hK _ _ hSn ?_; clear hK; clear K; simp only [setL]
    refine WH.tk 21 ?_; simp only [setL]
    refine WH.only 23 _ rfl (by kernel_rfl) rfl (fun K hK => ?_)
    go_simp; refine (HLs.out _).mono ?_; rintro e wg ⟨vg, rfl, hvg, hbg⟩; go_simp
    obtain ⟨Ag, cg, rfl, _, _, _⟩ := hvg.read
    rw [srows_len, Hn2.out]
    have HE := Lib.hid (bt HE.out hbg)
    clear hvg
    have hSn := And.intro (hSn.1.ext hbg) (And.intro (hSn.2.1.ext hbg) (And.intro (hSn.2.2.1.ext hbg) (hSn.2.2.2.ext hbg))); refine hK _ _ hSn ?_; clear hK; clear K; simp only [setL]
    refine WH.tk 24 ?_; simp only [setL]
    refine WH.tk 25 ?_; simp only [setL]
    refine WH.tk 26 ?_; simp only [setL]
    refine WH.tk 27 ?_; simp only [setL]
    refine WH.only 28 _ rfl (by kernel_rfl) rfl (fun K hK => ?_)
    go_simp; refine (works18_any _).mono ?_; rintro e wh ⟨rfl, hbh⟩; go_simp
    have HE := Lib.hid (bt HE.out hbh)
    have hSn := And.intro (hSn.1.ext hbh) (And.intro (hSn.2.1.ext hbh) (And.intro (hSn.2.2.1.ext hbh) (hSn.2.2.2.ext hbh))); refine hK _ _ hSn ?_; clear hK; clear K; simp only [setL]
    refine WH.tk 29 ?_; simp only [setL]
    refine WH.tk 30 ?_; simp only [setL]
    refine WH.done (by kernel_rfl) ?_
    go_wp2_with fail
    go_ret
    exact ⟨rfl, bt Ec.out HE.out⟩

end Go.Proofs.Ytmojappbgghpbaa
