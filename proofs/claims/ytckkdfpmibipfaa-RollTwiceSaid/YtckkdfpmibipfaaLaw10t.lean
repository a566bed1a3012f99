/-
  The walk of RollTwice.
-/
import Derived.Test.YtckkdfpmibipfaaLw10w
import Derived.Test.YtckkdfpmibipfaaLw10b
import Derived.Test.YtckkdfpmibipfaaLw9a
namespace Go.Proofs.Ytckkdfpmibipfaa
open Go.RowKit

set_option maxRecDepth 100000 in
set_option maxHeartbeats 16000000 in
theorem rollTwice_any (L : List UInt8) (hL : L.length = 256) (A : Option Addr) (n cap : Nat) (l : List Cg) (hn : l.length = n) (hcap : n ≤ cap) (hm : cap ≤ maxLen) (block : Int) (w : World) (hr : RdL RdC w A 5 l) :
    Calls Try.prog 6 #[.agg (bcells L), .slice A n cap, .int .i64 block] w fun e w' => e = .returned (.bool true) ∧ Below w.heap.size w w' := by
  have HL := Lib.hid hL
  have Hn := Lib.hid hn
  have Hr := Lib.hid hr
  clear hL hn hr
  go_enter Try.func6, Try.ntmps6
  go_wp2_with (refine wpList_box_row rfl _ _ rfl _ rfl ?_)
  apply Stop.go; intro w2 Hg1 Hb1
  have Hw2 := Lib.hid Hg1.out.1
  have Hx2 := Lib.hid Hb1.out
  have Hr2 := Lib.hid (Hr.out.below Hw2.out)
  clear Hg1 Hb1
  have HM := Lib.hid (rmuchc_any 30 (by decide) A n cap l Hn.out (Nat.le_trans hcap hm) w2 Hr2.out)
  cases hmu : muchC l 30
  rotate_left
  · rw [hmu] at HM
    clear hmu
    go_wp2_with fail
    refine (HM.out).mono ?_; rintro e w2 ⟨rfl, rfl⟩
    go_wp2_with fail
    refine (works10_any _).mono ?_; rintro e w3 ⟨rfl, hb3⟩
    have Hb3 := Lib.hid (bt Hw2.out hb3)
    clear hb3
    go_wp2_with fail
    go_ret
    exact ⟨rfl, Hb3.out⟩
  · obtain ⟨hl, hd⟩ := muchC_no hmu
    rw [hmu] at HM
    clear hmu
    have Hl := Lib.hid (show n ≤ 4096 by have := Hn.out; omega)
    have HD := Lib.hid hd
    have HD4 := Lib.hid (show ∀ c ∈ l, c.p.data.length ≤ 4096 ∧ c.needs.length ≤ 4096 from fun c hc => by have := HD.out c hc; omega)
    clear hl hd
    go_wp2_with fail
    refine (HM.out).mono ?_; rintro e w2 ⟨rfl, rfl⟩
    clear HM
    go_wp2_with fail
    refine (to9_any A n cap l Hn.out Hl.out HD.out _ Hr2.out).mono ?_; rintro e w3 ⟨A3, n3, c3, rfl, e3, q3, r3, hr3, hb3⟩
    have HX := Lib.hid (show l.length = n3 ∧ n3 ≤ 4096 from ⟨e3, by rw [← e3, Hn.out]; exact Hl.out⟩)
    have HrX3 := Lib.hid hr3
    have Hw3 := Lib.hid (bt Hw2.out hb3)
    have Hx3 := Lib.hid (Hx2.out.ext hb3)
    clear e3 q3 r3 hr3 hb3
    go_wp2_with (refine wpList_load_arr rfl _ _ rfl _ rfl _ _ Hx3.out _ _ Try.underlying22 (Try.arrFits HL.out) ?_)
    refine (pwrite_any L HL.out A3 n3 c3 l HX.out.1 HX.out.2 HD4.out block _ HrX3.out).mono ?_; rintro e w4 ⟨AT, nT, cT, AI, nI, cI, rfl, ⟨e1, e2, e3, e4⟩, -, h5⟩
    have HV := Lib.hid (imageC_len HL.out l block)
    have HDT := Lib.hid (show ∀ c ∈ leftC l block, c.p.data.length ≤ 4096 ∧ c.needs.length ≤ 4096 from fun c hc => HD4.out c (leftC_mem hc))
    have HLen := Lib.hid (leftC_len l block)
    have Him := Lib.hid (image_left (imageC L l block) l block)
    have Hrd := Lib.hid (ready_left (l := l) (block := block))
    have Hle := Lib.hid (left_left (l := l) (block := block))
    have HHe := Lib.hid (held_left (l := l) (block := block))
    have HAll := Lib.hid (fun h => image_all (l := l) (block := block) L h)
    generalize imageC L l block = V at *
    generalize leftC l block = T at *
    have HT := Lib.hid (show T.length = nT ∧ nT ≤ 4096 from ⟨e1, by have := HLen.out; have := HX.out; omega⟩)
    have Hw4 := Lib.hid (bt Hw3.out h5)
    have Hx4 := Lib.hid (Hx3.out.ext h5)
    have HrX4 := Lib.hid (HrX3.out.below h5)
    have HrT4 := Lib.hid e4.plainHi
    clear e1 e2 e3 e4 h5
    go_wp2_with (refine wpList_alloc_row rfl _ rfl _ Try.blockZero ?_)
    apply Stop.go; intro w5 Hg5 Hb5
    go_wp2_with (refine wpList_store_arr rfl _ _ _ rfl _ (bcells V) rfl rfl _ _ Hb5.out (Try.blockFits HV.out) (by rw [bcells_size, bcells_size, HV.out, zeros_len]) (oneCell_bcells _) ?_)
    apply Stop.go; intro w6 Ho6 Hb6
    have D6 := Lib.hid (bonly Hg5.out.1 Ho6.out (Nat.le_refl _))
    have Hw6 := Lib.hid (bt Hw4.out D6.out)
    have Hx6 := Lib.hid (Hx4.out.ext D6.out)
    have HrX6 := Lib.hid (HrX4.out.below D6.out)
    have HrT6 := Lib.hid (HrT4.out.below D6.out)
    clear Hg5 Hb5 Ho6 D6 Hw2 Hx2 Hw3 Hx3 HrX3 Hw4 Hx4 HrX4 HrT4 HD
    go_wp2_with (refine wpList_load_arr rfl _ _ rfl _ rfl _ _ Hb6.out _ _ Try.underlying28 (Try.blockFits HV.out) ?_)
    refine (pwrite_any V HV.out AT nT cT T HT.out.1 HT.out.2 HDT.out block _ HrT6.out).mono ?_; rintro e w7 ⟨AU, nU, cU, AJ, nJ, cJ, rfl, ⟨e1, e2, e3, -⟩, ⟨g1, g2, g3, -⟩, h5⟩
    rw [Him.out]
    rw [Hle.out] at e1
    rw [Hrd.out] at g1
    obtain rfl : nT = nU := HT.out.1.symm.trans e1
    obtain rfl : nJ = 0 := g1.symm
    have Hw7 := Lib.hid (bt Hw6.out h5)
    have Hx7 := Lib.hid (Hx6.out.ext h5)
    have Hy7 := Lib.hid (Hb6.out.ext h5)
    have HrX7 := Lib.hid (HrX6.out.below h5)
    have HrT7 := Lib.hid (HrT6.out.below h5)
    clear e1 e2 e3 g1 g2 g3 h5 Hw6 Hx6 HrX6 HrT6
    go_wp2_with (refine wpList_alloc_row rfl _ rfl _ Try.blockZero ?_)
    apply Stop.go; intro w8 Hg8 Hb8
    go_wp2_with (refine wpList_store_arr rfl _ _ _ rfl _ (bcells V) rfl rfl _ _ Hb8.out (Try.blockFits HV.out) (by rw [bcells_size, bcells_size, HV.out, zeros_len]) (oneCell_bcells _) ?_)
    apply Stop.go; intro w9 Ho9 Hb9
    have D9 := Lib.hid (bonly Hg8.out.1 Ho9.out (Nat.le_refl _))
    have Hw9 := Lib.hid (bt Hw7.out D9.out)
    have Hx9 := Lib.hid (Hx7.out.ext D9.out)
    have Hy9 := Lib.hid (Hy7.out.ext D9.out)
    have HrX9 := Lib.hid (HrX7.out.below D9.out)
    have HrT9 := Lib.hid (HrT7.out.below D9.out)
    clear Hg8 Hb8 Ho9 D9 Hw7 Hx7 Hy7 HrX7 HrT7
    go_wp2_with (first | refine wpList_load_arr rfl _ _ rfl _ rfl _ _ Hb9.out _ _ Try.underlying28 (Try.blockFits HV.out) ?_ | refine wpList_load_arr rfl _ _ rfl _ rfl _ _ Hy9.out _ _ Try.underlying28 (Try.blockFits HV.out) ?_ | refine wpList_neq_arr rfl _ _ _ _ rfl (by kernel_rfl) _ _ Try.underlying28 Try.underlying5 Try.byteSize V V rfl rfl HV.out HV.out false (by simp) ?_)
    refine (pheld_any A3 n3 c3 l HX.out.1 HX.out.2 block _ HrX9.out).mono ?_; rintro e wF ⟨AH, nH, cH, rfl, g1, g2, g3, g4, h5⟩
    generalize heldC l block = H at *
    have HH := Lib.hid (And.intro g1 (And.intro g2 (And.intro g3 g4)))
    have HwF := Lib.hid (bt Hw9.out h5)
    have Hx := Lib.hid (Hx9.out.ext h5)
    have Hy := Lib.hid (Hy9.out.ext h5)
    have HrX := Lib.hid (HrX9.out.below h5)
    have HrT := Lib.hid (HrT9.out.below h5)
    clear g1 g2 g3 g4 h5 Hw9 Hx9 Hy9 HrX9 HrT9 Hb6 Hb9
    by_cases h0 : 0 < nH
    · have d0 : decide ((0 : Int) < nH) = true := decide_eq_true (by omega)
      have d1 : decide (0 < nH) = true := decide_eq_true h0
      go_wp2_with fail
      refine WH.start (S := fun w' : World => Below wF.heap.size wF w') (List.replicate 22 false) 22 rfl rfl (by kernel_rfl) (bdrew wF 1) (fun hSn => ?_)
      simp only [List.replicate]
      refine WH.take 0 _ ?_ rfl (by kernel_rfl) (fun _ _ _ h => h) rfl (by assumption) ?_ ?_; rotate_left; (focus (intro w hSw; (try dsimp only at hSw); (first | (go_simp; done) | (go_simp; with_reducible rfl)))); simp only [Act.put, List.setIfInBounds_toArray, List.set_cons_zero, List.set_cons_succ]
      refine WH.take 1 _ ?_ rfl (by kernel_rfl) (fun _ _ _ h => h) rfl (by assumption) ?_ ?_; rotate_left; (focus (intro w hSw; (try dsimp only at hSw); (first | (go_simp; done) | (go_simp; with_reducible rfl)))); simp only [Act.put, List.setIfInBounds_toArray, List.set_cons_zero, List.set_cons_succ]
      refine WH.take 2 _ ?_ rfl (by kernel_rfl) (fun _ _ _ h => h) rfl (by assumption) ?_ ?_; rotate_left; (focus (intro w hSw; (try dsimp only at hSw); (first | (go_simp; done) | (go_simp; with_reducible rfl)))); simp only [Act.put, List.setIfInBounds_toArray, List.set_cons_zero, List.set_cons_succ]
      refine WH.take 3 _ ?_ rfl (by kernel_rfl) (fun _ _ _ h => h) rfl (by assumption) ?_ ?_; rotate_left; (focus (intro w hSw; (try dsimp only at hSw); (first | (go_simp; done) | (go_simp; with_reducible rfl)))); simp only [Act.put, List.setIfInBounds_toArray, List.set_cons_zero, List.set_cons_succ]
      refine WH.skip 4 _ rfl (by kernel_rfl) (fun _ _ _ h => h) rfl (by assumption) ?_; simp only [Act.put, List.setIfInBounds_toArray, List.set_cons_zero, List.set_cons_succ]
      refine WH.skip 5 _ rfl (by kernel_rfl) (fun _ _ _ h => h) rfl (by assumption) ?_; simp only [Act.put, List.setIfInBounds_toArray, List.set_cons_zero, List.set_cons_succ]
      refine WH.skip 6 _ rfl (by kernel_rfl) (fun _ _ _ h => h) rfl (by assumption) ?_; simp only [Act.put, List.setIfInBounds_toArray, List.set_cons_zero, List.set_cons_succ]
      refine WH.skip 7 _ rfl (by kernel_rfl) (fun _ _ _ h => h) rfl (by assumption) ?_; simp only [Act.put, List.setIfInBounds_toArray, List.set_cons_zero, List.set_cons_succ]
      refine WH.onlySkip 8 _ rfl (by kernel_rfl) rfl (by assumption) ?_; simp only [Act.put, List.setIfInBounds_toArray, List.set_cons_zero, List.set_cons_succ]
      refine WH.skip 9 _ rfl (by kernel_rfl) (fun _ _ _ h => h) rfl (by assumption) ?_; simp only [Act.put, List.setIfInBounds_toArray, List.set_cons_zero, List.set_cons_succ]
      refine WH.take 10 _ ?_ rfl (by kernel_rfl) (fun _ _ _ h => h) rfl (by assumption) ?_ ?_; rotate_left; (focus (intro w hSw; (try dsimp only at hSw); (first | (go_simp; done) | (go_simp; with_reducible rfl)))); simp only [Act.put, List.setIfInBounds_toArray, List.set_cons_zero, List.set_cons_succ]
      refine WH.take 11 _ ?_ rfl (by kernel_rfl) (fun _ _ _ h => h) rfl (by assumption) ?_ ?_; rotate_left; (focus (intro w hSw; (try dsimp only at hSw); (first | (go_simp; done) | (go_simp; with_reducible rfl)))); simp only [Act.put, List.setIfInBounds_toArray, List.set_cons_zero, List.set_cons_succ]
      refine WH.take 12 _ ?_ rfl (by kernel_rfl) (fun _ _ _ h => h) rfl (by assumption) ?_ ?_; rotate_left; (focus (intro w hSw; (try dsimp only at hSw); (first | (go_simp; done) | (go_simp; with_reducible rfl)))); simp only [Act.put, List.setIfInBounds_toArray, List.set_cons_zero, List.set_cons_succ]
      refine WH.take 13 _ ?_ rfl (by kernel_rfl) (fun _ _ _ h => h) rfl (by assumption) ?_ ?_; rotate_left; (focus (intro w hSw; (try dsimp only at hSw); (first | (go_simp; done) | (go_simp; with_reducible rfl)))); simp only [Act.put, List.setIfInBounds_toArray, List.set_cons_zero, List.set_cons_succ]
      refine WH.take 15 _ ?_ rfl (by kernel_rfl) (fun _ _ _ h => h) rfl (by assumption) ?_ ?_; rotate_left; (focus (intro w hSw; (try dsimp only at hSw); (first | (go_simp; done) | (go_simp; with_reducible rfl)))); simp only [Act.put, List.setIfInBounds_toArray, List.set_cons_zero, List.set_cons_succ]
      refine WH.only 14 _ rfl (by kernel_rfl) rfl (fun K hK => ?_); go_simp; refine (pheld_any AT nT cT T HT.out.1 HT.out.2 block _ (HrT.out.below hSn)).mono ?_; rintro e wb ⟨A5, n5, c5, rfl, e5, q5, r5, hr5, hbb⟩; go_simp
      rw [HHe.out] at e5 hr5
      have hSn := bt hSn hbb; refine hK _ _ hSn ?_; clear hK; clear K; simp only [List.set_cons_zero, List.set_cons_succ]
      refine WH.only 16 _ rfl (by kernel_rfl) rfl (fun K hK => ?_); go_simp; refine (ints_any A5 n5 c5 H e5 AH nH cH H HH.out.1 (Nat.le_trans q5 r5) (Nat.le_trans HH.out.2.1 HH.out.2.2.1) _ hr5 (HH.out.2.2.2.below hSn)).mono ?_; rintro e wc ⟨rfl, kq, rfl⟩; go_simp
      have hSn := bt hSn (bdrew _ kq); refine hK _ _ hSn ?_; clear hK; clear K; simp only [List.set_cons_zero, List.set_cons_succ]
      refine WH.take 17 _ ?_ rfl (by kernel_rfl) (fun _ _ _ h => h) rfl (by assumption) ?_ ?_; rotate_left; (focus (intro w hSw; (try dsimp only at hSw); (first | (go_simp; done) | (go_simp; with_reducible rfl)))); simp only [Act.put, List.setIfInBounds_toArray, List.set_cons_zero, List.set_cons_succ]
      refine WH.take 18 _ ?_ rfl (by kernel_rfl) (fun _ _ _ h => h) rfl (by assumption) ?_ ?_; rotate_left; (focus (intro w hSw; (try dsimp only at hSw); (first | (go_simp; done) | (go_simp; with_reducible rfl)))); simp only [Act.put, List.setIfInBounds_toArray, List.set_cons_zero, List.set_cons_succ]
      refine WH.only 19 _ rfl (by kernel_rfl) rfl (fun K hK => ?_); go_simp; refine (works10_any _).mono ?_; rintro e wd ⟨rfl, hbd⟩; go_simp
      have hSn := bt hSn hbd; refine hK _ _ hSn ?_; clear hK; clear K; simp only [List.set_cons_zero, List.set_cons_succ]
      refine WH.take 20 _ ?_ rfl (by kernel_rfl) (fun _ _ _ h => h) rfl (by assumption) ?_ ?_; rotate_left; (focus (intro w hSw; (try dsimp only at hSw); (first | (go_simp; done) | (go_simp; with_reducible rfl)))); simp only [Act.put, List.setIfInBounds_toArray, List.set_cons_zero, List.set_cons_succ]
      refine WH.take 21 _ ?_ rfl (by kernel_rfl) (fun _ _ _ h => h) rfl (by assumption) ?_ ?_; rotate_left; (focus (intro w hSw; (try dsimp only at hSw); (first | (go_simp; done) | (go_simp; with_reducible rfl)))); simp only [Act.put, List.setIfInBounds_toArray, List.set_cons_zero, List.set_cons_succ]
      refine WH.done (by kernel_rfl) ?_
      have Hfin := Lib.hid (bt HwF.out hSn)
      clear hSn
      go_wp2_with fail
      go_ret
      exact ⟨rfl, Hfin.out⟩
    · have d0 : decide ((0 : Int) < nH) = false := decide_eq_false (by omega)
      have d1 : decide (0 < nH) = false := decide_eq_false h0
      have HE := Lib.hid (HAll.out (List.eq_nil_of_length_eq_zero (by have := HH.out.1; omega)))
      clear h0
      go_wp2_with fail
      refine WH.start (S := fun w' : World => Below wF.heap.size wF w') (List.replicate 22 false) 22 rfl rfl (by kernel_rfl) (bdrew wF 1) (fun hSn => ?_)
      simp only [List.replicate]
      refine WH.take 0 _ ?_ rfl (by kernel_rfl) (fun _ _ _ h => h) rfl (by assumption) ?_ ?_; rotate_left; (focus (intro w hSw; (try dsimp only at hSw); (first | (go_simp; done) | (go_simp; with_reducible rfl)))); simp only [Act.put, List.setIfInBounds_toArray, List.set_cons_zero, List.set_cons_succ]
      refine WH.take 1 _ ?_ rfl (by kernel_rfl) (fun _ _ _ h => h) rfl (by assumption) ?_ ?_; rotate_left; (focus (intro w hSw; (try dsimp only at hSw); (first | (go_simp; done) | (go_simp; with_reducible rfl)))); simp only [Act.put, List.setIfInBounds_toArray, List.set_cons_zero, List.set_cons_succ]
      refine WH.take 2 _ ?_ rfl (by kernel_rfl) (fun _ _ _ h => h) rfl (by assumption) ?_ ?_; rotate_left; (focus (intro w hSw; (try dsimp only at hSw); (first | (go_simp; done) | (go_simp; with_reducible rfl)))); simp only [Act.put, List.setIfInBounds_toArray, List.set_cons_zero, List.set_cons_succ]
      refine WH.take 3 _ ?_ rfl (by kernel_rfl) (fun _ _ _ h => h) rfl (by assumption) ?_ ?_; rotate_left; (focus (intro w hSw; (try dsimp only at hSw); (first | (go_simp; done) | (go_simp; with_reducible rfl)))); simp only [Act.put, List.setIfInBounds_toArray, List.set_cons_zero, List.set_cons_succ]
      refine WH.take 4 _ _ rfl (by kernel_rfl) (fun _ _ _ h => h) rfl (by assumption) (fun w' hSw => run_load_arr _ _ rfl _ rfl _ _ (Hy.out.ext hSw) _ _ (Try.underlying28) (Try.blockFits HV.out)) ?_; simp only [Act.put, List.setIfInBounds_toArray, List.set_cons_zero, List.set_cons_succ]
      refine WH.take 5 _ _ rfl (by kernel_rfl) (fun _ _ _ h => h) rfl (by assumption) (fun w' hSw => run_load_arr _ _ rfl _ rfl _ _ (Hx.out.ext hSw) _ _ (Try.underlying22) (Try.arrFits HL.out)) ?_; simp only [Act.put, List.setIfInBounds_toArray, List.set_cons_zero, List.set_cons_succ]
      refine WH.take 6 _ ?_ rfl (by kernel_rfl) (fun _ _ _ h => h) rfl (by assumption) ?_ ?_; rotate_left; (focus (intro w hSw; (try dsimp only at hSw); (first | (go_simp; done) | (go_simp; with_reducible rfl)))); simp only [Act.put, List.setIfInBounds_toArray, List.set_cons_zero, List.set_cons_succ]
      refine WH.take 7 _ ?_ rfl (by kernel_rfl) (fun _ _ _ h => h) rfl (by assumption) ?_ ?_; rotate_left; (focus (intro w hSw; (try dsimp only at hSw); (first | (go_simp; done) | (go_simp; with_reducible rfl)))); simp only [Act.put, List.setIfInBounds_toArray, List.set_cons_zero, List.set_cons_succ]
      refine WH.only 8 _ rfl (by kernel_rfl) rfl (fun K hK => ?_); go_simp; refine (pview_any L HL.out A3 n3 c3 l HX.out.1 HX.out.2 HD4.out block _ (HrX.out.below hSn)).mono ?_; rintro e wa ⟨rfl, hba⟩; go_simp
      have hSn := bt hSn hba; refine hK _ _ hSn ?_; clear hK; clear K; simp only [List.set_cons_zero, List.set_cons_succ]
      refine WH.take 9 _ _ rfl (by kernel_rfl) (fun _ _ _ h => h) rfl (by assumption) (fun w' hSw => exec_eql_arr _ _ _ _ rfl (by kernel_rfl) _ _ Try.underlying28 Try.underlying5 Try.byteSize V (viewC L l block) rfl rfl HV.out (viewC_len HL.out l block) true (by rw [HE.out]; simp)) ?_; simp only [Act.put, List.setIfInBounds_toArray, List.set_cons_zero, List.set_cons_succ]
      refine WH.take 10 _ ?_ rfl (by kernel_rfl) (fun _ _ _ h => h) rfl (by assumption) ?_ ?_; rotate_left; (focus (intro w hSw; (try dsimp only at hSw); (first | (go_simp; done) | (go_simp; with_reducible rfl)))); simp only [Act.put, List.setIfInBounds_toArray, List.set_cons_zero, List.set_cons_succ]
      refine WH.take 11 _ ?_ rfl (by kernel_rfl) (fun _ _ _ h => h) rfl (by assumption) ?_ ?_; rotate_left; (focus (intro w hSw; (try dsimp only at hSw); (first | (go_simp; done) | (go_simp; with_reducible rfl)))); simp only [Act.put, List.setIfInBounds_toArray, List.set_cons_zero, List.set_cons_succ]
      refine WH.take 12 _ ?_ rfl (by kernel_rfl) (fun _ _ _ h => h) rfl (by assumption) ?_ ?_; rotate_left; (focus (intro w hSw; (try dsimp only at hSw); (first | (go_simp; done) | (go_simp; with_reducible rfl)))); simp only [Act.put, List.setIfInBounds_toArray, List.set_cons_zero, List.set_cons_succ]
      refine WH.take 13 _ ?_ rfl (by kernel_rfl) (fun _ _ _ h => h) rfl (by assumption) ?_ ?_; rotate_left; (focus (intro w hSw; (try dsimp only at hSw); (first | (go_simp; done) | (go_simp; with_reducible rfl)))); simp only [Act.put, List.setIfInBounds_toArray, List.set_cons_zero, List.set_cons_succ]
      refine WH.take 15 _ ?_ rfl (by kernel_rfl) (fun _ _ _ h => h) rfl (by assumption) ?_ ?_; rotate_left; (focus (intro w hSw; (try dsimp only at hSw); (first | (go_simp; done) | (go_simp; with_reducible rfl)))); simp only [Act.put, List.setIfInBounds_toArray, List.set_cons_zero, List.set_cons_succ]
      refine WH.only 14 _ rfl (by kernel_rfl) rfl (fun K hK => ?_); go_simp; refine (pheld_any AT nT cT T HT.out.1 HT.out.2 block _ (HrT.out.below hSn)).mono ?_; rintro e wb ⟨A5, n5, c5, rfl, e5, q5, r5, hr5, hbb⟩; go_simp
      rw [HHe.out] at e5 hr5
      have hSn := bt hSn hbb; refine hK _ _ hSn ?_; clear hK; clear K; simp only [List.set_cons_zero, List.set_cons_succ]
      refine WH.only 16 _ rfl (by kernel_rfl) rfl (fun K hK => ?_); go_simp; refine (ints_any A5 n5 c5 H e5 AH nH cH H HH.out.1 (Nat.le_trans q5 r5) (Nat.le_trans HH.out.2.1 HH.out.2.2.1) _ hr5 (HH.out.2.2.2.below hSn)).mono ?_; rintro e wc ⟨rfl, kq, rfl⟩; go_simp
      have hSn := bt hSn (bdrew _ kq); refine hK _ _ hSn ?_; clear hK; clear K; simp only [List.set_cons_zero, List.set_cons_succ]
      refine WH.take 17 _ ?_ rfl (by kernel_rfl) (fun _ _ _ h => h) rfl (by assumption) ?_ ?_; rotate_left; (focus (intro w hSw; (try dsimp only at hSw); (first | (go_simp; done) | (go_simp; with_reducible rfl)))); simp only [Act.put, List.setIfInBounds_toArray, List.set_cons_zero, List.set_cons_succ]
      refine WH.take 18 _ ?_ rfl (by kernel_rfl) (fun _ _ _ h => h) rfl (by assumption) ?_ ?_; rotate_left; (focus (intro w hSw; (try dsimp only at hSw); (first | (go_simp; done) | (go_simp; with_reducible rfl)))); simp only [Act.put, List.setIfInBounds_toArray, List.set_cons_zero, List.set_cons_succ]
      refine WH.only 19 _ rfl (by kernel_rfl) rfl (fun K hK => ?_); go_simp; refine (works10_any _).mono ?_; rintro e wd ⟨rfl, hbd⟩; go_simp
      have hSn := bt hSn hbd; refine hK _ _ hSn ?_; clear hK; clear K; simp only [List.set_cons_zero, List.set_cons_succ]
      refine WH.take 20 _ ?_ rfl (by kernel_rfl) (fun _ _ _ h => h) rfl (by assumption) ?_ ?_; rotate_left; (focus (intro w hSw; (try dsimp only at hSw); (first | (go_simp; done) | (go_simp; with_reducible rfl)))); simp only [Act.put, List.setIfInBounds_toArray, List.set_cons_zero, List.set_cons_succ]
      refine WH.take 21 _ ?_ rfl (by kernel_rfl) (fun _ _ _ h => h) rfl (by assumption) ?_ ?_; rotate_left; (focus (intro w hSw; (try dsimp only at hSw); (first | (go_simp; done) | (go_simp; with_reducible rfl)))); simp only [Act.put, List.setIfInBounds_toArray, List.set_cons_zero, List.set_cons_succ]
      refine WH.done (by kernel_rfl) ?_
      have Hfin := Lib.hid (bt HwF.out hSn)
      clear hSn
      go_wp2_with fail
      go_ret
      exact ⟨rfl, Hfin.out⟩

end Go.Proofs.Ytckkdfpmibipfaa
