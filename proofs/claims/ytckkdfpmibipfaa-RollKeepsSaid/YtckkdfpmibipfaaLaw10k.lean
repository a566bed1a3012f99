/-
  The walk of RollKeeps.
-/
import Derived.Test.YtckkdfpmibipfaaLw10w
import Derived.Test.YtckkdfpmibipfaaLw10b
import Derived.Test.YtckkdfpmibipfaaLw9a
namespace Go.Proofs.Ytckkdfpmibipfaa
open Go.RowKit

set_option maxRecDepth 100000 in
set_option maxHeartbeats 16000000 in
theorem rollKeeps_any (L : List UInt8) (hL : L.length = 256) (A : Option Addr) (n cap : Nat) (l : List Cg) (hn : l.length = n) (hcap : n ≤ cap) (hm : cap ≤ maxLen) (b0 b1 : Int) (w : World) (hr : RdL RdC w A 5 l) :
    Calls Try.prog 5 #[.agg (bcells L), .slice A n cap, .agg #[.int .i64 b0, .int .i64 b1]] w fun e w' => e = .returned (.bool true) ∧ Below w.heap.size w w' := by
  have HL := Lib.hid hL
  have Hn := Lib.hid hn
  have Hr := Lib.hid hr
  clear hL hn hr
  go_enter Try.func5, Try.ntmps5
  go_wp2_with (refine wpList_box_row rfl _ _ rfl _ rfl ?_)
  apply Stop.go; intro w1 Hg1 Hb1
  go_wp2_with (refine wpList_box_row rfl _ _ rfl _ rfl ?_)
  apply Stop.go; intro w2 Hg2 Hb2
  have Hw2 := Lib.hid (bt Hg1.out.1 Hg2.out.1)
  have Hx2 := Lib.hid (Hb1.out.ext Hg2.out.1)
  have HM := Lib.hid (rmuchc_any 30 (by decide) A n cap l Hn.out (Nat.le_trans hcap hm) w2 (Hr.out.below Hw2.out))
  cases hmu : muchC l 30
  rotate_left
  · rw [hmu] at HM
    clear hmu
    go_wp2_with fail
    refine (HM.out).mono ?_; rintro e w2 ⟨rfl, rfl⟩
    go_wp2_with fail
    refine (works10_any _).mono ?_; rintro e w3 ⟨rfl, hb3⟩
    have Hb3 := Lib.hid (bt Hw2.out hb3)
    clear hb3
    go_wp2_with fail
    go_ret
    exact ⟨rfl, Hb3.out⟩
  · obtain ⟨hl, hd⟩ := muchC_no hmu
    rw [hmu] at HM
    clear hmu
    have Hl := Lib.hid (show n ≤ 4096 by have := Hn.out; omega)
    have HD := Lib.hid hd
    have HD4 := Lib.hid (show ∀ c ∈ l, c.p.data.length ≤ 4096 ∧ c.needs.length ≤ 4096 from fun c hc => by have := HD.out c hc; omega)
    clear hl hd
    go_wp2_with fail
    refine (HM.out).mono ?_; rintro e w2 ⟨rfl, rfl⟩
    go_wp2_with fail
    refine (to9_any A n cap l Hn.out Hl.out HD.out _ (Hr.out.below Hw2.out)).mono ?_; rintro e w3 ⟨A3, n3, c3, rfl, e3, q3, r3, hr3, hb3⟩
    have HX := Lib.hid (show l.length = n3 ∧ n3 ≤ 4096 from ⟨e3, by rw [← e3, Hn.out]; exact Hl.out⟩)
    have HrX3 := Lib.hid hr3
    have Hw3 := Lib.hid (bt Hw2.out hb3)
    have Hx3 := Lib.hid (Hx2.out.ext hb3)
    have Hz3 := Lib.hid (Hb2.out.ext hb3)
    clear e3 q3 r3 hr3 hb3
    have c0 : w3.cell? ⟨w1.heap.size, 0, none⟩ = some (.int .i64 b0) := Hz3.out.cell 0
    go_wp2_with (refine wpList_load_arr rfl _ _ rfl _ rfl _ _ Hx3.out _ _ Try.underlying22 (Try.arrFits HL.out) ?_)
    refine (pwrite_any L HL.out A3 n3 c3 l HX.out.1 HX.out.2 HD4.out b0 _ HrX3.out).mono ?_; rintro e w4 ⟨AT, nT, cT, AI, nI, cI, rfl, ⟨e1, e2, e3, e4⟩, ⟨g1, g2, g3, g4⟩, h5⟩
    have HV := Lib.hid (imageC_len HL.out l b0)
    have HK := Lib.hid (view_keeps HL.out l b0)
    have HOt0 := Lib.hid (fun (h : b1 ≠ b0) => view_other L l h)
    have HDT := Lib.hid (show ∀ c ∈ leftC l b0, c.p.data.length ≤ 4096 ∧ c.needs.length ≤ 4096 from fun c hc => HD4.out c (leftC_mem hc))
    have HLen := Lib.hid (leftC_len l b0)
    generalize imageC L l b0 = V at *
    generalize leftC l b0 = T at *
    have HT := Lib.hid (show T.length = nT ∧ nT ≤ 4096 from ⟨e1, by have := HLen.out; have := HX.out; omega⟩)
    have qs : IntKind.i64.wrap ((nT : Int) + (nI : Int)) = (n : Int) := by rw [IntKind.wrap_i64]; have := HLen.out; have := Hn.out; have := Hl.out; omega
    have Hw4 := Lib.hid (bt Hw3.out h5)
    have Hx4 := Lib.hid (Hx3.out.ext h5)
    have Hz4 := Lib.hid (Hz3.out.ext h5)
    have HrX4 := Lib.hid (HrX3.out.below h5)
    have HrT4 := Lib.hid e4.plainHi
    clear e1 e2 e3 e4 g1 g2 g3 g4 h5 c0
    go_wp2_with (refine wpList_alloc_row rfl _ rfl _ Try.blockZero ?_)
    apply Stop.go; intro w5 Hg5 Hb5
    go_wp2_with (refine wpList_store_arr rfl _ _ _ rfl _ (bcells V) rfl rfl _ _ Hb5.out (Try.blockFits HV.out) (by rw [bcells_size, bcells_size, HV.out, zeros_len]) (oneCell_bcells _) ?_)
    apply Stop.go; intro w9 Ho9 Hb9
    have D9 := Lib.hid (bonly Hg5.out.1 Ho9.out (Nat.le_refl _))
    have Hw9 := Lib.hid (bt Hw4.out D9.out)
    have Hx9 := Lib.hid (Hx4.out.ext D9.out)
    have Hz9 := Lib.hid (Hz4.out.ext D9.out)
    have Hy9 := Lib.hid Hb9.out
    have HrX := Lib.hid (HrX4.out.below D9.out)
    have HrT := Lib.hid (HrT4.out.below D9.out)
    clear Hg5 Hb5 Ho9 Hb9 D9 Hw2 Hx2 Hw3 Hx3 Hz3 HrX3 Hw4 Hx4 Hz4 HrX4 HrT4 Hg1 Hb1 Hg2 Hb2 HM HD
    go_wp2_with fail
    refine WH.start (S := fun w' : World => Below w9.heap.size w9 w') (List.replicate 21 false) 21 rfl rfl (by kernel_rfl) (bdrew w9 1) (fun hSn => ?_)
    simp only [List.replicate]
    refine WH.take 0 _ ?_ rfl (by kernel_rfl) (fun _ _ _ h => h) rfl (by assumption) ?_ ?_; rotate_left; (focus (intro w hSw; (try dsimp only at hSw); (first | (go_simp; done) | (go_simp; with_reducible rfl)))); simp only [Act.put, List.setIfInBounds_toArray, List.set_cons_zero, List.set_cons_succ]
    refine WH.take 1 _ ?_ rfl (by kernel_rfl) (fun _ _ _ h => h) rfl (by assumption) ?_ ?_; rotate_left; (focus (intro w hSw; (try dsimp only at hSw); (first | (go_simp; done) | (go_simp; with_reducible rfl)))); simp only [Act.put, List.setIfInBounds_toArray, List.set_cons_zero, List.set_cons_succ]
    refine WH.take 2 _ ?_ rfl (by kernel_rfl) (fun _ _ _ h => h) rfl (by assumption) ?_ ?_; rotate_left; (focus (intro w hSw; (try dsimp only at hSw); (first | (go_simp; done) | (go_simp; with_reducible rfl)))); simp only [Act.put, List.setIfInBounds_toArray, List.set_cons_zero, List.set_cons_succ]
    refine WH.take 3 _ ?_ rfl (by kernel_rfl) (fun _ _ _ h => h) rfl (by assumption) ?_ ?_; rotate_left; (focus (intro w hSw; (try dsimp only at hSw); (first | (go_simp; done) | (go_simp; with_reducible rfl)))); simp only [Act.put, List.setIfInBounds_toArray, List.set_cons_zero, List.set_cons_succ]
    refine WH.take 4 _ ?_ rfl (by kernel_rfl) (fun _ _ _ h => h) rfl (by assumption) ?_ ?_; rotate_left; (focus (intro w hSw; (try dsimp only at hSw); (first | (go_simp; done) | (go_simp; with_reducible rfl)))); simp only [Act.put, List.setIfInBounds_toArray, List.set_cons_zero, List.set_cons_succ]
    refine WH.take 5 _ ?_ rfl (by kernel_rfl) (fun _ _ _ h => h) rfl (by assumption) ?_ ?_; rotate_left; (focus (intro w hSw; (try dsimp only at hSw); (first | (go_simp; done) | (go_simp; with_reducible rfl)))); simp only [Act.put, List.setIfInBounds_toArray, List.set_cons_zero, List.set_cons_succ]
    refine WH.take 6 _ ?_ rfl (by kernel_rfl) (fun _ _ _ h => h) rfl (by assumption) ?_ ?_; rotate_left; (focus (intro w hSw; (try dsimp only at hSw); (first | (go_simp; done) | (go_simp; with_reducible rfl)))); simp only [Act.put, List.setIfInBounds_toArray, List.set_cons_zero, List.set_cons_succ]
    refine WH.take 7 _ ?_ rfl (by kernel_rfl) (fun _ _ _ h => h) rfl (by assumption) ?_ ?_; rotate_left; (focus (intro w hSw; (try dsimp only at hSw); (first | (go_simp; done) | (go_simp; with_reducible rfl)))); simp only [Act.put, List.setIfInBounds_toArray, List.set_cons_zero, List.set_cons_succ]
    refine WH.take 8 _ ?_ rfl (by kernel_rfl) (fun _ _ _ h => h) rfl (by assumption) ?_ ?_; rotate_left; (focus (intro w hSw; (try dsimp only at hSw); (first | (go_simp; done) | (go_simp; with_reducible rfl)))); simp only [Act.put, List.setIfInBounds_toArray, List.set_cons_zero, List.set_cons_succ]
    refine WH.take 9 _ _ rfl (by kernel_rfl) (fun _ _ _ h => h) rfl (by assumption) (fun w' hSw => run_load_arr _ _ rfl _ rfl _ _ (Hy9.out.ext hSw) _ _ (Try.underlying28) (Try.blockFits HV.out)) ?_; simp only [Act.put, List.setIfInBounds_toArray, List.set_cons_zero, List.set_cons_succ]
    refine WH.take 10 _ ?_ rfl (by kernel_rfl) (fun _ _ _ h => h) rfl (by assumption) ?_ ?_; rotate_left; (focus (intro w hSw; (try dsimp only at hSw); (first | (go_simp; done) | (go_simp; with_reducible rfl)))); simp only [Act.put, List.setIfInBounds_toArray, List.set_cons_zero, List.set_cons_succ]
    refine WH.take 11 _ ?_ rfl (by kernel_rfl) (fun _ _ _ h => h) rfl (by assumption) ?_ ?_; rotate_left; (focus (intro w hSw; (try dsimp only at hSw); (first | (go_simp; done) | (go_simp; with_reducible rfl)))); simp only [Act.put, List.setIfInBounds_toArray, List.set_cons_zero, List.set_cons_succ]
    refine WH.take 12 _ _ rfl (by kernel_rfl) (fun _ _ _ h => h) rfl (by assumption) (fun w' hSw => exec_load_cell _ _ rfl ⟨w1.heap.size, 0, none⟩ rfl (.int .i64 b0) ((Hz9.out.ext hSw).cell 0) _ Try.underlying3 rfl) ?_; simp only [Act.put, List.setIfInBounds_toArray, List.set_cons_zero, List.set_cons_succ]
    refine WH.take 14 _ _ rfl (by kernel_rfl) (fun _ _ _ h => h) rfl (by assumption) (fun w' hSw => run_load_arr _ _ rfl _ rfl _ _ (Hx9.out.ext hSw) _ _ (Try.underlying22) (Try.arrFits HL.out)) ?_; simp only [Act.put, List.setIfInBounds_toArray, List.set_cons_zero, List.set_cons_succ]
    refine WH.take 15 _ ?_ rfl (by kernel_rfl) (fun _ _ _ h => h) rfl (by assumption) ?_ ?_; rotate_left; (focus (intro w hSw; (try dsimp only at hSw); (first | (go_simp; done) | (go_simp; with_reducible rfl)))); simp only [Act.put, List.setIfInBounds_toArray, List.set_cons_zero, List.set_cons_succ]
    refine WH.take 16 _ ?_ rfl (by kernel_rfl) (fun _ _ _ h => h) rfl (by assumption) ?_ ?_; rotate_left; (focus (intro w hSw; (try dsimp only at hSw); (first | (go_simp; done) | (go_simp; with_reducible rfl)))); simp only [Act.put, List.setIfInBounds_toArray, List.set_cons_zero, List.set_cons_succ]
    refine WH.take 17 _ _ rfl (by kernel_rfl) (fun _ _ _ h => h) rfl (by assumption) (fun w' hSw => exec_load_cell _ _ rfl ⟨w1.heap.size, 0, none⟩ rfl (.int .i64 b0) ((Hz9.out.ext hSw).cell 0) _ Try.underlying3 rfl) ?_; simp only [Act.put, List.setIfInBounds_toArray, List.set_cons_zero, List.set_cons_succ]
    refine WH.only 13 _ rfl (by kernel_rfl) rfl (fun K hK => ?_); go_simp; refine (pview_any V HV.out AT nT cT T HT.out.1 HT.out.2 HDT.out b0 _ (HrT.out.below hSn)).mono ?_; rintro e wa ⟨rfl, hba⟩; go_simp
    have hSn := bt hSn hba; refine hK _ _ hSn ?_; clear hK; clear K; simp only [List.set_cons_zero, List.set_cons_succ]
    refine WH.only 18 _ rfl (by kernel_rfl) rfl (fun K hK => ?_); go_simp; refine (pview_any L HL.out A3 n3 c3 l HX.out.1 HX.out.2 HD4.out b0 _ (HrX.out.below hSn)).mono ?_; rintro e wb ⟨rfl, hbb⟩; go_simp
    have hSn := bt hSn hbb; refine hK _ _ hSn ?_; clear hK; clear K; simp only [List.set_cons_zero, List.set_cons_succ]
    refine WH.take 19 _ _ rfl (by kernel_rfl) (fun _ _ _ h => h) rfl (by assumption) (fun w' hSw => exec_neq_arr _ _ _ _ rfl (by kernel_rfl) _ _ Try.underlying28 Try.underlying5 Try.byteSize (viewC V T b0) (viewC L l b0) rfl rfl (viewC_len HV.out T b0) (viewC_len HL.out l b0) false (by rw [HK.out]; simp)) ?_; simp only [Act.put, List.setIfInBounds_toArray, List.set_cons_zero, List.set_cons_succ]
    refine WH.take 20 _ ?_ rfl (by kernel_rfl) (fun _ _ _ h => h) rfl (by assumption) ?_ ?_; rotate_left; (focus (intro w hSw; (try dsimp only at hSw); (first | (go_simp; done) | (go_simp; with_reducible rfl)))); simp only [Act.put, List.setIfInBounds_toArray, List.set_cons_zero, List.set_cons_succ]
    refine WH.done (by kernel_rfl) ?_
    have HbE := Lib.hid hSn
    clear hSn
    generalize hwE : wb = wE at *
    clear hwE
    by_cases hb : b1 = b0
    · have e1 : (b0 == b1) = true := by simpa using hb.symm
      clear hb
      go_wp2_with fail
      refine WH.start (S := fun w' : World => Below w9.heap.size w9 w') (List.replicate 22 false) 22 rfl rfl (by kernel_rfl) (bt HbE.out (bdrew wE 1)) (fun hSn => ?_)
      simp only [List.replicate]
      refine WH.take 0 _ ?_ rfl (by kernel_rfl) (fun _ _ _ h => h) rfl (by assumption) ?_ ?_; rotate_left; (focus (intro w hSw; (try dsimp only at hSw); (first | (go_simp; done) | (go_simp; with_reducible rfl)))); simp only [Act.put, List.setIfInBounds_toArray, List.set_cons_zero, List.set_cons_succ]
      refine WH.take 1 _ _ rfl (by kernel_rfl) (fun _ _ _ h => h) rfl (by assumption) (fun w' hSw => exec_load_cell _ _ rfl ⟨w1.heap.size, 0, none⟩ rfl (.int .i64 b0) ((Hz9.out.ext hSw).cell 0) _ Try.underlying3 rfl) ?_; simp only [Act.put, List.setIfInBounds_toArray, List.set_cons_zero, List.set_cons_succ]
      refine WH.take 2 _ ?_ rfl (by kernel_rfl) (fun _ _ _ h => h) rfl (by assumption) ?_ ?_; rotate_left; (focus (intro w hSw; (try dsimp only at hSw); (first | (go_simp; done) | (go_simp; with_reducible rfl)))); simp only [Act.put, List.setIfInBounds_toArray, List.set_cons_zero, List.set_cons_succ]
      refine WH.take 3 _ _ rfl (by kernel_rfl) (fun _ _ _ h => h) rfl (by assumption) (fun w' hSw => exec_load_cell _ _ rfl ⟨w1.heap.size, 1, none⟩ rfl (.int .i64 b1) ((Hz9.out.ext hSw).cell 1) _ Try.underlying3 rfl) ?_; simp only [Act.put, List.setIfInBounds_toArray, List.set_cons_zero, List.set_cons_succ]
      refine WH.take 4 _ ?_ rfl (by kernel_rfl) (fun _ _ _ h => h) rfl (by assumption) ?_ ?_; rotate_left; (focus (intro w hSw; (try dsimp only at hSw); (first | (go_simp; done) | (go_simp; with_reducible rfl)))); simp only [Act.put, List.setIfInBounds_toArray, List.set_cons_zero, List.set_cons_succ]
      refine WH.take 5 _ ?_ rfl (by kernel_rfl) (fun _ _ _ h => h) rfl (by assumption) ?_ ?_; rotate_left; (focus (intro w hSw; (try dsimp only at hSw); (first | (go_simp; done) | (go_simp; with_reducible rfl)))); simp only [Act.put, List.setIfInBounds_toArray, List.set_cons_zero, List.set_cons_succ]
      refine WH.skip 6 _ rfl (by kernel_rfl) (fun _ _ _ h => h) rfl (by assumption) ?_; simp only [Act.put, List.setIfInBounds_toArray, List.set_cons_zero, List.set_cons_succ]
      refine WH.skip 7 _ rfl (by kernel_rfl) (fun _ _ _ h => h) rfl (by assumption) ?_; simp only [Act.put, List.setIfInBounds_toArray, List.set_cons_zero, List.set_cons_succ]
      refine WH.skip 8 _ rfl (by kernel_rfl) (fun _ _ _ h => h) rfl (by assumption) ?_; simp only [Act.put, List.setIfInBounds_toArray, List.set_cons_zero, List.set_cons_succ]
      refine WH.skip 9 _ rfl (by kernel_rfl) (fun _ _ _ h => h) rfl (by assumption) ?_; simp only [Act.put, List.setIfInBounds_toArray, List.set_cons_zero, List.set_cons_succ]
      refine WH.skip 11 _ rfl (by kernel_rfl) (fun _ _ _ h => h) rfl (by assumption) ?_; simp only [Act.put, List.setIfInBounds_toArray, List.set_cons_zero, List.set_cons_succ]
      refine WH.skip 12 _ rfl (by kernel_rfl) (fun _ _ _ h => h) rfl (by assumption) ?_; simp only [Act.put, List.setIfInBounds_toArray, List.set_cons_zero, List.set_cons_succ]
      refine WH.skip 13 _ rfl (by kernel_rfl) (fun _ _ _ h => h) rfl (by assumption) ?_; simp only [Act.put, List.setIfInBounds_toArray, List.set_cons_zero, List.set_cons_succ]
      refine WH.skip 14 _ rfl (by kernel_rfl) (fun _ _ _ h => h) rfl (by assumption) ?_; simp only [Act.put, List.setIfInBounds_toArray, List.set_cons_zero, List.set_cons_succ]
      refine WH.onlySkip 10 _ rfl (by kernel_rfl) rfl (by assumption) ?_; simp only [Act.put, List.setIfInBounds_toArray, List.set_cons_zero, List.set_cons_succ]
      refine WH.onlySkip 15 _ rfl (by kernel_rfl) rfl (by assumption) ?_; simp only [Act.put, List.setIfInBounds_toArray, List.set_cons_zero, List.set_cons_succ]
      refine WH.skip 16 _ rfl (by kernel_rfl) (fun _ _ _ h => h) rfl (by assumption) ?_; simp only [Act.put, List.setIfInBounds_toArray, List.set_cons_zero, List.set_cons_succ]
      refine WH.take 17 _ ?_ rfl (by kernel_rfl) (fun _ _ _ h => h) rfl (by assumption) ?_ ?_; rotate_left; (focus (intro w hSw; (try dsimp only at hSw); (first | (go_simp; done) | (go_simp; with_reducible rfl)))); simp only [Act.put, List.setIfInBounds_toArray, List.set_cons_zero, List.set_cons_succ]
      refine WH.take 18 _ ?_ rfl (by kernel_rfl) (fun _ _ _ h => h) rfl (by assumption) ?_ ?_; rotate_left; (focus (intro w hSw; (try dsimp only at hSw); (first | (go_simp; done) | (go_simp; with_reducible rfl)))); simp only [Act.put, List.setIfInBounds_toArray, List.set_cons_zero, List.set_cons_succ]
      refine WH.only 19 _ rfl (by kernel_rfl) rfl (fun K hK => ?_); go_simp; refine (works10_any _).mono ?_; rintro e we ⟨rfl, hbe⟩; go_simp
      have hSn := bt hSn hbe; refine hK _ _ hSn ?_; clear hK; clear K; simp only [List.set_cons_zero, List.set_cons_succ]
      refine WH.take 20 _ ?_ rfl (by kernel_rfl) (fun _ _ _ h => h) rfl (by assumption) ?_ ?_; rotate_left; (focus (intro w hSw; (try dsimp only at hSw); (first | (go_simp; done) | (go_simp; with_reducible rfl)))); simp only [Act.put, List.setIfInBounds_toArray, List.set_cons_zero, List.set_cons_succ]
      refine WH.take 21 _ ?_ rfl (by kernel_rfl) (fun _ _ _ h => h) rfl (by assumption) ?_ ?_; rotate_left; (focus (intro w hSw; (try dsimp only at hSw); (first | (go_simp; done) | (go_simp; with_reducible rfl)))); simp only [Act.put, List.setIfInBounds_toArray, List.set_cons_zero, List.set_cons_succ]
      refine WH.done (by kernel_rfl) ?_
      have Hfin := Lib.hid (bt Hw9.out hSn)
      clear hSn
      go_wp2_with fail
      go_ret
      exact ⟨rfl, Hfin.out⟩
    · have e1 : (b0 == b1) = false := by simpa using fun h => hb h.symm
      have HOt := Lib.hid (HOt0.out hb)
      clear hb
      go_wp2_with fail
      refine WH.start (S := fun w' : World => Below w9.heap.size w9 w') (List.replicate 22 false) 22 rfl rfl (by kernel_rfl) (bt HbE.out (bdrew wE 1)) (fun hSn => ?_)
      simp only [List.replicate]
      refine WH.take 0 _ ?_ rfl (by kernel_rfl) (fun _ _ _ h => h) rfl (by assumption) ?_ ?_; rotate_left; (focus (intro w hSw; (try dsimp only at hSw); (first | (go_simp; done) | (go_simp; with_reducible rfl)))); simp only [Act.put, List.setIfInBounds_toArray, List.set_cons_zero, List.set_cons_succ]
      refine WH.take 1 _ _ rfl (by kernel_rfl) (fun _ _ _ h => h) rfl (by assumption) (fun w' hSw => exec_load_cell _ _ rfl ⟨w1.heap.size, 0, none⟩ rfl (.int .i64 b0) ((Hz9.out.ext hSw).cell 0) _ Try.underlying3 rfl) ?_; simp only [Act.put, List.setIfInBounds_toArray, List.set_cons_zero, List.set_cons_succ]
      refine WH.take 2 _ ?_ rfl (by kernel_rfl) (fun _ _ _ h => h) rfl (by assumption) ?_ ?_; rotate_left; (focus (intro w hSw; (try dsimp only at hSw); (first | (go_simp; done) | (go_simp; with_reducible rfl)))); simp only [Act.put, List.setIfInBounds_toArray, List.set_cons_zero, List.set_cons_succ]
      refine WH.take 3 _ _ rfl (by kernel_rfl) (fun _ _ _ h => h) rfl (by assumption) (fun w' hSw => exec_load_cell _ _ rfl ⟨w1.heap.size, 1, none⟩ rfl (.int .i64 b1) ((Hz9.out.ext hSw).cell 1) _ Try.underlying3 rfl) ?_; simp only [Act.put, List.setIfInBounds_toArray, List.set_cons_zero, List.set_cons_succ]
      refine WH.take 4 _ ?_ rfl (by kernel_rfl) (fun _ _ _ h => h) rfl (by assumption) ?_ ?_; rotate_left; (focus (intro w hSw; (try dsimp only at hSw); (first | (go_simp; done) | (go_simp; with_reducible rfl)))); simp only [Act.put, List.setIfInBounds_toArray, List.set_cons_zero, List.set_cons_succ]
      refine WH.take 5 _ ?_ rfl (by kernel_rfl) (fun _ _ _ h => h) rfl (by assumption) ?_ ?_; rotate_left; (focus (intro w hSw; (try dsimp only at hSw); (first | (go_simp; done) | (go_simp; with_reducible rfl)))); simp only [Act.put, List.setIfInBounds_toArray, List.set_cons_zero, List.set_cons_succ]
      refine WH.take 6 _ _ rfl (by kernel_rfl) (fun _ _ _ h => h) rfl (by assumption) (fun w' hSw => run_load_arr _ _ rfl _ rfl _ _ (Hx9.out.ext hSw) _ _ (Try.underlying22) (Try.arrFits HL.out)) ?_; simp only [Act.put, List.setIfInBounds_toArray, List.set_cons_zero, List.set_cons_succ]
      refine WH.take 7 _ ?_ rfl (by kernel_rfl) (fun _ _ _ h => h) rfl (by assumption) ?_ ?_; rotate_left; (focus (intro w hSw; (try dsimp only at hSw); (first | (go_simp; done) | (go_simp; with_reducible rfl)))); simp only [Act.put, List.setIfInBounds_toArray, List.set_cons_zero, List.set_cons_succ]
      refine WH.take 8 _ ?_ rfl (by kernel_rfl) (fun _ _ _ h => h) rfl (by assumption) ?_ ?_; rotate_left; (focus (intro w hSw; (try dsimp only at hSw); (first | (go_simp; done) | (go_simp; with_reducible rfl)))); simp only [Act.put, List.setIfInBounds_toArray, List.set_cons_zero, List.set_cons_succ]
      refine WH.take 9 _ _ rfl (by kernel_rfl) (fun _ _ _ h => h) rfl (by assumption) (fun w' hSw => exec_load_cell _ _ rfl ⟨w1.heap.size, 1, none⟩ rfl (.int .i64 b1) ((Hz9.out.ext hSw).cell 1) _ Try.underlying3 rfl) ?_; simp only [Act.put, List.setIfInBounds_toArray, List.set_cons_zero, List.set_cons_succ]
      refine WH.take 11 _ _ rfl (by kernel_rfl) (fun _ _ _ h => h) rfl (by assumption) (fun w' hSw => run_load_arr _ _ rfl _ rfl _ _ (Hx9.out.ext hSw) _ _ (Try.underlying22) (Try.arrFits HL.out)) ?_; simp only [Act.put, List.setIfInBounds_toArray, List.set_cons_zero, List.set_cons_succ]
      refine WH.take 12 _ ?_ rfl (by kernel_rfl) (fun _ _ _ h => h) rfl (by assumption) ?_ ?_; rotate_left; (focus (intro w hSw; (try dsimp only at hSw); (first | (go_simp; done) | (go_simp; with_reducible rfl)))); simp only [Act.put, List.setIfInBounds_toArray, List.set_cons_zero, List.set_cons_succ]
      refine WH.take 13 _ ?_ rfl (by kernel_rfl) (fun _ _ _ h => h) rfl (by assumption) ?_ ?_; rotate_left; (focus (intro w hSw; (try dsimp only at hSw); (first | (go_simp; done) | (go_simp; with_reducible rfl)))); simp only [Act.put, List.setIfInBounds_toArray, List.set_cons_zero, List.set_cons_succ]
      refine WH.take 14 _ _ rfl (by kernel_rfl) (fun _ _ _ h => h) rfl (by assumption) (fun w' hSw => exec_load_cell _ _ rfl ⟨w1.heap.size, 1, none⟩ rfl (.int .i64 b1) ((Hz9.out.ext hSw).cell 1) _ Try.underlying3 rfl) ?_; simp only [Act.put, List.setIfInBounds_toArray, List.set_cons_zero, List.set_cons_succ]
      refine WH.only 10 _ rfl (by kernel_rfl) rfl (fun K hK => ?_); go_simp; refine (pview_any L HL.out AT nT cT T HT.out.1 HT.out.2 HDT.out b1 _ (HrT.out.below hSn)).mono ?_; rintro e wc ⟨rfl, hbc⟩; go_simp
      have hSn := bt hSn hbc; refine hK _ _ hSn ?_; clear hK; clear K; simp only [List.set_cons_zero, List.set_cons_succ]
      refine WH.only 15 _ rfl (by kernel_rfl) rfl (fun K hK => ?_); go_simp; refine (pview_any L HL.out A3 n3 c3 l HX.out.1 HX.out.2 HD4.out b1 _ (HrX.out.below hSn)).mono ?_; rintro e wd ⟨rfl, hbd⟩; go_simp
      have hSn := bt hSn hbd; refine hK _ _ hSn ?_; clear hK; clear K; simp only [List.set_cons_zero, List.set_cons_succ]
      refine WH.take 16 _ _ rfl (by kernel_rfl) (fun _ _ _ h => h) rfl (by assumption) (fun w' hSw => exec_eql_arr _ _ _ _ rfl (by kernel_rfl) _ _ Try.underlying28 Try.underlying5 Try.byteSize (viewC L T b1) (viewC L l b1) rfl rfl (viewC_len HL.out T b1) (viewC_len HL.out l b1) true (by rw [HOt.out]; simp)) ?_; simp only [Act.put, List.setIfInBounds_toArray, List.set_cons_zero, List.set_cons_succ]
      refine WH.take 17 _ ?_ rfl (by kernel_rfl) (fun _ _ _ h => h) rfl (by assumption) ?_ ?_; rotate_left; (focus (intro w hSw; (try dsimp only at hSw); (first | (go_simp; done) | (go_simp; with_reducible rfl)))); simp only [Act.put, List.setIfInBounds_toArray, List.set_cons_zero, List.set_cons_succ]
      refine WH.take 18 _ ?_ rfl (by kernel_rfl) (fun _ _ _ h => h) rfl (by assumption) ?_ ?_; rotate_left; (focus (intro w hSw; (try dsimp only at hSw); (first | (go_simp; done) | (go_simp; with_reducible rfl)))); simp only [Act.put, List.setIfInBounds_toArray, List.set_cons_zero, List.set_cons_succ]
      refine WH.only 19 _ rfl (by kernel_rfl) rfl (fun K hK => ?_); go_simp; refine (works10_any _).mono ?_; rintro e we ⟨rfl, hbe⟩; go_simp
      have hSn := bt hSn hbe; refine hK _ _ hSn ?_; clear hK; clear K; simp only [List.set_cons_zero, List.set_cons_succ]
      refine WH.take 20 _ ?_ rfl (by kernel_rfl) (fun _ _ _ h => h) rfl (by assumption) ?_ ?_; rotate_left; (focus (intro w hSw; (try dsimp only at hSw); (first | (go_simp; done) | (go_simp; with_reducible rfl)))); simp only [Act.put, List.setIfInBounds_toArray, List.set_cons_zero, List.set_cons_succ]
      refine WH.take 21 _ ?_ rfl (by kernel_rfl) (fun _ _ _ h => h) rfl (by assumption) ?_ ?_; rotate_left; (focus (intro w hSw; (try dsimp only at hSw); (first | (go_simp; done) | (go_simp; with_reducible rfl)))); simp only [Act.put, List.setIfInBounds_toArray, List.set_cons_zero, List.set_cons_succ]
      refine WH.done (by kernel_rfl) ?_
      have Hfin := Lib.hid (bt Hw9.out hSn)
      clear hSn
      go_wp2_with fail
      go_ret
      exact ⟨rfl, Hfin.out⟩

end Go.Proofs.Ytckkdfpmibipfaa
