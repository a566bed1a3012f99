/-
  Layer 20: works, and the walk of PointsPuts.
-/
import Derived.Test.YtennkfpehdijcaaRef20
import Derived.Test.YtennkfpehdijcaaPts2
import Derived.Test.YtennkfpehdijcaaEqA
import Derived.Test.YtennkfpehdijcaaInts
import Derived.Test.YtennkfpehdijcaaSame
namespace Go.Proofs.Ytennkfpehdijcaa
open Go.RowKit

def ex20 : List Int := [7, 0, 9]
theorem ex20_err : mkE ex20 = 0 := by decide +kernel
theorem ex20_list : lisQ (mkB ex20) 128 = [7, 9] := by decide +kernel
theorem ex20_last : lstQ (mkB ex20) 128 = 3 := by decide +kernel
theorem ex20_get : getQ (mkB ex20) 2 = 9 := by decide +kernel

theorem rc_lits {w : World} {t : TypeId} (l : List Int) : RC (w.alloc (.cells (ivals l).toArray t)) (some ⟨w.heap.size, 0, none⟩) (ivals l) := RC.of_blk (Blk.new w t _) _ (by rw [List.toList_toArray, List.take_length])
set_option maxHeartbeats 1600000 in
theorem works20_any (w : World) : Calls Try.prog 16 #[] w fun e w' => e = .returned (.bool true) ∧ Below w.heap.size w w' := by
  have HzL : Hid ((zeros 256).length = 256) := Lib.hid (zeros_len _)
  have HXL := Lib.hid (mkB_len ex20)
  have HE := Lib.hid ex20_err
  have HI := Lib.hid ex20_list
  have HL := Lib.hid ex20_last
  have HG := Lib.hid ex20_get
  obtain ⟨X, HXd⟩ : ∃ X, Hid (mkB ex20 = X) := ⟨_, Lib.hid rfl⟩
  rw [HXd.out] at HXL HI HL HG
  go_enter Try.func16, Try.ntmps16
  go_wp2_with fail
  have hr0 : RC (w.alloc (.cells (ivals ex20).toArray 3)) (some ⟨w.heap.size, 0, none⟩) (ivals ex20) := rc_lits ex20
  refine (qmake_any _ 3 3 ex20 rfl (by unfold maxLen; omega) _ hr0).mono ?_; rintro e w1 ⟨rfl, hb1⟩
  rw [HXd.out, HE.out]
  have E1 := Lib.hid (show Below w.heap.size w w1 from ((Below.refl _ _).alloc (Nat.le_refl _) _).trans (hb1.mono (by simp)))
  have z1 := Lib.hid (show w.heap.size ≤ w1.heap.size from E1.out.size)
  clear hb1 hr0 HE HXd
  go_wp2_with (refine wpList_alloc_row rfl _ rfl _ Try.blockZero ?_)
  apply Stop.go; intro w2 Hg2 Hb2
  go_wp2_with (refine wpList_store_arr rfl _ _ _ rfl _ _ rfl rfl _ _ Hb2.out (Try.blockFits HXL.out) (by rw [bcells_size, bcells_size, HXL.out, HzL.out]) (oneCell_bcells _) ?_)
  apply Stop.go; intro w3 Ho3 Hb3
  have E3 := Lib.hid (bonly (bt E1.out Hg2.out.1) Ho3.out z1.out)
  generalize w1.heap.size = g1 at *
  clear Hg2 Hb2 Ho3 E1 z1
  go_wp2_with (refine wpList_load_arr rfl _ _ rfl _ rfl _ _ Hb3.out _ _ Try.underlying23 (Try.blockFits HXL.out) ?_)
  refine (qlist_any X HXL.out _).mono ?_; rintro e w4 ⟨v, rfl, hv, hb4⟩
  rw [HI.out] at hv
  obtain ⟨A4, c4, rfl, hc4, hm4, hr4⟩ := hv.ints
  have HX4 := Lib.hid (Hb3.out.ext hb4)
  have E4 := Lib.hid (bt E3.out hb4)
  have HR4 := Lib.hid hr4
  clear hv hc4 hm4 hr4 hb4 Hb3 E3 HI
  go_wp2_with (refine wpList_load_arr rfl _ _ rfl _ rfl _ _ HX4.out _ _ Try.underlying23 (Try.blockFits HXL.out) ?_)
  have hr5 : RC (w4.alloc (.cells (ivals [7, 9]).toArray 3)) (some ⟨w4.heap.size, 0, none⟩) (ivals [7, 9]) := rc_lits [7, 9]
  have hbn : Below w4.heap.size w4 (w4.alloc (.cells (ivals [7, 9]).toArray 3)) := (Below.refl _ _).alloc (Nat.le_refl _) _
  refine (ints_any A4 2 c4 [7, 9] rfl _ 2 2 [7, 9] rfl (by unfold maxLen; omega) (by unfold maxLen; omega) _ (HR4.out.below hbn) hr5).mono ?_; rintro e w5 ⟨rfl, m, rfl⟩
  rw [show decide (([7, 9] : List Int) = [7, 9]) = true from rfl]
  have hb5 := bt hbn (bdrew _ m)
  obtain ⟨w5, hw5⟩ : ∃ x, (w4.alloc (.cells (ivals [7, 9]).toArray 3)).drewN m = x := ⟨_, rfl⟩
  rw [hw5] at hb5 ⊢
  have HX5 := Lib.hid (HX4.out.ext hb5)
  have E5 := Lib.hid (bt E4.out hb5)
  clear hw5 hb5 hbn hr5 HR4 HX4 E4
  go_wp2_with (refine wpList_load_arr rfl _ _ rfl _ rfl _ _ HX5.out _ _ Try.underlying23 (Try.blockFits HXL.out) ?_)
  refine (qlast_any X HXL.out _).mono ?_; rintro e w6 ⟨rfl, hb6⟩
  rw [HL.out]
  have HX6 := Lib.hid (HX5.out.ext hb6)
  have E6 := Lib.hid (bt E5.out hb6)
  clear hb6 HX5 E5 HL
  go_wp2_with (refine wpList_load_arr rfl _ _ rfl _ rfl _ _ HX6.out _ _ Try.underlying23 (Try.blockFits HXL.out) ?_)
  refine (qget_any X HXL.out 2 _).mono ?_; rintro e w7 ⟨rfl, hb7⟩
  rw [HG.out]
  have E7 := Lib.hid (bt E6.out hb7)
  clear hb7 HX6 E6 HG
  go_wp2_with fail
  go_ret
  exact ⟨rfl, E7.out⟩

set_option maxHeartbeats 3200000 in
theorem pointsPuts_any (k x : Int) (A : Option Addr) (n cap : Nat) (l : List Int) (hn : l.length = n) (hm : n ≤ maxLen) (w : World) (hr : RC w A (ivals l)) :
    Calls Try.prog 4 #[.int .i64 k, .int .i64 x, .slice A n cap] w fun e w' => e = .returned (.bool true) ∧ Below w.heap.size w w' := by
  have Hn := Lib.hid hn
  have Hr := Lib.hid hr
  have HM := Lib.hid hm
  unfold maxLen at hm
  clear hn hr
  by_cases hbig : 200 < n
  · have d0 : decide ((200 : Int) < (n : Int)) = true := by simp; omega
    clear hbig
    go_enter Try.func4, Try.ntmps4
    go_wp2_with fail
    refine (works20_any _).mono ?_; rintro e w1 ⟨rfl, hb1⟩
    go_wp2_with fail
    go_ret
    exact ⟨rfl, hb1⟩
  · have d0 : decide ((200 : Int) < (n : Int)) = false := by simp; omega
    have hn2 : n ≤ 200 := by omega
    clear hbig
    have HQ := Lib.hid (fun w : World => qpatch_any k x w)
    go_enter Try.func4, Try.ntmps4
    go_wp2_with fail
    refine (HQ.out _).mono ?_; rintro e w1 ⟨A1, n1, c1, rfl, hp1, hb1⟩
    have E1 := Lib.hid hb1
    have HP1 := Lib.hid hp1
    clear hb1 hp1 HQ
    go_wp2_with (refine wpList_alloc_row rfl _ rfl _ Try.patchZero ?_)
    apply Stop.go; intro w2 Hg2 Hb2
    go_wp2_with (refine wpList_store_arr rfl _ _ _ rfl _ #[.int .i64 (patQ k x).at_, .slice A1 n1 c1] rfl rfl _ _ Hb2.out Try.patchSize rfl (by simp [Value.oneCell']) ?_)
    apply Stop.go; intro w3 Ho3 Hb3
    have D3 := Lib.hid (bonly Hg2.out.1 Ho3.out (Nat.le_refl _))
    have HP3 := Lib.hid (HP1.out.below D3.out)
    have E3 := Lib.hid (bt E1.out D3.out)
    have z3 := Lib.hid (show w1.heap.size < w3.heap.size from Hb3.out.lt)
    generalize w1.heap.size = g1 at *
    clear Hg2 Hb2 Ho3 HP1 E1 D3
    cases hp : placeQ k
    rotate_left
    focus (
      have Hp := Lib.hid hp
      obtain ⟨q, hq, rfl⟩ := placeQ_true hp
      have d1 : decide ((q : Int) < 0) = false := by simp
      have d2 : decide (127 < (q : Int)) = false := by simp; omega
      have d3 : decide (127 < q) = false := by simp; omega
      clear hp
      go_wp2_with fail
      refine (rfine_any x _).mono ?_; rintro e wf ⟨rfl, rfl⟩
      cases hx : shortB x)
    rotate_left
    focus (
      have H0 := Lib.hid (patQ_yes Hp.out hx)
      obtain ⟨hx0, hx1⟩ := short_iff.1 hx
      obtain ⟨v, rfl⟩ := Int.eq_ofNat_of_zero_le hx0
      have HV := Lib.hid (show v < 18446744073709551616 by omega)
      have hw : IntKind.u64.wrap (v : Int) = (v : Int) := IntWalk.u64_in _ (by omega)
      have hw2 : IntKind.i64.wrap (2 * (q : Int)) = 2 * (q : Int) := IntWalk.i64_in _ (by omega)
      rw [H0.out.1] at HP3 Hb3
      rw [H0.out.2]
      have HP3 : Hid (PV w3 ⟨2 * (q : Int), leBytes 2 v⟩ A1 n1 c1) := HP3
      have Hb3 : Hid (Blk w3 g1 39 #[.int .i64 (2 * (q : Int)), .slice A1 n1 c1]) := Hb3
      obtain rfl : n1 = 2 := by have := HP3.out.len; rw [← this]; exact leBytes_len _ _
      have HR3 := Lib.hid HP3.out.read
      clear hx hx0 hx1 H0 HP3 Hp
      go_wp2_with fail
      refine WH.start (S := fun w' : World => Blk w' g1 39 #[.int .i64 (2 * (q : Int)), .slice A1 2 c1]) [false, false, false, false, false, false, false, false, false, false, false, false, false, false, false, false, false, false] 18 rfl rfl (by kernel_rfl) (Hb3.out.ext (bdrew w3 1)) (fun hSn => ?_); obtain ⟨wS, hwS⟩ : ∃ x, (w3).drew = x := ⟨_, rfl⟩; have HE := Lib.hid (show Below (w3).heap.size (w3) wS from hwS ▸ bdrew w3 1); rw [hwS] at hSn ⊢; clear hwS
      refine WH.tk 0 ?_; simp only [setL]
      refine WH.tk 1 ?_; simp only [setL]
      refine WH.tk 2 ?_; simp only [setL]
      refine WH.tk 3 ?_; simp only [setL]
      refine WH.tv 4 rfl (fun w' hSw => exec_load_cell _ _ rfl _ rfl (.int .i64 (2 * (q : Int))) (hSw.cell 0) _ (Try.underlying3) rfl) ?_; simp only [setL]
      refine WH.tk 5 ?_; simp only [setL]
      refine WH.tk 6 ?_; simp only [setL]
      refine WH.tk 7 ?_; simp only [setL]
      refine WH.tk 8 ?_; simp only [setL]
      refine WH.tk 9 ?_; simp only [setL]
      refine WH.tk 10 ?_; simp only [setL]
      refine WH.tv 11 rfl (fun w' hSw => exec_load_cell _ _ rfl _ rfl (.slice A1 2 c1) (hSw.cell 1) _ (Try.underlying26) rfl) ?_; simp only [setL]
      refine WH.tk 12 ?_; simp only [setL]
      refine WH.tk 13 ?_; simp only [setL]
      refine WH.only 14 _ rfl (by kernel_rfl) rfl (fun K hK => ?_)
      go_simp; refine (bytes_any 2 v (by omega) HV.out _).mono ?_; rintro e w5 ⟨A5, n5, c5, rfl, hl5, hc5, hm5, hr5, hb5⟩; go_simp
      obtain rfl : n5 = 2 := by rw [← hl5, leBytes_len]
      have HE := Lib.hid (bt HE.out hb5)
      have HL5 := Lib.hid hl5
      have HR5 := Lib.hid hr5
      clear hl5 hc5 hm5 hr5
      have hSn := hSn.ext hb5; refine hK _ _ hSn ?_; clear hK; clear K; simp only [setL]
      refine WH.only 15 _ rfl (by kernel_rfl) rfl (fun K hK => ?_)
      go_simp; refine (same_any A1 2 c1 (leBytes 2 v) HL5.out A5 2 c5 (leBytes 2 v) HL5.out (by unfold maxLen; omega) (by unfold maxLen; omega) _ (HR3.out.below HE.out) HR5.out).mono ?_; rintro e wa ⟨rfl, ka, rfl⟩; go_simp
      have hba := bdrew w5 ka
      obtain ⟨w9, hw9⟩ : ∃ y, w5.drewN ka = y := ⟨_, rfl⟩
      rw [hw9] at hba ⊢
      have HE := Lib.hid (bt HE.out hba)
      have hSn := hSn.ext hba; refine hK _ _ hSn ?_; clear hK; clear K; simp only [setL]
      refine WH.tk 16 ?_; simp only [setL]
      refine WH.tk 17 ?_; simp only [setL]
      refine WH.done (by kernel_rfl) ?_
      have E3 := Lib.hid (bt E3.out HE.out)
      clear hSn HE hba hw9 HR5 HL5 hb5 HR3 Hb3 hw hw2 HV d1 d2 d3 z3
      go_wp2_with fail)
    rotate_left
    focus (
      have H0 := Lib.hid (patQ_no hp x)
      rw [H0.out.1] at HP3 Hb3
      rw [H0.out.2]
      obtain rfl : n1 = 0 := HP3.out.len.symm
      have c0 : w3.cell? ⟨g1, 0, none⟩ = some (.int .i64 0) := Hb3.out.cell 0
      have c1 : w3.cell? ⟨g1, 1, none⟩ = some (.slice A1 0 c1) := Hb3.out.cell 1
      have hor := placeQ_false hp
      clear hp H0 HP3 Hb3
      rcases hor with h | ⟨h, h2⟩)
    focus (
      have d1 : decide (k < 0) = true := by simp; omega
      clear h
      go_wp2_with fail
      clear d1 c0 c1 z3
      generalize w3 = w9 at *)
    rotate_left
    focus (
      have d1 : decide (k < 0) = false := by simp; omega
      have d2 : decide (127 < k) = true := by simp; omega
      clear h h2
      go_wp2_with fail
      clear d1 d2 c0 c1 z3
      generalize w3 = w9 at *)
    rotate_left
    focus (
      have H0 := Lib.hid (patQ_not Hp.out hx)
      rw [H0.out.1] at HP3 Hb3
      rw [H0.out.2]
      obtain rfl : n1 = 0 := HP3.out.len.symm
      have c0 : w3.cell? ⟨g1, 0, none⟩ = some (.int .i64 0) := Hb3.out.cell 0
      have c1 : w3.cell? ⟨g1, 1, none⟩ = some (.slice A1 0 c1) := Hb3.out.cell 1
      clear hx H0 HP3 Hb3
      go_wp2_with fail
      clear d1 d2 d3 c0 c1 z3 Hp
      generalize w3 = w9 at *)
    all_goals
      have HXL := Lib.hid (mkB_len l)
      have HzL : Hid ((zeros 256).length = 256) := Lib.hid (zeros_len _)
      have HX2 := Lib.hid (fun h : 128 < l.length => mk_many h)
      have HX1 := Lib.hid (fun (h : l.length ≤ 128) (hf : l.all shortB = false) => mk_not h hf)
      have HX0 := Lib.hid (fun (h : l.length ≤ 128) (hf : l.all shortB = true) => mk_yes h hf)
      refine (qmake_any A n cap l Hn.out HM.out _ (Hr.out.below E3.out)).mono ?_; rintro e wa ⟨rfl, hba⟩
      obtain ⟨X, HXd⟩ : ∃ X, Hid (mkB l = X) := ⟨_, Lib.hid rfl⟩
      obtain ⟨er, HEd⟩ : ∃ X, Hid (mkE l = X) := ⟨_, Lib.hid rfl⟩
      rw [HXd.out] at HXL HX2 HX1 HX0 ⊢
      rw [HEd.out] at HX2 HX1 HX0 ⊢
      have Ea := Lib.hid (bt E3.out hba)
      clear hba HXd HEd E3
      go_wp2_with (refine wpList_alloc_row rfl _ rfl _ Try.blockZero ?_)
      apply Stop.go; intro wb Hgb Hbb
      go_wp2_with (refine wpList_store_arr rfl _ _ _ rfl _ _ rfl rfl _ _ Hbb.out (Try.blockFits HXL.out) (by rw [bcells_size, bcells_size, HXL.out, HzL.out]) (oneCell_bcells _) ?_)
      apply Stop.go; intro wc Hoc Hbc
      have Ec := Lib.hid (bonly (bt Ea.out Hgb.out.1) Hoc.out Ea.out.size)
      generalize wa.heap.size = g4 at *
      clear Hgb Hbb Hoc Ea
      go_wp2_with fail
      go_loopw [11, 12] (fun f i wr => ∃ j : Nat, j ≤ n ∧ i = .int .i64 j ∧ f = .bool ((l.take j).all shortB) ∧ Hid (Blk wr g4 23 (bcells X)) ∧ Hid (Below w.heap.size w wr)) (fun _ i _ => n - (intOf i).toNat)
      case atStart => exact ⟨0, Nat.zero_le _, rfl, rfl, Hbc, Ec⟩
      case round =>
        obtain ⟨j, hj, rfl, rfl, HB, E⟩ := hrel
        clear Hbc Ec
        by_cases hlt : j < n
        · have hjl : j < l.length := by rw [Hn.out]; exact hlt
          have Hr' := Lib.hid (Hr.out.below E.out)
          obtain ⟨ad, rfl, hc⟩ := Hr'.out.int j hjl
          have HT := Lib.hid (show (l.take (j + 1)).all shortB = ((l.take j).all shortB && shortB l[j]) by rw [List.take_succ_eq_append_getElem hjl, List.all_append]; simp)
          generalize l[j] = y at *
          have p0 : 0 ≤ (j : Int) := by omega
          cases hf : (l.take j).all shortB
          · rw [hf, Bool.false_and] at HT
            clear hf
            go_wp2_with fail
            go_roundw
            case rel => exact ⟨j + 1, by omega, by go_num, by rw [HT.out], HB, E⟩
            case measure => simp [intOf]; omega
          · rw [hf, Bool.true_and] at HT
            clear hf
            go_wp2_with fail
            refine (rfine_any y _).mono ?_; rintro e wf ⟨rfl, rfl⟩
            go_wp2_with fail
            go_roundw
            case rel => exact ⟨j + 1, by omega, by go_num, by rw [HT.out], HB, E⟩
            case measure => simp [intOf]; omega
        · obtain rfl : j = n := by omega
          rw [List.take_of_length_le (show l.length ≤ j by rw [Hn.out]; omega)]
          by_cases hbig : 128 < j
          · obtain ⟨rfl, rfl⟩ := HX2.out (by rw [Hn.out]; exact hbig)
            have d8 : decide ((128 : Int) < (j : Int)) = true := by simp; omega
            clear hbig HX0 HX1 HX2
            go_wp2_with (first | refine wpList_load_arr rfl _ _ rfl _ rfl _ _ HB.out _ _ Try.underlying23 (Try.blockFits HzL.out) ?_ | refine wpList_build_zero rfl _ rfl _ Try.blockZero _ _ Try.underlying23 Try.byteSize ?_ | refine wpList_eql_arr rfl _ _ _ _ rfl (by kernel_rfl) _ _ Try.underlying23 Try.underlying5 Try.byteSize (zeros 256) (zeros 256) rfl rfl HzL.out HzL.out true (beq_self_eq_true _) ?_)
            refine (works20_any _).mono ?_; rintro e wz ⟨rfl, hbz⟩
            go_wp2_with fail
            go_ret
            exact ⟨rfl, bt E.out hbz⟩
          · have hj8 : j ≤ 128 := by omega
            have d8 : decide ((128 : Int) < (j : Int)) = false := by simp; omega
            clear hbig
            cases hf : l.all shortB
            · obtain ⟨rfl, rfl⟩ := HX1.out (by rw [Hn.out]; exact hj8) hf
              clear hf HX0 HX1 HX2
              go_wp2_with (first | refine wpList_load_arr rfl _ _ rfl _ rfl _ _ HB.out _ _ Try.underlying23 (Try.blockFits HzL.out) ?_ | refine wpList_build_zero rfl _ rfl _ Try.blockZero _ _ Try.underlying23 Try.byteSize ?_ | refine wpList_eql_arr rfl _ _ _ _ rfl (by kernel_rfl) _ _ Try.underlying23 Try.underlying5 Try.byteSize (zeros 256) (zeros 256) rfl rfl HzL.out HzL.out true (beq_self_eq_true _) ?_)
              refine (works20_any _).mono ?_; rintro e wz ⟨rfl, hbz⟩
              go_wp2_with fail
              go_ret
              exact ⟨rfl, bt E.out hbz⟩
            · obtain ⟨rfl, rfl⟩ := HX0.out (by rw [Hn.out]; exact hj8) hf
              have HF := Lib.hid (all_fine hf)
              clear hf HX0 HX1 HX2
              go_wp2_with fail
              refine WH.start (S := fun w' : World => Blk w' g4 23 (bcells (blkQ l))) [false, false, false, false, false, false, false, false, false, false, false, false] 12 rfl rfl (by kernel_rfl) (HB.out.ext (bdrew wr 1)) (fun hSn => ?_); obtain ⟨wS, hwS⟩ : ∃ x, (wr).drew = x := ⟨_, rfl⟩; have HE := Lib.hid (show Below (wr).heap.size (wr) wS from hwS ▸ bdrew wr 1); rw [hwS] at hSn ⊢; clear hwS
              refine WH.tk 0 ?_; simp only [setL]
              refine WH.tk 1 ?_; simp only [setL]
              refine WH.tk 2 ?_; simp only [setL]
              refine WH.tv 3 rfl (fun w' hSw => exec_slice_all _ _ rfl 256 _ Try.underlying23 Try.byteSize g4 rfl (by decide)) ?_; simp only [setL]
              refine WH.tk 4 ?_; simp only [setL]
              refine WH.only 5 _ rfl (by kernel_rfl) rfl (fun K hK => ?_)
              go_simp; refine (rblock_any A j cap l Hn.out hj8 HF.out _ (Hr.out.below (bt E.out HE.out))).mono ?_; rintro e w5 ⟨A5, n5, c5, rfl, hl5, hc5, hm5, hr5, hb5⟩; go_simp
              obtain rfl : n5 = 256 := by rw [← hl5, HXL.out]
              have HE := Lib.hid (bt HE.out hb5)
              have HR5 := Lib.hid hr5
              clear hl5 hc5 hm5 hr5
              have hSn := hSn.ext hb5; refine hK _ _ hSn ?_; clear hK; clear K; simp only [setL]
              refine WH.only 6 _ rfl (by kernel_rfl) rfl (fun K hK => ?_)
              go_simp; refine (same_any _ 256 256 (blkQ l) HXL.out A5 256 c5 (blkQ l) HXL.out (by unfold maxLen; omega) (by unfold maxLen; omega) _ (RB.of_blk0 hSn) HR5.out).mono ?_; rintro e wa ⟨rfl, ka, rfl⟩; go_simp
              have hba := bdrew w5 ka
              obtain ⟨w9, hw9⟩ : ∃ y, w5.drewN ka = y := ⟨_, rfl⟩
              rw [hw9] at hba ⊢
              have HE := Lib.hid (bt HE.out hba)
              have hSn := hSn.ext hba; refine hK _ _ hSn ?_; clear hK; clear K; simp only [setL]
              refine WH.tk 7 ?_; simp only [setL]
              refine WH.tk 8 ?_; simp only [setL]
              refine WH.only 9 _ rfl (by kernel_rfl) rfl (fun K hK => ?_)
              go_simp; refine (works20_any _).mono ?_; rintro e wz ⟨rfl, hbz⟩; go_simp
              have HE := Lib.hid (bt HE.out hbz)
              have hSn := hSn.ext hbz; refine hK _ _ hSn ?_; clear hK; clear K; simp only [setL]
              refine WH.tk 10 ?_; simp only [setL]
              refine WH.tk 11 ?_; simp only [setL]
              refine WH.done (by kernel_rfl) ?_
              go_wp2_with fail
              go_ret
              exact ⟨rfl, bt E.out HE.out⟩

end Go.Proofs.Ytennkfpehdijcaa
