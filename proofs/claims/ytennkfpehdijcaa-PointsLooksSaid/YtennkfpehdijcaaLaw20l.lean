/-
  Layer 20: the walk of PointsLooks.
-/
import Derived.Test.YtennkfpehdijcaaLaw20
import Derived.Test.YtennkfpehdijcaaPts3
import Derived.Deep.CutRange
namespace Go.Proofs.Ytennkfpehdijcaa
open Go.RowKit

theorem rc_numsQ {w : World} {A : Option Addr} {b : List UInt8} (h : RC w A (ivals (numsQ b))) (k : Nat) (hk : k < 128) : ∃ ad, A = some ad ∧ w.cell? (ad.add k) = some (.int .i64 (nmQ b k)) := by
  obtain ⟨ad, h1, h2⟩ := h.int k (by rw [numsQ_len]; exact hk)
  have e := fld_get (numsQ b) k (by rw [numsQ_len]; exact hk)
  rw [List.getElem?_eq_getElem (by rw [numsQ_len]; exact hk), numsQ_at b hk] at e
  rw [Option.some.inj e] at h2
  exact ⟨ad, h1, h2⟩
set_option maxHeartbeats 3200000 in
theorem pointsLooks_any (b : List UInt8) (hb : b.length = 256) (k e : Int) (w : World) :
    Calls Try.prog 3 #[.agg (bcells b), .int .i64 k, .int .i64 e] w fun e w' => e = .returned (.bool true) ∧ Below w.heap.size w w' := by
  have HbL := Lib.hid hb
  have HzL : Hid ((zeros 256).length = 256) := Lib.hid (zeros_len _)
  have HKL := Lib.hid (keepQ_len e b)
  have HLl := Lib.hid (lisQ_len b 128)
  clear hb
  go_enter Try.func3, Try.ntmps3
  go_wp2_with (refine wpList_box_row rfl _ _ rfl _ rfl ?_)
  apply Stop.go; intro w1 Hg1 Hb1
  go_wp2_with (first | refine wpList_load_arr rfl _ _ rfl _ rfl _ _ Hb1.out _ _ Try.underlying22 (Try.arr256Fits HbL.out) ?_ | refine wpList_alloc_row rfl _ rfl _ Try.blockZero ?_)
  apply Stop.go; intro w2 Hg2 Hb2
  have z2 := Lib.hid (show w.heap.size < w1.heap.size by have := Hg1.out.2; omega)
  go_wp2_with (refine wpList_store_arr rfl _ _ _ rfl _ _ rfl rfl _ _ Hb2.out (Try.blockFits HbL.out) (by rw [bcells_size, bcells_size, HbL.out, HzL.out]) (oneCell_bcells _) ?_)
  apply Stop.go; intro w3 Ho3 Hb3
  have HB3 := Lib.hid ((Hb1.out.ext Hg2.out.1).only Ho3.out (by have := z2.out; omega))
  have E3 := Lib.hid (bonly (bt Hg1.out.1 Hg2.out.1) Ho3.out (by have := z2.out; omega))
  generalize w1.heap.size = g1 at *
  clear Hg1 Hb1 Hg2 Hb2 Ho3
  go_wp2_with (refine wpList_slice_arr_all rfl _ _ rfl 256 _ Try.underlying22 Try.byteSize w.heap.size rfl (by omega) ?_)
  refine (rnums_any _ 256 b HbL.out _ (RB.of_blk0 HB3.out)).mono ?_; rintro e w4 ⟨v4, rfl, hv4, hb4⟩
  obtain ⟨A, c, rfl, hc4, hm4, hr4⟩ := hv4.ints
  rw [numsQ_len]
  have HB4 := Lib.hid (HB3.out.ext hb4)
  have HX4 := Lib.hid (Hb3.out.ext hb4)
  have E4 := Lib.hid (bt E3.out hb4)
  have HR4 := Lib.hid hr4
  clear hv4 hc4 hm4 hr4 hb4 HB3 Hb3 E3
  obtain ⟨pq, hpq⟩ : ∃ p, placeQ k = p := ⟨_, rfl⟩
  obtain ⟨W, hW⟩ : ∃ p, getQ b k = p := ⟨_, rfl⟩
  have Hpq := Lib.hid hpq
  have HW := Lib.hid hW
  clear hpq hW
  go_upto_region 4 with fail
  go_cut [22] from 17 to 22 (fun v wx => v = .bool pq ∧ wx = w4)
  case first =>
    cases pq
    · rcases placeQ_false Hpq.out with h | ⟨h, h2⟩
      focus (
        have d1 : decide (0 ≤ k) = false := by simp; omega
        clear h)
      rotate_left
      focus (
        have d1 : decide (0 ≤ k) = true := by simp; omega
        have d2 : decide (k < 128) = false := by simp; omega
        clear h h2)
      all_goals
        go_wp2_with fail
        go_meet
        exact ⟨rfl, rfl⟩
    · obtain ⟨q, hq, rfl⟩ := placeQ_true Hpq.out
      have d1 : decide (0 ≤ (q : Int)) = true := by simp
      have d2 : decide ((q : Int) < 128) = true := by simp; omega
      have d3 : decide (q < 128) = true := by simp; omega
      go_wp2_with fail
      go_meet
      exact ⟨rfl, rfl⟩
  case rest =>
  obtain ⟨rfl, hw⟩ := hcut
  rw [hw]
  clear hw
  go_upto_if 22 with fail
  go_cut [9] from 23 to 26 (fun v wx => v = .int .i64 W ∧ wx = w4)
  case first =>
    cases pq
    · have H0 : Hid (W = 0) := Lib.hid (by rw [← HW.out]; exact getQ_no b Hpq.out)
      go_wp2_with fail
      go_meet
      exact ⟨by rw [H0.out], rfl⟩
    · obtain ⟨q, hq, rfl⟩ := placeQ_true Hpq.out
      have H0 : Hid (W = nmQ b q) := Lib.hid (by rw [← HW.out]; exact getQ_nat b hq)
      obtain ⟨ad, rfl, hc⟩ := rc_numsQ HR4.out q hq
      have p0 : 0 ≤ (q : Int) := by omega
      go_wp2_with fail
      go_meet
      exact ⟨by rw [H0.out], rfl⟩
  case rest =>
  obtain ⟨rfl, hw⟩ := hcut
  rw [hw]
  clear hw Hpq
  go_wp2_with fail
  go_loopw [10, 11, 12] (fun u m i wr => ∃ j : Nat, j ≤ 128 ∧ i = .int .i64 j ∧ m = .int .i64 ((lstQ b j : Nat) : Int) ∧ Hid (Below w4.heap.size w4 wr) ∧ Hid (OwnC wr w4.heap.size 3 u (ivals (lisQ b j)))) (fun _ _ i _ => 128 - (intOf i).toNat)
  case atStart => exact ⟨0, Nat.zero_le _, rfl, rfl, Lib.hid (Below.refl _ _), Lib.hid (OwnC.nil_ _ _ _)⟩
  case round =>
    obtain ⟨j, hj, rfl, rfl, D, HO⟩ := hrel
    by_cases hlt : j < 128
    · have d0 : decide ((j : Int) < 128) = true := by simp; omega
      obtain ⟨ad, rfl, hc⟩ := rc_numsQ (HR4.out.below D.out) j hlt
      have HL := Lib.hid (lisQ_len b j)
      have HNo := Lib.hid (lisQ_no (b := b) (n := j))
      have HYes := Lib.hid (lisQ_yes (b := b) (n := j))
      have HMo := Lib.hid (lstQ_no (b := b) (n := j))
      have HMs := Lib.hid (lstQ_yes (b := b) (n := j))
      have Z := Lib.hid D.out.size
      have p0 : 0 ≤ (j : Int) := by omega
      generalize nmQ b j = x at *
      by_cases hx : x = 0
      · have HN := Lib.hid (HNo.out hx)
        have HM := Lib.hid (HMo.out hx)
        have d1 : (x != 0) = false := by simpa using hx
        clear hx HNo HYes HMo HMs
        go_wp2_with fail
        go_roundw
        case rel => exact ⟨j + 1, by omega, by go_num, by rw [HM.out], D, Lib.hid (by rw [HN.out]; exact HO.out)⟩
        case measure => simp [intOf]; omega
      · have HN := Lib.hid (HYes.out hx)
        have HM := Lib.hid (HMs.out hx)
        have d1 : (x != 0) = true := by simpa using hx
        clear hx HNo HYes HMo HMs
        have hl1 : (ivals (lisQ b j)).length + 1 ≤ maxLen := by rw [ivals_len]; unfold maxLen; have := HL.out; omega
        have hl2 : ((ivals (lisQ b j)).length + 1) * 8 ≤ 140737488355328 := by rw [ivals_len]; have := HL.out; omega
        go_wp2_with (at_builtin; refine wpList_append_one rfl _ _ _ _ rfl Try.underlying24 (.int .i64 0) 8 Try.intInfo rfl w4.heap.size _ _ rfl HO.out (.int .i64 x) rfl rfl Z.out hl1 hl2 ?_)
        apply Stop.go
        intro v' w5 Hv' Ha'
        have HO5 := Lib.hid (show OwnC w5 w4.heap.size 3 v' (ivals (lisQ b (j + 1))) by rw [HN.out, ← ivals_snoc]; exact Hv'.out)
        have D5 := Lib.hid (D.out.trans Ha'.out.below)
        clear Hv' Ha' HO D hl1 hl2 HL HN hc
        go_wp2_with fail
        go_roundw
        case rel => exact ⟨j + 1, by omega, by go_num, by rw [HM.out]; simp, D5, HO5⟩
        case measure => simp [intOf]; omega
    · obtain rfl : j = 128 := by omega
      obtain ⟨A5, c5, rfl, hc5, hm5, hr5⟩ := HO.out.ints
      have HO := Lib.hid hr5
      have HB := Lib.hid (HB4.out.ext D.out)
      have HX := Lib.hid (HX4.out.ext D.out)
      have E := Lib.hid (bt E4.out D.out)
      clear hc5 hm5 hr5 D HB4 HX4 E4 HR4
      generalize wr = w5 at *
      go_upto_region 14 with fail
      go_cut [13] from 45 to 48 (fun v wx => ∃ G, v = .pointer (some ⟨G, 0, none⟩) ∧ Blk wx G 23 (bcells (keepQ e b)) ∧ Below w5.heap.size w5 wx)
      case first =>
        refine WH.start (S := fun w' : World => Below w5.heap.size w5 w') [false, false, false, false, false, false] 6 rfl rfl (by kernel_rfl) (bdrew w5 1) (fun hSn => ?_); obtain ⟨wS, hwS⟩ : ∃ x, (w5).drew = x := ⟨_, rfl⟩; have HE := Lib.hid (show Below (w5).heap.size (w5) wS from hwS ▸ bdrew w5 1); rw [hwS] at hSn ⊢; clear hwS
        refine WH.tv 0 rfl (fun w' hSw => exec_load_blk _ _ rfl _ rfl _ _ (HX.out.ext hSw) _ (Try.underlying23) rfl (Try.blockFits HbL.out)) ?_; simp only [setL]
        refine WH.tk 1 ?_; simp only [setL]
        refine WH.two 2 4 _ _ rfl rfl (by kernel_rfl) rfl rfl (fun K hK => ?_) (fun K hK => ?_)
        focus (
          go_simp; refine (qbelow_any e _).mono ?_; rintro e wa ⟨rfl, hga, hba⟩; go_simp
          have hc : wa.cell? ⟨wS.heap.size, 0, none⟩ = some (.int .i64 e) := hba.cell 0
          have HC := Lib.hid hba
          clear hba hc
          have hSn := bt hSn hga.1; refine hK _ _ hSn ?_; clear hK; clear K; simp only [setL]
          refine WH.two 3 4 _ _ rfl rfl (by kernel_rfl) rfl rfl (fun K hK => ?_) (fun K hK => ?_)
          focus (
            go_simp; refine (qkeep_any b HbL.out e wS.heap.size _ (HC.out.cell 0)).mono ?_; rintro e wb ⟨rfl, hbb⟩; go_simp
            have hSn := bt hSn hbb; refine hK _ _ hSn ?_; clear hK; clear K; simp only [setL]
            refine WH.only 4 _ rfl (by kernel_rfl) rfl (fun K hK => ?_)
            have hle := hSn.size
            refine ow_alloc _ rfl _ Try.blockZero ?_
            apply Stop.go; intro wN HgN HBN
            have hSn := bt hSn HgN.out.1; refine hK _ _ hSn ?_; clear hK; clear K; simp only [setL]
            refine WH.only 5 _ rfl (by kernel_rfl) rfl (fun K hK => ?_)
            refine ow_store _ _ _ rfl _ _ rfl rfl _ _ HBN.out (Try.blockFits HKL.out) (by rw [bcells_size, bcells_size, HKL.out, HzL.out]) (oneCell_bcells _) ?_
            apply Stop.go; intro w9 Ho9 Hb9
            have hSn := bonly hSn Ho9.out hle; refine hK _ _ hSn ?_; clear hK; clear K; simp only [setL]
            refine WH.done (by kernel_rfl) ?_
            go_wp2_with fail
            go_meet
            exact ⟨_, rfl, Hb9.out, hSn⟩)
          have hle := hSn.size
          refine ow_alloc _ rfl _ Try.blockZero ?_
          apply Stop.go; intro wN HgN HBN
          have HC := Lib.hid (HC.out.ext HgN.out.1)
          have hSn := bt hSn HgN.out.1; refine hK _ _ hSn ?_; clear hK; clear K; simp only [setL]
          refine WH.only 3 _ rfl (by kernel_rfl) rfl (fun K hK => ?_); go_simp; refine (qkeep_any b HbL.out e wS.heap.size _ (HC.out.cell 0)).mono ?_; rintro e wb ⟨rfl, hbb⟩; go_simp
          have HBN := Lib.hid (HBN.out.ext hbb)
          have hSn := bt hSn hbb; refine hK _ _ hSn ?_; clear hK; clear K; simp only [setL]
          refine WH.only 5 _ rfl (by kernel_rfl) rfl (fun K hK => ?_)
          refine ow_store _ _ _ rfl _ _ rfl rfl _ _ HBN.out (Try.blockFits HKL.out) (by rw [bcells_size, bcells_size, HKL.out, HzL.out]) (oneCell_bcells _) ?_
          apply Stop.go; intro w9 Ho9 Hb9
          have hSn := bonly hSn Ho9.out hle; refine hK _ _ hSn ?_; clear hK; clear K; simp only [setL]
          refine WH.done (by kernel_rfl) ?_
          go_wp2_with fail
          go_meet
          exact ⟨_, rfl, Hb9.out, hSn⟩)
        have hle := hSn.size
        refine ow_alloc _ rfl _ Try.blockZero ?_
        apply Stop.go; intro wN HgN HBN
        have hSn := bt hSn HgN.out.1; refine hK _ _ hSn ?_; clear hK; clear K; simp only [setL]
        refine WH.only 2 _ rfl (by kernel_rfl) rfl (fun K hK => ?_); go_simp; refine (qbelow_any e _).mono ?_; rintro e wa ⟨rfl, hga, hba⟩; go_simp
        have HC := Lib.hid hba
        have HBN := Lib.hid (HBN.out.ext hga.1)
        clear hba
        have hSn := bt hSn hga.1; refine hK _ _ hSn ?_; clear hK; clear K; simp only [setL]
        refine WH.only 3 _ rfl (by kernel_rfl) rfl (fun K hK => ?_); go_simp; refine (qkeep_any b HbL.out e wN.heap.size _ (HC.out.cell 0)).mono ?_; rintro e wb ⟨rfl, hbb⟩; go_simp
        have HBN := Lib.hid (HBN.out.ext hbb)
        have hSn := bt hSn hbb; refine hK _ _ hSn ?_; clear hK; clear K; simp only [setL]
        refine WH.only 5 _ rfl (by kernel_rfl) rfl (fun K hK => ?_)
        refine ow_store _ _ _ rfl _ _ rfl rfl _ _ HBN.out (Try.blockFits HKL.out) (by rw [bcells_size, bcells_size, HKL.out, HzL.out]) (oneCell_bcells _) ?_
        apply Stop.go; intro w9 Ho9 Hb9
        have hSn := bonly hSn Ho9.out hle; refine hK _ _ hSn ?_; clear hK; clear K; simp only [setL]
        refine WH.done (by kernel_rfl) ?_
        go_wp2_with fail
        go_meet
        exact ⟨_, rfl, Hb9.out, hSn⟩
      case rest =>
      obtain ⟨G, rfl, hx, hd⟩ := hcut
      have HB6 := Lib.hid (HB.out.ext hd)
      have HX6 := Lib.hid (HX.out.ext hd)
      have HO6 := Lib.hid (HO.out.below hd)
      have E6 := Lib.hid (bt E.out hd)
      have HG6 := Lib.hid hx
      have HC1 := Lib.hid (fun w : World => qget_any b HbL.out k w)
      have HC2 := Lib.hid (fun w : World => qlist_any b HbL.out w)
      have HC3 := Lib.hid (fun w : World => qlast_any b HbL.out w)
      obtain ⟨L, HL⟩ : ∃ L, Hid (lisQ b 128 = L) := ⟨_, Lib.hid rfl⟩
      obtain ⟨M, HM⟩ : ∃ L, Hid (lstQ b 128 = L) := ⟨_, Lib.hid rfl⟩
      rw [HW.out] at HC1
      rw [HL.out] at HC2 HO6 HLl ⊢
      rw [HM.out] at HC3 ⊢
      have hLm : L.length ≤ maxLen := by unfold maxLen; have := HLl.out; omega
      have HLm := Lib.hid hLm
      have e1 : (W == W) = true := by simp
      have e2 : ((M : Int) == (M : Int)) = true := by simp
      clear hx hd HB HX HO E hLm HW HL HM
      generalize wc = w6 at *
      go_wp2_with fail
      refine WH.start (S := fun w' : World => Blk w' w.heap.size 22 (bcells b) ∧ Blk w' g1 23 (bcells b) ∧ Blk w' G 23 (bcells (keepQ e b))) [false, false, false, false, false, false, false, false, false, false, false, false, false, false, false, false, false, false, false, false, false, false, false, false, false, false, false, false, false, false, false, false] 32 rfl rfl (by kernel_rfl) ⟨HB6.out.ext (bdrew w6 1), HX6.out.ext (bdrew w6 1), HG6.out.ext (bdrew w6 1)⟩ (fun hSn => ?_); obtain ⟨wS, hwS⟩ : ∃ x, (w6).drew = x := ⟨_, rfl⟩; have HE := Lib.hid (show Below (w6).heap.size (w6) wS from hwS ▸ bdrew w6 1); rw [hwS] at hSn ⊢; clear hwS
      refine WH.tv 0 rfl (fun w' hSw => exec_load_blk _ _ rfl _ rfl _ _ (hSw.2.1) _ (Try.underlying23) rfl (Try.blockFits HbL.out)) ?_; simp only [setL]
      refine WH.tk 1 ?_; simp only [setL]
      refine WH.tk 3 ?_; simp only [setL]
      refine WH.only 2 _ rfl (by kernel_rfl) rfl (fun K hK => ?_)
      go_simp; refine (HC1.out _).mono ?_; rintro e wa ⟨rfl, hba⟩; go_simp
      have HE := Lib.hid (bt HE.out hba)
      have hSn := And.intro (hSn.1.ext hba) (And.intro (hSn.2.1.ext hba) (hSn.2.2.ext hba)); refine hK _ _ hSn ?_; clear hK; clear K; simp only [setL]
      refine WH.tk 4 ?_; simp only [setL]
      refine WH.tk 5 ?_; simp only [setL]
      refine WH.tv 6 rfl (fun w' hSw => exec_load_blk _ _ rfl _ rfl _ _ (hSw.2.1) _ (Try.underlying23) rfl (Try.blockFits HbL.out)) ?_; simp only [setL]
      refine WH.tk 8 ?_; simp only [setL]
      refine WH.only 7 _ rfl (by kernel_rfl) rfl (fun K hK => ?_)
      go_simp; refine (HC2.out _).mono ?_; rintro e wb ⟨v7, rfl, hv7, hbb⟩; go_simp
      obtain ⟨A7, c7, rfl, hc7, hm7, hr7⟩ := hv7.ints
      have HR7 := Lib.hid hr7
      have HE := Lib.hid (bt HE.out hbb)
      clear hv7 hc7 hm7 hr7
      have hSn := And.intro (hSn.1.ext hbb) (And.intro (hSn.2.1.ext hbb) (hSn.2.2.ext hbb)); refine hK _ _ hSn ?_; clear hK; clear K; simp only [setL]
      refine WH.only 9 _ rfl (by kernel_rfl) rfl (fun K hK => ?_)
      go_simp; refine (ints_any A7 L.length c7 L rfl A5 L.length c5 L rfl HLm.out HLm.out _ HR7.out (HO6.out.below HE.out)).mono ?_; rintro e wd ⟨rfl, m8, rfl⟩; go_simp
      have hbe := bdrew wb m8
      obtain ⟨we, hwe⟩ : ∃ y, wb.drewN m8 = y := ⟨_, rfl⟩
      rw [hwe] at hbe ⊢
      have HE := Lib.hid (bt HE.out hbe)
      clear hwe
      have hSn := And.intro (hSn.1.ext hbe) (And.intro (hSn.2.1.ext hbe) (hSn.2.2.ext hbe)); refine hK _ _ hSn ?_; clear hK; clear K; simp only [setL]
      refine WH.tk 10 ?_; simp only [setL]
      refine WH.tk 11 ?_; simp only [setL]
      refine WH.tv 12 rfl (fun w' hSw => exec_load_blk _ _ rfl _ rfl _ _ (hSw.2.1) _ (Try.underlying23) rfl (Try.blockFits HbL.out)) ?_; simp only [setL]
      refine WH.tk 14 ?_; simp only [setL]
      refine WH.only 13 _ rfl (by kernel_rfl) rfl (fun K hK => ?_)
      go_simp; refine (HC3.out _).mono ?_; rintro e wf ⟨rfl, hbf⟩; go_simp
      have HE := Lib.hid (bt HE.out hbf)
      have hSn := And.intro (hSn.1.ext hbf) (And.intro (hSn.2.1.ext hbf) (hSn.2.2.ext hbf)); refine hK _ _ hSn ?_; clear hK; clear K; simp only [setL]
      refine WH.tk 15 ?_; simp only [setL]
      refine WH.tk 16 ?_; simp only [setL]
      refine WH.tk 17 ?_; simp only [setL]
      refine WH.tk 18 ?_; simp only [setL]
      by_cases he : e < 1
      · have d1 : decide (e < 1) = true := decide_eq_true he
        clear he
        refine WH.tk 19 ?_; simp only [setL]
        refine WH.tk 20 ?_; simp only [setL]
        refine WH.skip 21 _ rfl (by kernel_rfl) (fun _ _ _ h => h) rfl (by assumption) ?_; simp only [setL]
        refine WH.skip 22 _ rfl (by kernel_rfl) (fun _ _ _ h => h) rfl (by assumption) ?_; simp only [setL]
        refine WH.skip 23 _ rfl (by kernel_rfl) (fun _ _ _ h => h) rfl (by assumption) ?_; simp only [setL]
        refine WH.onlySkip 24 _ rfl (by kernel_rfl) rfl (by assumption) ?_; simp only [setL]
        refine WH.onlySkip 25 _ rfl (by kernel_rfl) rfl (by assumption) ?_; simp only [setL]
        refine WH.tk 26 ?_; simp only [setL]
        refine WH.tk 27 ?_; simp only [setL]
        refine WH.tk 28 ?_; simp only [setL]
        refine WH.only 29 _ rfl (by kernel_rfl) rfl (fun K hK => ?_)
        go_simp; refine (works20_any _).mono ?_; rintro e wz ⟨rfl, hbz⟩; go_simp
        have HE := Lib.hid (bt HE.out hbz)
        have hSn := And.intro (hSn.1.ext hbz) (And.intro (hSn.2.1.ext hbz) (hSn.2.2.ext hbz)); refine hK _ _ hSn ?_; clear hK; clear K; simp only [setL]
        refine WH.tk 30 ?_; simp only [setL]
        refine WH.tk 31 ?_; simp only [setL]
        refine WH.done (by kernel_rfl) ?_
        go_wp2_with fail
        go_ret
        exact ⟨rfl, bt E6.out HE.out⟩
      · have d1 : decide (e < 1) = false := decide_eq_false he
        clear he
        refine WH.tk 19 ?_; simp only [setL]
        refine WH.tk 20 ?_; simp only [setL]
        refine WH.tv 21 rfl (fun w' hSw => exec_slice_all _ _ rfl 256 _ Try.underlying23 Try.byteSize G rfl (by decide)) ?_; simp only [setL]
        refine WH.tv 22 rfl (fun w' hSw => exec_slice_all _ _ rfl 256 _ Try.underlying22 Try.byteSize w.heap.size rfl (by decide)) ?_; simp only [setL]
        refine WH.tk 23 ?_; simp only [setL]
        refine WH.only 24 _ rfl (by kernel_rfl) rfl (fun K hK => ?_)
        go_simp; refine (rbelow_any _ 256 b HbL.out e _ (RB.of_blk0 hSn.1)).mono ?_; rintro e wg ⟨A9, n9, c9, rfl, hl9, hc9, hm9, hr9, hbg⟩; go_simp
        obtain rfl : n9 = 256 := by rw [← hl9, HKL.out]
        have HR9 := Lib.hid hr9
        have HE := Lib.hid (bt HE.out hbg)
        clear hl9 hc9 hm9 hr9
        have hSn := And.intro (hSn.1.ext hbg) (And.intro (hSn.2.1.ext hbg) (hSn.2.2.ext hbg)); refine hK _ _ hSn ?_; clear hK; clear K; simp only [setL]
        refine WH.only 25 _ rfl (by kernel_rfl) rfl (fun K hK => ?_)
        go_simp; refine (same_any _ 256 256 (keepQ e b) HKL.out A9 256 c9 (keepQ e b) HKL.out (by unfold maxLen; omega) (by unfold maxLen; omega) _ (RB.of_blk0 hSn.2.2) HR9.out).mono ?_; rintro e wh ⟨rfl, m9, rfl⟩; go_simp
        have hbi := bdrew wg m9
        obtain ⟨wi, hwi⟩ : ∃ y, wg.drewN m9 = y := ⟨_, rfl⟩
        rw [hwi] at hbi ⊢
        have HE := Lib.hid (bt HE.out hbi)
        clear hwi
        have hSn := And.intro (hSn.1.ext hbi) (And.intro (hSn.2.1.ext hbi) (hSn.2.2.ext hbi)); refine hK _ _ hSn ?_; clear hK; clear K; simp only [setL]
        refine WH.tk 26 ?_; simp only [setL]
        refine WH.tk 27 ?_; simp only [setL]
        refine WH.tk 28 ?_; simp only [setL]
        refine WH.only 29 _ rfl (by kernel_rfl) rfl (fun K hK => ?_)
        go_simp; refine (works20_any _).mono ?_; rintro e wz ⟨rfl, hbz⟩; go_simp
        have HE := Lib.hid (bt HE.out hbz)
        have hSn := And.intro (hSn.1.ext hbz) (And.intro (hSn.2.1.ext hbz) (hSn.2.2.ext hbz)); refine hK _ _ hSn ?_; clear hK; clear K; simp only [setL]
        refine WH.tk 30 ?_; simp only [setL]
        refine WH.tk 31 ?_; simp only [setL]
        refine WH.done (by kernel_rfl) ?_
        go_wp2_with fail
        go_ret
        exact ⟨rfl, bt E6.out HE.out⟩

end Go.Proofs.Ytennkfpehdijcaa
