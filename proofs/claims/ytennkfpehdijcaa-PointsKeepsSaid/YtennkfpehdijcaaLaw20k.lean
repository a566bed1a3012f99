/-
  Layer 20: the walk of PointsKeeps.
-/
import Derived.Test.YtennkfpehdijcaaLaw20
import Derived.Test.YtennkfpehdijcaaPts3
import Derived.Test.YtennkfpehdijcaaPat2
import Derived.Deep.CutRange
namespace Go.Proofs.Ytennkfpehdijcaa
open Go.RowKit

theorem mod128 (x : UInt8) : ∃ j : Nat, j < 128 ∧ ((x.toNat : Int) % 128) = (j : Int) ∧ Int.tmod (x.toNat : Int) 128 = (j : Int) ∧ x.toNat % 128 = j ∧ IntKind.i64.wrap (j : Int) = (j : Int) := ⟨x.toNat % 128, Nat.mod_lt _ (by omega), by omega, by rw [Int.tmod_eq_emod_of_nonneg (by omega)]; omega, rfl, IntWalk.i64_in _ (by have := Nat.mod_lt x.toNat (show 0 < 128 by omega); omega)⟩
theorem nmQ_set {b : List UInt8} {j : Nat} (hj : j < 128) {x : Int} (hx : shortB x = true) {i : Nat} (hi : i < 128) : nmQ (blkQ ((numsQ b).set j x)) i = if i = j then x else nmQ b i := by
  rw [nmQ_blkQ (by rw [List.length_set, numsQ_len]) (fineL_set (numsQ_fine b) j (short_iff.1 hx)) hi, fldQ_set _ _ _ _ (by rw [numsQ_len]; exact hj), numsQ_at b hi]
set_option maxHeartbeats 3200000 in
theorem pointsKeeps_any (b : List UInt8) (hb : b.length = 256) (a0 a1 : UInt8) (e : Nat) (he : e < 65536) (w : World) :
    Calls Try.prog 5 #[.agg (bcells b), .agg (bcells [a0, a1]), .int .u16 e] w fun e w' => e = .returned (.bool true) ∧ Below w.heap.size w w' := by
  have HbL := Lib.hid hb
  have HzL : Hid ((zeros 256).length = 256) := Lib.hid (zeros_len _)
  obtain ⟨j, hj, j1, j2, j3, j4⟩ := mod128 a0
  have t0 := a0.toNat_lt
  have t1 := a1.toNat_lt
  obtain ⟨x, hx⟩ : ∃ x : Int, 256 * (a1.toNat : Int) + (a0.toNat : Int) = x := ⟨_, rfl⟩
  have hsx : shortB x = true := short_iff.2 (by omega)
  have v0 : IntKind.i64.wrap (a0.toNat : Int) = (a0.toNat : Int) := IntWalk.i64_in _ (by omega)
  have v1 : IntKind.i64.wrap (a1.toNat : Int) = (a1.toNat : Int) := IntWalk.i64_in _ (by omega)
  have u1 : IntKind.i64.wrap (256 * (a1.toNat : Int)) = 256 * (a1.toNat : Int) := IntWalk.i64_in _ (by omega)
  have u2 : IntKind.i64.wrap (256 * (a1.toNat : Int) + (a0.toNat : Int)) = 256 * (a1.toNat : Int) + (a0.toNat : Int) := IntWalk.i64_in _ (by omega)
  have we : IntKind.i64.wrap (e : Int) = (e : Int) := IntWalk.i64_in _ (by omega)
  have HP := Lib.hid (fun w : World => qpatch_any (j : Int) x w)
  rw [(patQ_yes (placeQ_nat hj) hsx).2] at HP
  have hlay := layP_blkQ hb hj hsx
  obtain ⟨p, hp⟩ : ∃ p, patQ (j : Int) x = p := ⟨_, rfl⟩
  rw [hp] at HP hlay
  have HYN := Lib.hid (fun (i : Nat) (hi : i < 128) => nmQ_set (b := b) hj hsx hi)
  have HYL := Lib.hid (show (blkQ ((numsQ b).set j x)).length = 256 from blkQ_len (by rw [List.length_set, numsQ_len]; omega))
  obtain ⟨Y, hY⟩ : ∃ Y, blkQ ((numsQ b).set j x) = Y := ⟨_, rfl⟩
  rw [hY] at hlay HYN HYL
  have HLY := Lib.hid hlay
  have HZL' := Lib.hid (keepQ_len e Y)
  have HZA := Lib.hid (keepQ_again e Y)
  have HZB := Lib.hid (fun (x : Int) (h : x ∈ lisQ (keepQ e Y) 128) => keepQ_below h)
  have HZM := Lib.hid (keepQ_last e Y)
  have HZK := Lib.hid (fun (g : Nat) (w : World) h => qkeep_any Y HYL.out e g w h)
  obtain ⟨Z, hZ⟩ : ∃ Z, keepQ e Y = Z := ⟨_, rfl⟩
  rw [hZ] at HZL' HZA HZB HZM HZK
  have Hx := Lib.hid hx
  clear hsx hp hY hZ hlay hb hx
  go_enter Try.func5, Try.ntmps5
  go_wp2_with (refine wpList_box_row rfl _ _ rfl _ rfl ?_)
  apply Stop.go; intro w1 Hg1 Hb1
  go_wp2_with (refine wpList_box_row rfl _ _ rfl _ rfl ?_)
  apply Stop.go; intro w2 Hg2 Hb2
  have HA2 := Lib.hid (Hb1.out.ext Hg2.out.1)
  have E2 := Lib.hid (bt Hg1.out.1 Hg2.out.1)
  have z2 := Lib.hid (show w.heap.size < w1.heap.size ∧ w1.heap.size < w2.heap.size by have := Hg1.out.2; have := Hg2.out.2; omega)
  generalize w1.heap.size = g1 at *
  clear Hb1 Hg1 Hg2
  go_wp2_with (first | refine wpList_load_arr rfl _ _ rfl _ rfl _ _ HA2.out _ _ Try.underlying22 (Try.arr256Fits HbL.out) ?_ | refine wpList_alloc_row rfl _ rfl _ Try.blockZero ?_)
  apply Stop.go; intro w3 Hg3 Hb3
  go_wp2_with (refine wpList_store_arr rfl _ _ _ rfl _ _ rfl rfl _ _ Hb3.out (Try.blockFits HbL.out) (by rw [bcells_size, bcells_size, HbL.out, HzL.out]) (oneCell_bcells _) ?_)
  apply Stop.go; intro w4 Ho4 Hb4
  have HA4 := Lib.hid ((Hb2.out.ext Hg3.out.1).only Ho4.out (by have := z2.out; omega))
  have E4 := Lib.hid (bonly (bt E2.out Hg3.out.1) Ho4.out (by have := z2.out; omega))
  generalize w2.heap.size = g2 at *
  clear Hg3 Hb3 Ho4 HA2 Hb2 E2
  go_wp2_with fail
  refine WH.start (S := fun w' : World => w'.cell? ⟨g1, 0, none⟩ = some (.int .u8 (a0.toNat : Int)) ∧ w'.cell? ⟨g1, 1, none⟩ = some (.int .u8 (a1.toNat : Int))) [false, false, false, false, false, false, false, false, false, false, false, false, false, false] 14 rfl rfl (by kernel_rfl) ⟨(HA4.out.ext (bdrew w4 1)).cell 0, (HA4.out.ext (bdrew w4 1)).cell 1⟩ (fun hSn => ?_); obtain ⟨wS, hwS⟩ : ∃ x, (w4).drew = x := ⟨_, rfl⟩; have HE := Lib.hid (show Below (w4).heap.size (w4) wS from hwS ▸ bdrew w4 1); rw [hwS] at hSn ⊢; clear hwS
  refine WH.tk 0 ?_; simp only [setL]
  refine WH.tv 1 rfl (fun w' hSw => exec_load_cell _ _ rfl ⟨g1, 0, none⟩ rfl _ hSw.1 _ Try.underlying5 rfl) ?_; simp only [setL]
  refine WH.tk 2 ?_; simp only [setL]
  refine WH.tk 3 ?_; simp only [setL]
  refine WH.tk 4 ?_; simp only [setL]
  refine WH.tv 5 rfl (fun w' hSw => exec_load_cell _ _ rfl ⟨g1, 1, none⟩ rfl _ hSw.2 _ Try.underlying5 rfl) ?_; simp only [setL]
  refine WH.tk 6 ?_; simp only [setL]
  refine WH.tk 7 ?_; simp only [setL]
  refine WH.tk 8 ?_; simp only [setL]
  refine WH.tv 9 rfl (fun w' hSw => exec_load_cell _ _ rfl ⟨g1, 0, none⟩ rfl _ hSw.1 _ Try.underlying5 rfl) ?_; simp only [setL]
  refine WH.tk 10 ?_; simp only [setL]
  refine WH.tk 11 ?_; simp only [setL]
  refine WH.tk 12 ?_; simp only [setL]
  refine WH.tk 13 ?_; simp only [setL]
  refine WH.done (by kernel_rfl) ?_
  rw [Hx.out]
  have HB5 := Lib.hid (Hb4.out.ext HE.out)
  have E5 := Lib.hid (bt E4.out HE.out)
  clear Hb4 HA4 E4 HE hSn j1 j2 j3 j4 u1 u2 v0 v1 t0 t1 Hx
  go_wp2_with fail
  refine (HP.out _).mono ?_; rintro e w6 ⟨A6, n6, c6, rfl, hp6, hb6⟩
  have HB6 := Lib.hid (HB5.out.ext hb6)
  have HP6 := Lib.hid hp6
  have E6 := Lib.hid (bt E5.out hb6)
  clear hp6 hb6 HB5 E5 HP
  go_wp2_with (refine wpList_alloc_row rfl _ rfl _ Try.patchZero ?_)
  apply Stop.go; intro w7 Hg7 Hb7
  go_wp2_with (refine wpList_store_arr rfl _ _ _ rfl _ #[.int .i64 p.at_, .slice A6 n6 c6] rfl rfl _ _ Hb7.out Try.patchSize rfl (by simp [Value.oneCell']) ?_)
  apply Stop.go; intro w8 Ho8 Hb8
  have D8 := Lib.hid (bonly Hg7.out.1 Ho8.out (Nat.le_refl _))
  have HB8 := Lib.hid (HB6.out.ext D8.out)
  have HP8 := Lib.hid (HP6.out.below D8.out)
  have E8 := Lib.hid (bt E6.out D8.out)
  generalize w6.heap.size = g6 at *
  clear Hg7 Hb7 Ho8 D8 HB6 HP6 E6
  go_wp2_with (first | refine wpList_load_arr rfl _ _ rfl _ rfl _ _ HB8.out _ _ Try.underlying23 (Try.blockFits HbL.out) ?_ | refine wpList_load_blk rfl _ _ rfl _ rfl _ _ Hb8.out _ Try.underlying39 rfl Try.patchSize ?_)
  refine (play_any b HbL.out p A6 n6 c6 _ HP8.out).mono ?_; rintro e w9 ⟨rfl, hb9⟩
  rw [HLY.out]
  have HB9 := Lib.hid (HB8.out.ext hb9)
  have E9 := Lib.hid (bt E8.out hb9)
  clear hb9 HB8 HP8 E8 Hb8 HLY
  go_wp2_with (refine wpList_alloc_row rfl _ rfl _ Try.blockZero ?_)
  apply Stop.go; intro wa Hga Hba
  go_wp2_with (refine wpList_store_arr rfl _ _ _ rfl _ _ rfl rfl _ _ Hba.out (Try.blockFits HYL.out) (by rw [bcells_size, bcells_size, HYL.out, HzL.out]) (oneCell_bcells _) ?_)
  apply Stop.go; intro wb Hob Hbb
  have Db := Lib.hid (bonly Hga.out.1 Hob.out (Nat.le_refl _))
  have HBb := Lib.hid (HB9.out.ext Db.out)
  have Eb := Lib.hid (bt E9.out Db.out)
  generalize w9.heap.size = gY at *
  clear Hga Hba Hob Db HB9 E9
  go_wp2_with fail
  go_loopw [13, 14] (fun i _ wr => ∃ k : Nat, k ≤ 128 ∧ i = .int .i64 k ∧ Hid (Blk wr g2 23 (bcells b)) ∧ Hid (Blk wr gY 23 (bcells Y)) ∧ Hid (Below w.heap.size w wr)) (fun i _ _ => 128 - (intOf i).toNat)
  case atStart => exact ⟨0, Nat.zero_le _, rfl, HBb, Hbb, Eb⟩
  case round =>
    obtain ⟨k, hk, rfl, HB, HY, E⟩ := hrel
    clear HBb Hbb Eb
    by_cases hlt : k < 128
    · have d0 : decide ((k : Int) < 128) = true := by simp; omega
      have HN := Lib.hid (HYN.out k hlt)
      go_wp2_with (refine wpList_load_arr rfl _ _ rfl _ rfl _ _ HB.out _ _ Try.underlying23 (Try.blockFits HbL.out) ?_)
      refine (qget_any b HbL.out k _).mono ?_; rintro e wc ⟨rfl, hbc⟩
      rw [getQ_nat b hlt]
      have HBc := Lib.hid (HB.out.ext hbc)
      have HYc := Lib.hid (HY.out.ext hbc)
      have Ec := Lib.hid (bt E.out hbc)
      generalize nmQ b k = y at *
      clear hbc HB HY E
      by_cases hkj : k = j
      · have HN := Lib.hid (show nmQ Y k = x by rw [HN.out, if_pos hkj])
        have d1 : ((k : Int) == (j : Int)) = true := by rw [hkj]; simp
        have d2 : (k == j) = true := by rw [hkj]; simp
        clear hkj
        go_wp2_with (refine wpList_load_arr rfl _ _ rfl _ rfl _ _ HYc.out _ _ Try.underlying23 (Try.blockFits HYL.out) ?_)
        refine (qget_any Y HYL.out k _).mono ?_; rintro e wd ⟨rfl, hbd⟩
        rw [getQ_nat Y hlt, HN.out]
        have HBd := Lib.hid (HBc.out.ext hbd)
        have HYd := Lib.hid (HYc.out.ext hbd)
        have Ed := Lib.hid (bt Ec.out hbd)
        have d3 : (x != x) = false := by simp
        clear hbd HBc HYc Ec
        go_wp2_with fail
        go_roundw
        case rel => exact ⟨k + 1, by omega, by go_num, HBd, HYd, Ed⟩
        case measure => simp [intOf]; omega
      · have HN := Lib.hid (show nmQ Y k = y by rw [HN.out, if_neg hkj])
        have d1 : ((k : Int) == (j : Int)) = false := by simp; omega
        have d2 : (k == j) = false := by simp; omega
        clear hkj
        go_wp2_with (refine wpList_load_arr rfl _ _ rfl _ rfl _ _ HYc.out _ _ Try.underlying23 (Try.blockFits HYL.out) ?_)
        refine (qget_any Y HYL.out k _).mono ?_; rintro e wd ⟨rfl, hbd⟩
        rw [getQ_nat Y hlt, HN.out]
        have HBd := Lib.hid (HBc.out.ext hbd)
        have HYd := Lib.hid (HYc.out.ext hbd)
        have Ed := Lib.hid (bt Ec.out hbd)
        have d3 : (y != y) = false := by simp
        clear hbd HBc HYc Ec
        go_wp2_with fail
        go_roundw
        case rel => exact ⟨k + 1, by omega, by go_num, HBd, HYd, Ed⟩
        case measure => simp [intOf]; omega
    · obtain rfl : k = 128 := by omega
      clear HB HYN
      generalize wr = w5 at *
      go_upto_region 15 with fail
      go_cut [15] from 58 to 62 (fun v wx => ∃ G, v = .pointer (some ⟨G, 0, none⟩) ∧ Blk wx G 23 (bcells Z) ∧ Below w5.heap.size w5 wx)
      case first =>
        refine WH.start (S := fun w' : World => Below w5.heap.size w5 w') [false, false, false, false, false, false, false] 7 rfl rfl (by kernel_rfl) (bdrew w5 1) (fun hSn => ?_); obtain ⟨wS, hwS⟩ : ∃ x, (w5).drew = x := ⟨_, rfl⟩; have HE := Lib.hid (show Below (w5).heap.size (w5) wS from hwS ▸ bdrew w5 1); rw [hwS] at hSn ⊢; clear hwS
        refine WH.tv 0 rfl (fun w' hSw => exec_load_blk _ _ rfl _ rfl _ _ (HY.out.ext hSw) _ (Try.underlying23) rfl (Try.blockFits HYL.out)) ?_; simp only [setL]
        refine WH.tk 1 ?_; simp only [setL]
        refine WH.tk 2 ?_; simp only [setL]
        refine WH.two 3 5 _ _ rfl rfl (by kernel_rfl) rfl rfl (fun K hK => ?_) (fun K hK => ?_)
        focus (
          go_simp; refine (qbelow_any e _).mono ?_; rintro e wa ⟨rfl, hga, hba⟩; go_simp
          have hc : wa.cell? ⟨wS.heap.size, 0, none⟩ = some (.int .i64 e) := hba.cell 0
          have HC := Lib.hid hba
          clear hba hc
          have hSn := bt hSn hga.1; refine hK _ _ hSn ?_; clear hK; clear K; simp only [setL]
          refine WH.two 4 5 _ _ rfl rfl (by kernel_rfl) rfl rfl (fun K hK => ?_) (fun K hK => ?_)
          focus (
            go_simp; refine (HZK.out wS.heap.size _ (HC.out.cell 0)).mono ?_; rintro e wb ⟨rfl, hbb⟩; go_simp
            have hSn := bt hSn hbb; refine hK _ _ hSn ?_; clear hK; clear K; simp only [setL]
            refine WH.only 5 _ rfl (by kernel_rfl) rfl (fun K hK => ?_)
            have hle := hSn.size
            refine ow_alloc _ rfl _ Try.blockZero ?_
            apply Stop.go; intro wN HgN HBN
            have hSn := bt hSn HgN.out.1; refine hK _ _ hSn ?_; clear hK; clear K; simp only [setL]
            refine WH.only 6 _ rfl (by kernel_rfl) rfl (fun K hK => ?_)
            refine ow_store _ _ _ rfl _ _ rfl rfl _ _ HBN.out (Try.blockFits HZL'.out) (by rw [bcells_size, bcells_size, HZL'.out, HzL.out]) (oneCell_bcells _) ?_
            apply Stop.go; intro w9 Ho9 Hb9
            have hSn := bonly hSn Ho9.out hle; refine hK _ _ hSn ?_; clear hK; clear K; simp only [setL]
            refine WH.done (by kernel_rfl) ?_
            go_wp2_with fail
            go_meet
            exact ⟨_, rfl, Hb9.out, hSn⟩)
          have hle := hSn.size
          refine ow_alloc _ rfl _ Try.blockZero ?_
          apply Stop.go; intro wN HgN HBN
          have HC := Lib.hid (HC.out.ext HgN.out.1)
          have hSn := bt hSn HgN.out.1; refine hK _ _ hSn ?_; clear hK; clear K; simp only [setL]
          refine WH.only 4 _ rfl (by kernel_rfl) rfl (fun K hK => ?_); go_simp; refine (HZK.out wS.heap.size _ (HC.out.cell 0)).mono ?_; rintro e wb ⟨rfl, hbb⟩; go_simp
          have HBN := Lib.hid (HBN.out.ext hbb)
          have hSn := bt hSn hbb; refine hK _ _ hSn ?_; clear hK; clear K; simp only [setL]
          refine WH.only 6 _ rfl (by kernel_rfl) rfl (fun K hK => ?_)
          refine ow_store _ _ _ rfl _ _ rfl rfl _ _ HBN.out (Try.blockFits HZL'.out) (by rw [bcells_size, bcells_size, HZL'.out, HzL.out]) (oneCell_bcells _) ?_
          apply Stop.go; intro w9 Ho9 Hb9
          have hSn := bonly hSn Ho9.out hle; refine hK _ _ hSn ?_; clear hK; clear K; simp only [setL]
          refine WH.done (by kernel_rfl) ?_
          go_wp2_with fail
          go_meet
          exact ⟨_, rfl, Hb9.out, hSn⟩)
        have hle := hSn.size
        refine ow_alloc _ rfl _ Try.blockZero ?_
        apply Stop.go; intro wN HgN HBN
        have hSn := bt hSn HgN.out.1; refine hK _ _ hSn ?_; clear hK; clear K; simp only [setL]
        refine WH.only 3 _ rfl (by kernel_rfl) rfl (fun K hK => ?_); go_simp; refine (qbelow_any e _).mono ?_; rintro e wa ⟨rfl, hga, hba⟩; go_simp
        have HC := Lib.hid hba
        have HBN := Lib.hid (HBN.out.ext hga.1)
        clear hba
        have hSn := bt hSn hga.1; refine hK _ _ hSn ?_; clear hK; clear K; simp only [setL]
        refine WH.only 4 _ rfl (by kernel_rfl) rfl (fun K hK => ?_); go_simp; refine (HZK.out wN.heap.size _ (HC.out.cell 0)).mono ?_; rintro e wb ⟨rfl, hbb⟩; go_simp
        have HBN := Lib.hid (HBN.out.ext hbb)
        have hSn := bt hSn hbb; refine hK _ _ hSn ?_; clear hK; clear K; simp only [setL]
        refine WH.only 6 _ rfl (by kernel_rfl) rfl (fun K hK => ?_)
        refine ow_store _ _ _ rfl _ _ rfl rfl _ _ HBN.out (Try.blockFits HZL'.out) (by rw [bcells_size, bcells_size, HZL'.out, HzL.out]) (oneCell_bcells _) ?_
        apply Stop.go; intro w9 Ho9 Hb9
        have hSn := bonly hSn Ho9.out hle; refine hK _ _ hSn ?_; clear hK; clear K; simp only [setL]
        refine WH.done (by kernel_rfl) ?_
        go_wp2_with fail
        go_meet
        exact ⟨_, rfl, Hb9.out, hSn⟩
      case rest =>
      obtain ⟨G, rfl, hx, hd⟩ := hcut
      have HY6 := Lib.hid (HY.out.ext hd)
      have E6 := Lib.hid (bt E.out hd)
      have HG6 := Lib.hid hx
      clear hx hd HY E
      generalize wc = w6 at *
      go_wp2_with (refine wpList_load_arr rfl _ _ rfl _ rfl _ _ HG6.out _ _ Try.underlying23 (Try.blockFits HZL'.out) ?_)
      refine (qlist_any Z HZL'.out _).mono ?_; rintro e w7 ⟨v7, rfl, hv7, hb7⟩
      obtain ⟨A7, c7, rfl, hc7, hm7, hr7⟩ := hv7.ints
      have HR7 := Lib.hid hr7
      have HY7 := Lib.hid (HY6.out.ext hb7)
      have HG7 := Lib.hid (HG6.out.ext hb7)
      have E7 := Lib.hid (bt E6.out hb7)
      have HLl := Lib.hid (lisQ_len Z 128)
      obtain ⟨L, HL⟩ : ∃ L, Hid (lisQ Z 128 = L) := ⟨_, Lib.hid rfl⟩
      rw [HL.out] at HR7 HLl HZB ⊢
      obtain ⟨n, Hn⟩ : ∃ n, Hid (L.length = n) := ⟨_, Lib.hid rfl⟩
      rw [Hn.out] at HLl ⊢
      have hn8 : n ≤ 128 := HLl.out
      clear hv7 hc7 hm7 hr7 hb7 HY6 HG6 E6
      go_wp2_with fail
      go_loopw [17] (fun i wr => ∃ k : Nat, k ≤ n ∧ i = .int .i64 k ∧ wr = w7) (fun i _ => n - (intOf i).toNat)
      case atStart => exact ⟨0, Nat.zero_le _, rfl, rfl⟩
      case round =>
        obtain ⟨k, hk, rfl, hw⟩ := hrel
        subst hw
        by_cases hlt : k < n
        · have hkl : k < L.length := by rw [Hn.out]; exact hlt
          obtain ⟨ad, rfl, hc⟩ := HR7.out.int k hkl
          have hlo := HZB.out L[k] (List.getElem_mem hkl)
          generalize L[k] = y at *
          have d1 : decide ((e : Int) ≤ y) = false := by simp; omega
          have p0 : 0 ≤ (k : Int) := by omega
          clear hlo
          go_wp2_with fail
          go_roundw
          case rel => exact ⟨k + 1, by omega, by go_num, by first | rfl | trivial⟩
          case measure => simp [intOf]; omega
        · obtain rfl : k = n := by omega
          clear HZB HR7
          have dM : decide (((lstQ Z 128 : Nat) : Int) ≤ ((lstQ Y 128 : Nat) : Int)) = true := by have := HZM.out; simp; omega
          have dN : decide (lstQ Z 128 ≤ lstQ Y 128) = true := by have := HZM.out; simp; omega
          have HC1 := Lib.hid (fun w : World => qlast_any Z HZL'.out w)
          have HC2 := Lib.hid (fun w : World => qlast_any Y HYL.out w)
          generalize lstQ Z 128 = MZ at *
          generalize lstQ Y 128 = MY at *
          have HZ2 := Lib.hid (fun (g : Nat) (w : World) h => show Calls Try.prog 8 #[.agg (bcells Z), .func (.func 26) #[] #[.pointer (some ⟨g, 0, none⟩)]] w (RetA w Z) by have := qkeep_any Z HZL'.out e g w h; rwa [HZA.out] at this)
          go_wp2_with fail
          generalize wr = w8 at *
          refine WH.start (S := fun w' : World => Blk w' gY 23 (bcells Y) ∧ Blk w' G 23 (bcells Z)) [false, false, false, false, false, false, false, false, false, false, false, false, false, false, false, false, false, false] 18 rfl rfl (by kernel_rfl) ⟨HY7.out.ext (bdrew w8 1), HG7.out.ext (bdrew w8 1)⟩ (fun hSn => ?_); obtain ⟨wS, hwS⟩ : ∃ x, (w8).drew = x := ⟨_, rfl⟩; have HE := Lib.hid (show Below (w8).heap.size (w8) wS from hwS ▸ bdrew w8 1); rw [hwS] at hSn ⊢; clear hwS
          refine WH.tv 0 rfl (fun w' hSw => exec_load_blk _ _ rfl _ rfl _ _ (hSw.2) _ (Try.underlying23) rfl (Try.blockFits HZL'.out)) ?_; simp only [setL]
          refine WH.tk 1 ?_; simp only [setL]
          refine WH.tk 2 ?_; simp only [setL]
          refine WH.tv 5 rfl (fun w' hSw => exec_load_blk _ _ rfl _ rfl _ _ (hSw.2) _ (Try.underlying23) rfl (Try.blockFits HZL'.out)) ?_; simp only [setL]
          refine WH.only 3 _ rfl (by kernel_rfl) rfl (fun K hK => ?_)
          go_simp; refine (qbelow_any e _).mono ?_; rintro e wa ⟨rfl, hga, hba⟩; go_simp
          have HC := Lib.hid hba
          have HE := Lib.hid (bt HE.out hga.1)
          clear hba
          have hSn := And.intro (hSn.1.ext hga.1) (hSn.2.ext hga.1); refine hK _ _ hSn ?_; clear hK; clear K; simp only [setL]
          refine WH.only 4 _ rfl (by kernel_rfl) rfl (fun K hK => ?_)
          go_simp; refine (HZ2.out _ _ (HC.out.cell 0)).mono ?_; rintro e wb ⟨rfl, hbb⟩; go_simp
          have HE := Lib.hid (bt HE.out hbb)
          have hSn := And.intro (hSn.1.ext hbb) (hSn.2.ext hbb); refine hK _ _ hSn ?_; clear hK; clear K; simp only [setL]
          refine WH.tv 6 rfl (fun w' hSw => exec_eql_arr _ _ _ _ rfl (by kernel_rfl) _ _ Try.underlying23 Try.underlying5 Try.byteSize Z Z rfl rfl HZL'.out HZL'.out true (beq_self_eq_true _)) ?_; simp only [setL]
          refine WH.tk 7 ?_; simp only [setL]
          refine WH.tv 8 rfl (fun w' hSw => exec_load_blk _ _ rfl _ rfl _ _ (hSw.2) _ (Try.underlying23) rfl (Try.blockFits HZL'.out)) ?_; simp only [setL]
          refine WH.tv 10 rfl (fun w' hSw => exec_load_blk _ _ rfl _ rfl _ _ (hSw.1) _ (Try.underlying23) rfl (Try.blockFits HYL.out)) ?_; simp only [setL]
          refine WH.only 9 _ rfl (by kernel_rfl) rfl (fun K hK => ?_)
          go_simp; refine (HC1.out _).mono ?_; rintro e wc ⟨rfl, hbc⟩; go_simp
          have HE := Lib.hid (bt HE.out hbc)
          have hSn := And.intro (hSn.1.ext hbc) (hSn.2.ext hbc); refine hK _ _ hSn ?_; clear hK; clear K; simp only [setL]
          refine WH.only 11 _ rfl (by kernel_rfl) rfl (fun K hK => ?_)
          go_simp; refine (HC2.out _).mono ?_; rintro e wd ⟨rfl, hbd⟩; go_simp
          have HE := Lib.hid (bt HE.out hbd)
          have hSn := And.intro (hSn.1.ext hbd) (hSn.2.ext hbd); refine hK _ _ hSn ?_; clear hK; clear K; simp only [setL]
          refine WH.tk 12 ?_; simp only [setL]
          refine WH.tk 13 ?_; simp only [setL]
          refine WH.tk 14 ?_; simp only [setL]
          refine WH.only 15 _ rfl (by kernel_rfl) rfl (fun K hK => ?_)
          go_simp; refine (works20_any _).mono ?_; rintro e wz ⟨rfl, hbz⟩; go_simp
          have HE := Lib.hid (bt HE.out hbz)
          have hSn := And.intro (hSn.1.ext hbz) (hSn.2.ext hbz); refine hK _ _ hSn ?_; clear hK; clear K; simp only [setL]
          refine WH.tk 16 ?_; simp only [setL]
          refine WH.tk 17 ?_; simp only [setL]
          refine WH.done (by kernel_rfl) ?_
          go_wp2_with fail
          go_ret
          exact ⟨rfl, bt E7.out HE.out⟩

end Go.Proofs.Ytennkfpehdijcaa
