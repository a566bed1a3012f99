/-
  Layer 20: the walk of PointsMakes.
-/
import Derived.Test.YtennkfpehdijcaaLaw20
namespace Go.Proofs.Ytennkfpehdijcaa
open Go.RowKit

theorem numsQ_all (b : List UInt8) : (List.range 128).map (nmQ b) = numsQ b := rfl
set_option maxHeartbeats 1600000 in
theorem pointsMakes_any (b : List UInt8) (hb : b.length = 256) (w : World) :
    Calls Try.prog 6 #[.agg (bcells b)] w fun e w' => e = .returned (.bool true) ∧ Below w.heap.size w w' := by
  have HbL := Lib.hid hb
  have HzL : Hid ((zeros 256).length = 256) := Lib.hid (zeros_len _)
  have HM := Lib.hid (show mkE (numsQ b) = 0 ∧ mkB (numsQ b) = b by
    obtain ⟨h1, h2⟩ := mk_yes (l := numsQ b) (by rw [numsQ_len]; omega) (fine_all (numsQ_fine b))
    exact ⟨h1, by rw [h2, blkQ_numsQ hb]⟩)
  have HLs := Lib.hid (lisQ_lst b 128)
  have HLl := Lib.hid (lisQ_len b 128)
  clear hb
  go_enter Try.func6, Try.ntmps6
  go_wp2_with (refine wpList_box_row rfl _ _ rfl _ rfl ?_)
  apply Stop.go; intro w1 Hg1 Hb1
  go_wp2_with (first | refine wpList_load_arr rfl _ _ rfl _ rfl _ _ Hb1.out _ _ Try.underlying22 (Try.arr256Fits HbL.out) ?_ | refine wpList_alloc_row rfl _ rfl _ Try.blockZero ?_)
  apply Stop.go; intro w2 Hg2 Hb2
  have z2 := Lib.hid (show w.heap.size < w1.heap.size by have := Hg1.out.2; omega)
  go_wp2_with (refine wpList_store_arr rfl _ _ _ rfl _ _ rfl rfl _ _ Hb2.out (Try.blockFits HbL.out) (by rw [bcells_size, bcells_size, HbL.out, HzL.out]) (oneCell_bcells _) ?_)
  apply Stop.go; intro w3 Ho3 Hb3
  have E3 := Lib.hid (bonly (bt Hg1.out.1 Hg2.out.1) Ho3.out (by have := z2.out; omega))
  have Z3 := Lib.hid (show w1.heap.size < w3.heap.size from Hb3.out.lt)
  generalize w1.heap.size = g1 at *
  clear Hg1 Hb1 Hg2 Hb2 Ho3
  go_wp2_with fail
  go_loopw [4, 5] (fun u i wr => ∃ k : Nat, k ≤ 128 ∧ i = .int .i64 k ∧ Hid (Blk wr g1 23 (bcells b)) ∧ Hid (Below w.heap.size w wr) ∧ Hid (OwnC wr (g1 + 1) 3 u (ivals ((List.range k).map (nmQ b))))) (fun _ i _ => 128 - (intOf i).toNat)
  case atStart => exact ⟨0, Nat.zero_le _, rfl, Hb3, E3, Lib.hid (OwnC.nil_ _ _ _)⟩
  case round =>
    obtain ⟨k, hk, rfl, HB, E, HO⟩ := hrel
    clear Hb3 E3 Z3
    by_cases hlt : k < 128
    · have d0 : decide ((k : Int) < 128) = true := by simp; omega
      have HLn := Lib.hid (show ((List.range k).map (nmQ b)).length = k by rw [List.length_map, List.length_range])
      have HNx := Lib.hid (numsK_next b k)
      go_wp2_with (refine wpList_load_arr rfl _ _ rfl _ rfl _ _ HB.out _ _ Try.underlying23 (Try.blockFits HbL.out) ?_)
      refine (qget_any b HbL.out k _).mono ?_; rintro e w4 ⟨rfl, hb4⟩
      rw [getQ_nat b hlt]
      have HB4 := Lib.hid (HB.out.ext hb4)
      have E4 := Lib.hid (bt E.out hb4)
      have HO4 := Lib.hid (HO.out.ext hb4)
      have Z4 := Lib.hid (show g1 + 1 ≤ w4.heap.size by have := HB4.out.lt; omega)
      generalize nmQ b k = x at *
      generalize (List.range k).map (nmQ b) = l at *
      have hl1 : (ivals l).length + 1 ≤ maxLen := by rw [ivals_len, HLn.out]; unfold maxLen; omega
      have hl2 : ((ivals l).length + 1) * 8 ≤ 140737488355328 := by rw [ivals_len, HLn.out]; omega
      clear hb4 HB E HO
      go_wp2_with (at_builtin; refine wpList_append_one rfl _ _ _ _ rfl Try.underlying24 (.int .i64 0) 8 Try.intInfo rfl (g1 + 1) _ _ rfl HO4.out (.int .i64 x) rfl rfl Z4.out hl1 hl2 ?_)
      apply Stop.go
      intro v' w5 Hv' Ha'
      have HO5 := Lib.hid (show OwnC w5 (g1 + 1) 3 v' (ivals (l ++ [x])) by rw [← ivals_snoc]; exact Hv'.out)
      have HB5 := Lib.hid (HB4.out.below Ha'.out.below (by omega))
      have E5 := Lib.hid (E4.out.trans (Ha'.out.below.mono (by have := z2.out; omega)))
      clear Hv' Ha' HO4 HB4 E4 Z4 hl1 hl2
      go_wp2_with fail
      go_roundw
      case rel => exact ⟨k + 1, by omega, by go_num, HB5, E5, Lib.hid (by rw [HNx.out]; exact HO5.out)⟩
      case measure => simp [intOf]; omega
    · obtain rfl : k = 128 := by omega
      rw [numsQ_all] at HO
      obtain ⟨A, c, hu, hc, hm, hr⟩ := HO.out.ints
      rw [numsQ_len] at hu hc
      subst hu
      have Hr := Lib.hid hr
      clear hr hc hm HO
      go_wp2_with fail
      refine (qmake_any A 128 c (numsQ b) (numsQ_len b) (by unfold maxLen; omega) _ Hr.out).mono ?_; rintro e w4 ⟨rfl, hb4⟩
      rw [HM.out.1, HM.out.2]
      have HB4 := Lib.hid (HB.out.ext hb4)
      have E4 := Lib.hid (bt E.out hb4)
      clear hb4 HB E Hr
      go_wp2_with (refine wpList_alloc_row rfl _ rfl _ Try.blockZero ?_)
      apply Stop.go; intro w5 Hg5 Hb5
      go_wp2_with (refine wpList_store_arr rfl _ _ _ rfl _ _ rfl rfl _ _ Hb5.out (Try.blockFits HbL.out) (by rw [bcells_size, bcells_size, HbL.out, HzL.out]) (oneCell_bcells _) ?_)
      apply Stop.go; intro w6 Ho6 Hb6
      have D6 := Lib.hid (bonly Hg5.out.1 Ho6.out (Nat.le_refl _))
      have HB6 := Lib.hid (HB4.out.ext D6.out)
      have E6 := Lib.hid (bt E4.out D6.out)
      generalize w4.heap.size = g4 at *
      clear Hg5 Hb5 Ho6 D6 HB4 E4
      go_wp2_with fail
      refine WH.start (S := fun w' : World => Blk w' g1 23 (bcells b) ∧ Blk w' g4 23 (bcells b)) [false, false, false, false, false, false, false, false, false, false, false, false, false, false, false, false, false, false, false] 19 rfl rfl (by kernel_rfl) ⟨HB6.out.ext (bdrew w6 1), Hb6.out.ext (bdrew w6 1)⟩ (fun hSn => ?_); obtain ⟨wS, hwS⟩ : ∃ x, (w6).drew = x := ⟨_, rfl⟩; have HE := Lib.hid (show Below (w6).heap.size (w6) wS from hwS ▸ bdrew w6 1); rw [hwS] at hSn ⊢; clear hwS
      refine WH.tk 0 ?_; simp only [setL]
      refine WH.tk 1 ?_; simp only [setL]
      refine WH.tk 2 ?_; simp only [setL]
      refine WH.tv 3 rfl (fun w' hSw => exec_load_blk _ _ rfl _ rfl _ _ (hSw.2) _ (Try.underlying23) rfl (Try.blockFits HbL.out)) ?_; simp only [setL]
      refine WH.tv 4 rfl (fun w' hSw => exec_load_blk _ _ rfl _ rfl _ _ (hSw.1) _ (Try.underlying23) rfl (Try.blockFits HbL.out)) ?_; simp only [setL]
      refine WH.tv 5 rfl (fun w' hSw => exec_eql_arr _ _ _ _ rfl (by kernel_rfl) _ _ Try.underlying23 Try.underlying5 Try.byteSize b b rfl rfl HbL.out HbL.out true (beq_self_eq_true _)) ?_; simp only [setL]
      refine WH.tk 6 ?_; simp only [setL]
      refine WH.tk 7 ?_; simp only [setL]
      refine WH.tv 8 rfl (fun w' hSw => exec_load_blk _ _ rfl _ rfl _ _ (hSw.1) _ (Try.underlying23) rfl (Try.blockFits HbL.out)) ?_; simp only [setL]
      refine WH.tv 11 rfl (fun w' hSw => exec_load_blk _ _ rfl _ rfl _ _ (hSw.1) _ (Try.underlying23) rfl (Try.blockFits HbL.out)) ?_; simp only [setL]
      refine WH.only 9 _ rfl (by kernel_rfl) rfl (fun K hK => ?_)
      go_simp; refine (qlist_any b HbL.out _).mono ?_; rintro e w7 ⟨v7, rfl, hv7, hb7⟩; go_simp
      obtain ⟨A7, c7, rfl, hc7, hm7, hr7⟩ := hv7.ints
      have HE := Lib.hid (bt HE.out hb7)
      have hls := HLs.out
      have hll := HLl.out
      obtain ⟨N, hN⟩ : ∃ N, (lisQ b 128).length = N := ⟨_, rfl⟩
      obtain ⟨M, hM⟩ : ∃ M, lstQ b 128 = M := ⟨_, rfl⟩
      rw [hN] at hls hll ⊢
      rw [hM] at hls
      have HM := Lib.hid hM
      clear hN hM hv7 hr7 hc7 hm7
      have dl : decide ((N : Int) ≤ (M : Int)) = true := by simp; omega
      have dn : decide (N ≤ M) = true := by simp; omega
      have hSn := And.intro (hSn.1.ext hb7) (hSn.2.ext hb7); refine hK _ _ hSn ?_; clear hK; clear K; simp only [setL]
      refine WH.tk 10 ?_; simp only [setL]
      refine WH.only 12 _ rfl (by kernel_rfl) rfl (fun K hK => ?_)
      go_simp; refine (qlast_any b HbL.out _).mono ?_; rintro e w8 ⟨rfl, hb8⟩; go_simp
      rw [HM.out]
      have HE := Lib.hid (bt HE.out hb8)
      have hSn := And.intro (hSn.1.ext hb8) (hSn.2.ext hb8); refine hK _ _ hSn ?_; clear hK; clear K; simp only [setL]
      refine WH.tk 13 ?_; simp only [setL]
      refine WH.tk 14 ?_; simp only [setL]
      refine WH.tk 15 ?_; simp only [setL]
      refine WH.only 16 _ rfl (by kernel_rfl) rfl (fun K hK => ?_)
      go_simp; refine (works20_any _).mono ?_; rintro e w9 ⟨rfl, hb9⟩; go_simp
      have HE := Lib.hid (bt HE.out hb9)
      have hSn := And.intro (hSn.1.ext hb9) (hSn.2.ext hb9); refine hK _ _ hSn ?_; clear hK; clear K; simp only [setL]
      refine WH.tk 17 ?_; simp only [setL]
      refine WH.tk 18 ?_; simp only [setL]
      refine WH.done (by kernel_rfl) ?_
      go_wp2_with fail
      go_ret
      exact ⟨rfl, bt E6.out HE.out⟩

end Go.Proofs.Ytennkfpehdijcaa
