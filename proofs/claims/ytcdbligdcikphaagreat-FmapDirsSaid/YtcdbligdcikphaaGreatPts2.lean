/-
  Contracts of package points: Make, List, Last.
-/
import Derived.Test.YtcdbligdcikphaaGreatPts1
import Derived.Test.YtcdbligdcikphaaGreatRetI
import Derived.Test.YtcdbligdcikphaaGreatHeldT
namespace Go.Proofs.YtcdbligdcikphaaGreat
open Go.RowKit
set_option maxRecDepth 10000

set_option maxHeartbeats 1600000 in
theorem qmake_any (A : Option Addr) (n cap : Nat) (l : List Int) (hn : l.length = n) (hm : n ≤ maxLen) (w : World) (hr : RC w A (ivals l)) :
    Calls Tryz.prog 17 #[.slice A n cap] w fun e w' => e = .returned (.tuple #[.agg (bcells (mkB l)), .int .i64 (mkE l)]) ∧ Below w.heap.size w w' := by
  unfold maxLen at hm
  have Hn := Lib.hid hn
  have Hr := Lib.hid hr
  have HzL : Hid ((zeros 256).length = 256) := Lib.hid (zeros_len _)
  clear hn hr
  go_enter Tryz.func17, Tryz.ntmps17
  go_wp2_with (refine wpList_alloc_row rfl _ rfl _ Tryz.blockZero ?_)
  apply Stop.go; intro w1 Hg1 Hb1
  have E1 := Lib.hid Hg1.out.1
  by_cases hbig : 128 < n
  · have H0 := Lib.hid (mk_many (l := l) (by rw [Hn.out]; exact hbig))
    have d0 : decide ((128 : Int) < (n : Int)) = true := by simp; omega
    clear Hg1
    go_wp2_with (first | refine wpList_build_zero rfl _ rfl _ Tryz.blockZero _ _ Tryz.underlying55 Tryz.byteSize ?_ | refine wpList_store_arr rfl _ _ _ rfl _ _ rfl rfl _ _ Hb1.out (Tryz.blockFits HzL.out) rfl (oneCell_bcells _) ?_)
    apply Stop.go; intro wc Hoc Hbc
    go_wp2_with ((with_reducible show bodyPost _ _ _ _ _ _); refine bodyPost_cell_tmp rfl _ rfl _ _ Hbc.out _ _ Tryz.underlying55 (Tryz.blockFits HzL.out) rfl _ rfl ?_)
    apply Stop.go
    rw [H0.out.1, H0.out.2]
    exact ⟨⟨rfl, rfl⟩, bonly E1.out Hoc.out (Nat.le_refl _)⟩
  · have d0 : decide ((128 : Int) < (n : Int)) = false := by simp; omega
    have hn8 : n ≤ 128 := by omega
    clear hbig
    go_wp2_with (refine wpList_alloc_row rfl _ rfl _ Tryz.blockZero ?_)
    apply Stop.go; intro w2 Hg2 Hb2
    have HR2 := Lib.hid (Hb1.out.ext Hg2.out.1)
    have E2 := Lib.hid (bt E1.out Hg2.out.1)
    have z2 := Lib.hid (show w.heap.size < w1.heap.size by have := Hg1.out.2; omega)
    generalize w1.heap.size = g1 at *
    clear Hb1 Hg1 Hg2 E1
    go_wp2_with fail
    go_loopw [5, 6, 13] (fun _ _ i wr => ∃ k : Nat, k ≤ n ∧ i = .int .i64 k ∧ Hid (Blk wr g1 55 (bcells (blkQ (l.take k)))) ∧ Hid (Blk wr w.heap.size 55 (bcells (zeros 256))) ∧ Hid (Below w.heap.size w wr) ∧ Hid ((l.take k).all shortB = true)) (fun _ _ i _ => n - (intOf i).toNat)
    case atStart => exact ⟨0, Nat.zero_le _, rfl, Hb2, HR2, E2, Lib.hid rfl⟩
    case round =>
      obtain ⟨k, hk, rfl, HB, HR, E, HA⟩ := hrel
      clear Hb2 HR2 E2
      by_cases hlt : k < n
      · have hkl : k < l.length := by rw [Hn.out]; exact hlt
        have Hr' := Lib.hid (Hr.out.below E.out)
        obtain ⟨ad, rfl, hc⟩ := Hr'.out.int k hkl
        have HT := Lib.hid (List.take_succ_eq_append_getElem hkl)
        have HTl := Lib.hid (show (l.take k).length = k by rw [List.length_take]; omega)
        have HBL := Lib.hid (blkQ_len (l := l.take k) (by rw [List.length_take]; omega))
        have HXM := Lib.hid (List.getElem_mem hkl)
        generalize l[k] = x at *
        go_wp2_with fail
        refine (qshort_any x _).mono ?_; rintro e w3 ⟨rfl, rfl⟩
        cases hx : shortB x
        · have H0 := Lib.hid (mk_not (l := l) (by rw [Hn.out]; exact hn8) (by
            rw [List.all_eq_false]
            exact ⟨x, HXM.out, by rw [hx]; simp⟩))
          clear hx
          go_wp2_with (first | refine wpList_build_zero rfl _ rfl _ Tryz.blockZero _ _ Tryz.underlying55 Tryz.byteSize ?_ | refine wpList_store_arr rfl _ _ _ rfl _ _ rfl rfl _ _ HR.out (Tryz.blockFits HzL.out) rfl (oneCell_bcells _) ?_)
          apply Stop.go; intro wc Hoc Hbc
          go_wp2_with ((with_reducible show bodyPost _ _ _ _ _ _); refine bodyPost_cell_tmp rfl _ rfl _ _ Hbc.out _ _ Tryz.underlying55 (Tryz.blockFits HzL.out) rfl _ rfl ?_)
          apply Stop.go
          rw [H0.out.1, H0.out.2]
          exact ⟨⟨rfl, rfl⟩, bonly E.out Hoc.out (Nat.le_refl _)⟩
        · have HA' := Lib.hid (show (l.take (k + 1)).all shortB = true by rw [HT.out, List.all_append, HA.out]; simp [hx])
          obtain ⟨hx0, hx1⟩ := short_iff.1 hx
          obtain ⟨v, rfl⟩ := Int.eq_ofNat_of_zero_le hx0
          have hv : v < 65536 := by omega
          have HN := Lib.hid (show nwithL (blkQ (l.take k)) (2 * (k : Int)) 2 v = blkQ (l.take (k + 1)) by rw [HT.out, ← blkQ_next HTl.out (by omega)]; rfl)
          have HNL := Lib.hid (blkQ_len (l := l.take (k + 1)) (by rw [List.length_take]; omega))
          have HW := Lib.hid (show IntKind.u64.wrap (v : Int) = ((v : Nat) : Int) from IntWalk.u64_in _ (by omega))
          have HV := Lib.hid (show v < 18446744073709551616 by omega)
          have hk8 : k < 128 := by omega
          clear hx hx0 hx1 HXM
          go_wp2_with fail
          refine WT.start 5 (S := fun w' : World => Blk w' g1 55 (bcells (blkQ (l.take k)))) [false, false, false, false, false, false] 6 rfl rfl (by kernel_rfl) (HB.out.ext (bdrew wr 1)) (fun hSn => ?_); obtain ⟨wS, hwS⟩ : ∃ x, (wr).drew = x := ⟨_, rfl⟩; have HE := Lib.hid (show Below (wr).heap.size (wr) wS from hwS ▸ bdrew wr 1); rw [hwS] at hSn ⊢; clear hwS
          refine WT.tv 0 rfl (fun w' hSw => run_load_arr _ _ rfl _ rfl _ _ hSw _ _ Tryz.underlying55 (Tryz.blockFits HBL.out)) ?_; simp only [setL]
          refine WT.tk 1 ?_; simp only [setL]
          refine WT.tk 3 ?_; simp only [setL]
          refine WT.only 2 _ rfl (by kernel_rfl) rfl (fun K hK => ?_)
          go_simp; refine (qat_any k hk8 _).mono ?_; rintro e wa ⟨rfl, rfl⟩; go_simp
          have hSn := hSn; refine hK _ _ hSn ?_; clear hK; clear K; simp only [setL]
          refine WT.only 4 _ rfl (by kernel_rfl) rfl (fun K hK => ?_)
          go_simp; refine (nwith_any _ HBL.out (2 * (k : Int)) 2 (v : Int) v HW.out HV.out _).mono ?_; rintro e wb ⟨rfl, hbb⟩; go_simp
          rw [HN.out]
          have HE := Lib.hid (bt HE.out hbb)
          have hSn := hSn.ext hbb; refine hK _ _ hSn ?_; clear hK; clear K; simp only [setL]
          refine WT.last _ rfl (by kernel_rfl) rfl (fun K hK => ?_)
          refine ow_store _ _ _ rfl _ _ rfl rfl _ _ hSn (Tryz.blockFits HNL.out) (by rw [bcells_size, bcells_size, HNL.out, HBL.out]) (oneCell_bcells _) ?_
          apply Stop.go; intro wd Hod Hbd
          have HRd := Lib.hid ((HR.out.ext HE.out).only Hod.out (by have := z2.out; omega))
          have Ed := Lib.hid (bonly (bt E.out HE.out) Hod.out (by have := z2.out; omega))
          refine hK _ _ ?_; clear hK; clear K; simp only [setL]; refine WT.done (by kernel_rfl) ?_
          clear hSn HB HR E HE HA Hod
          go_wp2_with fail
          go_roundw
          case rel => exact ⟨k + 1, by omega, by go_num, Hbd, HRd, Ed, HA'⟩
          case measure => simp [intOf]; omega
      · obtain rfl : k = n := by omega
        have HTk : Hid (l.take k = l) := Lib.hid (List.take_of_length_le (by rw [Hn.out]; omega))
        rw [HTk.out] at HB HA
        have H0 := Lib.hid (mk_yes (l := l) (by rw [Hn.out]; exact hn8) HA.out)
        have HBL := Lib.hid (blkQ_len (l := l) (by rw [Hn.out]; exact hn8))
        clear HA
        go_wp2_with (first | refine wpList_load_arr rfl _ _ rfl _ rfl _ _ HB.out _ _ Tryz.underlying55 (Tryz.blockFits HBL.out) ?_ | refine wpList_store_arr rfl _ _ _ rfl _ _ rfl rfl _ _ HR.out (Tryz.blockFits HBL.out) (by rw [bcells_size, bcells_size, HBL.out, HzL.out]) (oneCell_bcells _) ?_)
        apply Stop.go; intro wc Hoc Hbc
        go_wp2_with ((with_reducible show bodyPost _ _ _ _ _ _); refine bodyPost_cell_tmp rfl _ rfl _ _ Hbc.out _ _ Tryz.underlying55 (Tryz.blockFits HBL.out) rfl _ rfl ?_)
        apply Stop.go
        rw [H0.out.1, H0.out.2]
        exact ⟨⟨rfl, rfl⟩, bonly E.out Hoc.out (Nat.le_refl _)⟩

set_option maxHeartbeats 1600000 in
theorem qlist_any (b : List UInt8) (hb : b.length = 256) (w : World) :
    Calls Tryz.prog 75 #[.agg (bcells b)] w (RetL w (lisQ b 128)) := by
  have HbL := Lib.hid hb
  clear hb
  go_enter Tryz.func75, Tryz.ntmps75
  go_wp2_with (refine wpList_box_row rfl _ _ rfl _ rfl ?_)
  apply Stop.go; intro w1 Hg1 Hb1
  go_wp2_with fail
  go_loopw [3, 4, 5, 6] (fun u _ _ i wr => ∃ k : Nat, k ≤ 128 ∧ i = .int .i64 k ∧ Hid (Blk wr w.heap.size 55 (bcells b)) ∧ Hid (Below w.heap.size w wr) ∧ Hid (OwnC wr (w.heap.size + 1) 3 u (ivals (lisQ b k)))) (fun _ _ _ i _ => 128 - (intOf i).toNat)
  case atStart => exact ⟨0, Nat.zero_le _, rfl, Hb1, Lib.hid Hg1.out.1, Lib.hid (OwnC.nil_ _ _ _)⟩
  case round =>
    obtain ⟨k, hk, rfl, HB, E, HO⟩ := hrel
    clear Hb1 Hg1
    by_cases hlt : k < 128
    · have d0 : decide ((k : Int) < 128) = true := by simp; omega
      go_wp2_with (refine wpList_load_arr rfl _ _ rfl _ rfl _ _ HB.out _ _ Tryz.underlying55 (Tryz.blockFits HbL.out) ?_)
      refine (qget_any b HbL.out k _).mono ?_; rintro e w2 ⟨rfl, hb2⟩
      rw [getQ_nat b hlt]
      have HB2 := Lib.hid (HB.out.ext hb2)
      have E2 := Lib.hid (bt E.out hb2)
      have HO2 := Lib.hid (HO.out.ext hb2)
      have Z2 := Lib.hid (show w.heap.size + 1 ≤ w2.heap.size by have := HB2.out.lt; omega)
      have HL := Lib.hid (lisQ_len b k)
      have HNo := Lib.hid (lisQ_no (b := b) (n := k))
      have HYes := Lib.hid (lisQ_yes (b := b) (n := k))
      generalize nmQ b k = x at *
      clear hb2 HB E HO
      by_cases hx : x = 0
      · have HN := Lib.hid (HNo.out hx)
        have d1 : (x != 0) = false := by simpa using hx
        clear hx HNo HYes
        go_wp2_with fail
        go_roundw
        case rel => exact ⟨k + 1, by omega, by go_num, HB2, E2, Lib.hid (by rw [HN.out]; exact HO2.out)⟩
        case measure => simp [intOf]; omega
      · have HN := Lib.hid (HYes.out hx)
        have d1 : (x != 0) = true := by simpa using hx
        clear hx HNo HYes
        have hl1 : (ivals (lisQ b k)).length + 1 ≤ maxLen := by rw [ivals_len]; unfold maxLen; have := HL.out; omega
        have hl2 : ((ivals (lisQ b k)).length + 1) * 8 ≤ 140737488355328 := by rw [ivals_len]; have := HL.out; omega
        go_wp2_with (at_builtin; refine wpList_append_one rfl _ _ _ _ rfl Tryz.underlying50 (.int .i64 0) 8 Tryz.intInfo rfl (w.heap.size + 1) _ _ rfl HO2.out (.int .i64 x) rfl rfl Z2.out hl1 hl2 ?_)
        apply Stop.go
        intro v' w3 Hv' Ha'
        have HO3 := Lib.hid (show OwnC w3 (w.heap.size + 1) 3 v' (ivals (lisQ b (k + 1))) by rw [HN.out, ← ivals_snoc]; exact Hv'.out)
        have HB3 := Lib.hid (HB2.out.below Ha'.out.below (by omega))
        have E3 := Lib.hid (E2.out.trans (Ha'.out.below.mono (by omega)))
        clear Hv' Ha' HO2 HB2 E2 HL hl1 hl2 HN
        go_wp2_with fail
        go_roundw
        case rel => exact ⟨k + 1, by omega, by go_num, HB3, E3, HO3⟩
        case measure => simp [intOf]; omega
    · obtain rfl : k = 128 := by omega
      have HOw := Lib.hid (HO.out.low (B' := w.heap.size) (by omega))
      clear HO
      go_wp2_with fail
      go_ret
      exact ⟨_, rfl, HOw.out, E.out⟩


end Go.Proofs.YtcdbligdcikphaaGreat
