/-
  Layer 17: the walk of TableKeeps.
-/
import Derived.Test.YtdngfonbobcgjaaLaw17b
import Derived.Test.YtdngfonbobcgjaaTabO
namespace Go.Proofs.Ytdngfonbobcgjaa
set_option maxRecDepth 100000
open Go.RowKit

/-- '==', '!=' of values, where the walk is to stop behind it (a law that is tried at an operation whose guard is false hangs). -/
theorem wpList_eql_stop {P : Program} {ops : Array Oper} {rest : List Oper} {o : Oper} {a : Act} {w : World} {Q : Exit → Act → World → Prop} (hgd : Region.wanted o (yielded ops a.tmps) = true) (b : BinOp) (t t' : TypeId) (x y : Operand) (ho : o.op = .binOp b t x y t') (hm : P.eqGuardType P.depth t = false)
    (xs ys : Array Value) (hx : a.eval x = .agg xs) (hy : a.eval y = .agg ys) (v : Value) (hrun : (binOp b t (.agg xs) (.agg ys)).run P w = .ok v w)
    (h : Stop (wpList P ops Q rest (a.put o.dst v) w)) : wpList P ops Q (o :: rest) a w := wpList_eql_agg hgd b t t' x y ho hm xs ys hx hy v hrun h
theorem mod8 (x : UInt8) : ∃ j : Nat, j < 8 ∧ ((x.toNat : Int) % 8) = (j : Int) ∧ Int.tmod (x.toNat : Int) 8 = (j : Int) ∧ x.toNat % 8 = j ∧ IntKind.i64.wrap (j : Int) = (j : Int) := ⟨x.toNat % 8, Nat.mod_lt _ (by omega), by omega, by rw [Int.tmod_eq_emod_of_nonneg (by omega)]; omega, rfl, IntWalk.i64_in _ (by have := Nat.mod_lt x.toNat (show 0 < 8 by omega); omega)⟩

set_option maxHeartbeats 6400000 in
theorem tableKeeps_any (b : List UInt8) (hb : b.length = 256) (a0 a1 : UInt8) (l0 l1 : List Int) (hl0 : l0.length = 11) (hl1 : l1.length = 11) (w : World) :
    Calls Try.prog 5 #[.agg (bcells b), .agg (bcells [a0, a1]), .agg (icells (l0 ++ l1))] w fun e w' => e = .returned (.bool true) ∧ Below w.heap.size w w' := by
  have HbL := Lib.hid hb
  have HL0 := Lib.hid hl0
  have HL1 := Lib.hid hl1
  have HzL : Hid ((zeros 256).length = 256) := Lib.hid (zeros_len _)
  have HF0 := Lib.hid (show ((l0 ++ l1).drop 0).take l0.length = l0 by simp)
  have HF1 := Lib.hid (show ((l0 ++ l1).drop 11).take l1.length = l1 by rw [← hl0]; simp)
  obtain ⟨j, hj8, j1, j2, j3, j4⟩ := mod8 a0
  obtain ⟨k, hk8, k1, k2, k3, k4⟩ := mod8 a1
  have HT0 := Lib.hid (fun w => twith_any b hb (j : Int) l0 hl0 w)
  have HT1 := Lib.hid (fun X (h : X.length = 256) w => twith_any X h (k : Int) l1 hl1 w)
  have HT2 := Lib.hid (fun X (h : X.length = 256) w => twith_any X h (j : Int) l0 hl0 w)
  have HRB := Lib.hid (fun n w => traw_any b hb n w)
  have HX : Hid (∃ X, X = withT b (j : Int) l0) := Lib.hid ⟨_, rfl⟩
  obtain ⟨X, hX⟩ := HX.out
  have HXL := Lib.hid (show X.length = 256 by rw [hX]; exact withT_len hb _ _)
  obtain ⟨Y, hY⟩ : ∃ Y, Y = withT X (k : Int) l1 := ⟨_, rfl⟩
  have HYL := Lib.hid (show Y.length = 256 by rw [hY]; exact withT_len HXL.out _ _)
  have HRY := Lib.hid (fun n w => traw_any Y HYL.out n w)
  have HGT := Lib.hid (fun n w => tget_any Y HYL.out n w)
  have HUS := Lib.hid (fun w => tused_any Y HYL.out w)
  have HULen := Lib.hid (usedT_len (freeT Y) 8)
  obtain ⟨z, HZ⟩ : ∃ z, Hid (usedT (freeT Y) 8 = z) := ⟨_, Lib.hid rfl⟩
  rw [HZ.out] at HUS HULen
  obtain ⟨m0, Hm0⟩ : ∃ m, Hid (mayI l0 = m) := ⟨_, Lib.hid rfl⟩
  obtain ⟨m1, Hm1⟩ : ∃ m, Hid (mayI l1 = m) := ⟨_, Lib.hid rfl⟩
  have HE0 := Lib.hid (show errT (j : Int) l0 = if m0 then 0 else 1 by rw [errT_nat hj8, Hm0.out])
  have HE1 := Lib.hid (show errT (k : Int) l1 = if m1 then 0 else 1 by rw [errT_nat hk8, Hm1.out])
  have HRAW := Lib.hid (fun (n : Nat) (hn : n < 8) (h1 : n ≠ j) (h2 : n ≠ k) => show rawT Y (n : Int) = rawT b (n : Int) by rw [hY, rawT_other HXL.out hk8 hn h2 hl1, hX, rawT_other hb hj8 hn h1 hl0])
  have HGK := Lib.hid (fun (h : m1 = true) => show getTV Y (k : Int) = l1 ∧ (getT Y (k : Int)).isSome = true by unfold getTV; rw [hY, getT_same HXL.out hk8 hl1 (by rw [Hm1.out, h])]; exact ⟨rfl, rfl⟩)
  have HGJ := Lib.hid (fun (h : m0 = true) (hne : j ≠ k) => show getTV Y (j : Int) = l0 ∧ (getT Y (j : Int)).isSome = true by unfold getTV; rw [hY, getT_other HXL.out hk8 hj8 hne hl1, hX, getT_same hb hj8 hl0 (by rw [Hm0.out, h])]; exact ⟨rfl, rfl⟩)
  have HSW := Lib.hid (fun (h : m0 = true) (h' : m1 = true) (hne : j ≠ k) => show withT (withT b (k : Int) l1) (j : Int) l0 = Y by rw [hY, hX]; exact withT_swap hb hj8 hk8 hne hl0 hl1 (by rw [Hm0.out, h]) (by rw [Hm1.out, h']))
  rw [HE0.out, ← hX] at HT0
  have HTY := Lib.hid (HT1.out X HXL.out)
  rw [HE1.out, ← hY] at HTY
  obtain ⟨e0, He0⟩ : ∃ e : Int, Hid ((if m0 then 0 else 1) = e) := ⟨_, Lib.hid rfl⟩
  obtain ⟨e1, He1⟩ : ∃ e : Int, Hid ((if m1 then 0 else 1) = e) := ⟨_, Lib.hid rfl⟩
  rw [He0.out] at HT0
  rw [He1.out] at HTY
  clear hX hY HX HZ Hm0 Hm1 HE0 HE1 hb hl0 hl1
  go_enter Try.func5, Try.ntmps5
  go_wp2_with (refine wpList_box_row rfl _ _ rfl _ rfl ?_)
  apply Stop.go; intro w1 Hg1 Hb1
  go_wp2_with (refine wpList_box_row rfl _ _ rfl _ rfl ?_)
  apply Stop.go; intro w2 Hg2 Hb2
  go_wp2_with (refine wpList_box_row rfl _ _ rfl _ rfl ?_)
  apply Stop.go; intro w3 Hg3 HI3
  have HB3 := Lib.hid ((Hb1.out.ext Hg2.out.1).ext Hg3.out.1)
  have HA3 := Lib.hid (Hb2.out.ext Hg3.out.1)
  have E3 := Lib.hid (bt (bt Hg1.out.1 Hg2.out.1) Hg3.out.1)
  generalize w1.heap.size = g1 at *
  generalize w2.heap.size = g2 at *
  clear Hb1 Hb2 Hg1 Hg2 Hg3
  go_wp2_with fail
  refine WH.start (S := fun w' : World => w'.cell? ⟨g1, 0, none⟩ = some (.int .u8 (a0.toNat : Int)) ∧ w'.cell? ⟨g1, 1, none⟩ = some (.int .u8 (a1.toNat : Int))) [false, false, false, false, false, false, false, false, false, false] 10 rfl rfl (by kernel_rfl) ⟨(HA3.out.ext (bdrew w3 1)).cell 0, (HA3.out.ext (bdrew w3 1)).cell 1⟩ (fun hSn => ?_); obtain ⟨wS, hwS⟩ : ∃ x, (w3).drew = x := ⟨_, rfl⟩; have HE := Lib.hid (show Below (w3).heap.size (w3) wS from hwS ▸ bdrew w3 1); rw [hwS] at hSn ⊢; clear hwS
  refine WH.tk 0 ?_; simp only [setL]
  refine WH.tv 1 rfl (fun w' hSw => exec_load_cell _ _ rfl ⟨g1, 0, none⟩ rfl _ hSw.1 _ Try.underlying5 rfl) ?_; simp only [setL]
  refine WH.tk 2 ?_; simp only [setL]
  refine WH.tk 3 ?_; simp only [setL]
  refine WH.tk 4 ?_; simp only [setL]
  refine WH.tv 5 rfl (fun w' hSw => exec_load_cell _ _ rfl ⟨g1, 1, none⟩ rfl _ hSw.2 _ Try.underlying5 rfl) ?_; simp only [setL]
  refine WH.tk 6 ?_; simp only [setL]
  refine WH.tk 7 ?_; simp only [setL]
  refine WH.tk 8 ?_; simp only [setL]
  refine WH.tk 9 ?_; simp only [setL]
  refine WH.done (by kernel_rfl) ?_
  have HB4 := Lib.hid (HB3.out.ext HE.out)
  have HI4 := Lib.hid (HI3.out.ext HE.out)
  have E4 := Lib.hid (bt E3.out HE.out)
  clear HB3 HA3 HI3 E3 HE hSn j1 j2 j3 j4 k1 k2 k3 k4
  go_wp2_with (first | refine wpList_load_arr rfl _ _ rfl _ rfl _ _ HB4.out _ _ Try.underlying22 (Try.arr256Fits HbL.out) ?_ | refine wpList_load_ino rfl _ _ rfl g2 0 rfl _ _ _ HI4.out HF0.out _ Try.underlying25 rfl (Try.inoFits HL0.out) ?_)
  refine (HT0.out _).mono ?_; rintro e w5 ⟨rfl, hb5⟩
  have HB5 := Lib.hid (HB4.out.ext hb5)
  have HI5 := Lib.hid (HI4.out.ext hb5)
  have E5 := Lib.hid (bt E4.out hb5)
  clear hb5 HB4 HI4 E4
  go_wp2_with (refine wpList_alloc_row rfl _ rfl _ Try.blockZero ?_)
  apply Stop.go; intro w6 Hg6 Hb6
  go_wp2_with (refine wpList_store_arr rfl _ _ _ rfl _ _ rfl rfl _ _ Hb6.out (Try.blockFits HXL.out) (by rw [bcells_size, bcells_size, HXL.out, HzL.out]) (oneCell_bcells _) ?_)
  apply Stop.go; intro w7 Ho7 HY7
  have D7 := Lib.hid (bonly Hg6.out.1 Ho7.out (Nat.le_refl _))
  have HB7 := Lib.hid (HB5.out.ext D7.out)
  have HI7 := Lib.hid (HI5.out.ext D7.out)
  have E7 := Lib.hid (bt E5.out D7.out)
  generalize w5.heap.size = g3 at *
  clear Hg6 Hb6 Ho7 D7 HB5 HI5 E5
  go_wp2_with (first | refine wpList_load_arr rfl _ _ rfl _ rfl _ _ HY7.out _ _ Try.underlying26 (Try.blockFits HXL.out) ?_ | refine wpList_load_ino rfl _ _ rfl g2 11 rfl _ _ _ HI7.out HF1.out _ Try.underlying25 rfl (Try.inoFits HL1.out) ?_)
  refine (HTY.out _).mono ?_; rintro e w8 ⟨rfl, hb8⟩
  have HB8 := Lib.hid (HB7.out.ext hb8)
  have HI8 := Lib.hid (HI7.out.ext hb8)
  have E8 := Lib.hid (bt E7.out hb8)
  clear hb8 HB7 HI7 E7 HY7
  go_wp2_with (refine wpList_alloc_row rfl _ rfl _ Try.blockZero ?_)
  apply Stop.go; intro w9 Hg9 Hb9
  go_wp2_with (refine wpList_store_arr rfl _ _ _ rfl _ _ rfl rfl _ _ Hb9.out (Try.blockFits HYL.out) (by rw [bcells_size, bcells_size, HYL.out, HzL.out]) (oneCell_bcells _) ?_)
  apply Stop.go; intro wb Hob HYb
  have Db := Lib.hid (bonly Hg9.out.1 Hob.out (Nat.le_refl _))
  have HBb := Lib.hid (HB8.out.ext Db.out)
  have HIb := Lib.hid (HI8.out.ext Db.out)
  have Eb := Lib.hid (bt E8.out Db.out)
  generalize w8.heap.size = g4 at *
  clear Hg9 Hb9 Hob Db HB8 HI8 E8 HT0 HTY
  cases m0
  · obtain rfl : e0 = 1 := by rw [← He0.out]; rfl
    go_wp2_with fail
    refine (works17_any _).mono ?_; rintro e wc ⟨rfl, hbc⟩
    go_wp2_with fail
    go_ret
    exact ⟨rfl, bt Eb.out hbc⟩
  cases m1
  · obtain rfl : e0 = 0 := by rw [← He0.out]; rfl
    obtain rfl : e1 = 1 := by rw [← He1.out]; rfl
    go_wp2_with fail
    refine (works17_any _).mono ?_; rintro e wc ⟨rfl, hbc⟩
    go_wp2_with fail
    go_ret
    exact ⟨rfl, bt Eb.out hbc⟩
  obtain rfl : e0 = 0 := by rw [← He0.out]; rfl
  obtain rfl : e1 = 0 := by rw [← He1.out]; rfl
  have HGK1 := Lib.hid (HGK.out rfl)
  have HGJ1 := Lib.hid (HGJ.out rfl)
  have HSW0 := Lib.hid (HSW.out rfl rfl)
  clear He0 He1 HGK HGJ HSW
  go_wp2_with fail
  go_loopw [13] (fun i wr => ∃ n : Nat, n ≤ 8 ∧ i = .int .i64 n ∧ Hid (Blk wr w.heap.size 22 (bcells b)) ∧ Hid (Blk wr g2 56 (icells (l0 ++ l1))) ∧ Hid (Blk wr g4 26 (bcells Y)) ∧ Hid (Below w.heap.size w wr)) (fun i _ => 8 - (intOf i).toNat)
  case atStart => exact ⟨0, Nat.zero_le _, rfl, HBb, HIb, HYb, Eb⟩
  case round =>
    obtain ⟨n, hn, rfl, HBr, HIr, HYr, Er⟩ := hrel
    by_cases hlt : n < 8
    · have HN8 := Lib.hid (show n + 1 ≤ 8 by omega)
      have d0 : decide ((n : Int) < 8) = true := by simp; omega
      by_cases hnj : n = j
      · have d1 : ((n : Int) != (j : Int)) = false := by simp; omega
        clear hnj
        go_wp2_with fail
        refine WH.start (S := fun w' : World => Blk w' w.heap.size 22 (bcells b) ∧ Blk w' g4 26 (bcells Y)) [false, false, false, false, false, false, false, false, false, false, false, false, false, false, false, false, false] 17 rfl rfl (by kernel_rfl) ⟨HBr.out.ext (bdrew wr 1), HYr.out.ext (bdrew wr 1)⟩ (fun hSn => ?_); obtain ⟨wS, hwS⟩ : ∃ x, (wr).drew = x := ⟨_, rfl⟩; have HE := Lib.hid (show Below (wr).heap.size (wr) wS from hwS ▸ bdrew wr 1); rw [hwS] at hSn ⊢; clear hwS
        refine WH.tk 0 ?_; simp only [setL]
        refine WH.tk 1 ?_; simp only [setL]
        refine WH.tk 2 ?_; simp only [setL]
        refine WH.tk 3 ?_; simp only [setL]
        refine WH.skip 4 _ rfl (by kernel_rfl) (fun _ _ _ h => h) rfl (by assumption) ?_; simp only [setL]
        refine WH.skip 5 _ rfl (by kernel_rfl) (fun _ _ _ h => h) rfl (by assumption) ?_; simp only [setL]
        refine WH.skip 6 _ rfl (by kernel_rfl) (fun _ _ _ h => h) rfl (by assumption) ?_; simp only [setL]
        refine WH.tk 7 ?_; simp only [setL]
        refine WH.tk 8 ?_; simp only [setL]
        refine WH.skip 9 _ rfl (by kernel_rfl) (fun _ _ _ h => h) rfl (by assumption) ?_; simp only [setL]
        refine WH.skip 10 _ rfl (by kernel_rfl) (fun _ _ _ h => h) rfl (by assumption) ?_; simp only [setL]
        refine WH.skip 12 _ rfl (by kernel_rfl) (fun _ _ _ h => h) rfl (by assumption) ?_; simp only [setL]
        refine WH.skip 13 _ rfl (by kernel_rfl) (fun _ _ _ h => h) rfl (by assumption) ?_; simp only [setL]
        refine WH.onlySkip 11 _ rfl (by kernel_rfl) rfl (by assumption) ?_; simp only [setL]
        refine WH.onlySkip 14 _ rfl (by kernel_rfl) rfl (by assumption) ?_; simp only [setL]
        refine WH.skip 15 _ rfl (by kernel_rfl) (fun _ _ _ h => h) rfl (by assumption) ?_; simp only [setL]
        refine WH.tk 16 ?_; simp only [setL]
        refine WH.done (by kernel_rfl) ?_
        have HBs := Lib.hid (HBr.out.ext HE.out); have HIs := Lib.hid (HIr.out.ext HE.out); have HYs := Lib.hid (HYr.out.ext HE.out); have Es := Lib.hid (bt Er.out HE.out); clear HBr HIr HYr Er
        clear HE hSn
        go_wp2_with fail
        go_roundw
        case rel => exact ⟨n + 1, HN8.out, by go_num, HBs, HIs, HYs, Es⟩
        case measure => simp [intOf]; omega
      have d1 : ((n : Int) != (j : Int)) = true := by simp; omega
      by_cases hnk : n = k
      · have d2 : ((n : Int) != (k : Int)) = false := by simp; omega
        clear hnj hnk
        go_wp2_with fail
        refine WH.start (S := fun w' : World => Blk w' w.heap.size 22 (bcells b) ∧ Blk w' g4 26 (bcells Y)) [false, false, false, false, false, false, false, false, false, false, false, false, false, false, false, false, false] 17 rfl rfl (by kernel_rfl) ⟨HBr.out.ext (bdrew wr 1), HYr.out.ext (bdrew wr 1)⟩ (fun hSn => ?_); obtain ⟨wS, hwS⟩ : ∃ x, (wr).drew = x := ⟨_, rfl⟩; have HE := Lib.hid (show Below (wr).heap.size (wr) wS from hwS ▸ bdrew wr 1); rw [hwS] at hSn ⊢; clear hwS
        refine WH.tk 0 ?_; simp only [setL]
        refine WH.tk 1 ?_; simp only [setL]
        refine WH.tk 2 ?_; simp only [setL]
        refine WH.tk 3 ?_; simp only [setL]
        refine WH.tk 4 ?_; simp only [setL]
        refine WH.tk 5 ?_; simp only [setL]
        refine WH.tk 6 ?_; simp only [setL]
        refine WH.tk 7 ?_; simp only [setL]
        refine WH.tk 8 ?_; simp only [setL]
        refine WH.skip 9 _ rfl (by kernel_rfl) (fun _ _ _ h => h) rfl (by assumption) ?_; simp only [setL]
        refine WH.skip 10 _ rfl (by kernel_rfl) (fun _ _ _ h => h) rfl (by assumption) ?_; simp only [setL]
        refine WH.skip 12 _ rfl (by kernel_rfl) (fun _ _ _ h => h) rfl (by assumption) ?_; simp only [setL]
        refine WH.skip 13 _ rfl (by kernel_rfl) (fun _ _ _ h => h) rfl (by assumption) ?_; simp only [setL]
        refine WH.onlySkip 11 _ rfl (by kernel_rfl) rfl (by assumption) ?_; simp only [setL]
        refine WH.onlySkip 14 _ rfl (by kernel_rfl) rfl (by assumption) ?_; simp only [setL]
        refine WH.skip 15 _ rfl (by kernel_rfl) (fun _ _ _ h => h) rfl (by assumption) ?_; simp only [setL]
        refine WH.tk 16 ?_; simp only [setL]
        refine WH.done (by kernel_rfl) ?_
        have HBs := Lib.hid (HBr.out.ext HE.out); have HIs := Lib.hid (HIr.out.ext HE.out); have HYs := Lib.hid (HYr.out.ext HE.out); have Es := Lib.hid (bt Er.out HE.out); clear HBr HIr HYr Er
        clear HE hSn
        go_wp2_with fail
        go_roundw
        case rel => exact ⟨n + 1, HN8.out, by go_num, HBs, HIs, HYs, Es⟩
        case measure => simp [intOf]; omega
      have d2 : ((n : Int) != (k : Int)) = true := by simp; omega
      obtain ⟨R, hR⟩ : ∃ R, rawT b (n : Int) = R := ⟨_, rfl⟩
      have HRn := Lib.hid (show rawT Y (n : Int) = R ∧ rawT b (n : Int) = R from ⟨by rw [HRAW.out n hlt hnj hnk, hR], hR⟩)
      have HRl := Lib.hid (show R.length = 32 by rw [← hR]; exact rawT_len HbL.out _)
      clear hnj hnk hR
      go_wp2_with fail
      refine WH.start (S := fun w' : World => Blk w' w.heap.size 22 (bcells b) ∧ Blk w' g4 26 (bcells Y)) [false, false, false, false, false, false, false, false, false, false, false, false, false, false, false, false, false] 17 rfl rfl (by kernel_rfl) ⟨HBr.out.ext (bdrew wr 1), HYr.out.ext (bdrew wr 1)⟩ (fun hSn => ?_); obtain ⟨wS, hwS⟩ : ∃ x, (wr).drew = x := ⟨_, rfl⟩; have HE := Lib.hid (show Below (wr).heap.size (wr) wS from hwS ▸ bdrew wr 1); rw [hwS] at hSn ⊢; clear hwS
      refine WH.tk 0 ?_; simp only [setL]
      refine WH.tk 1 ?_; simp only [setL]
      refine WH.tk 2 ?_; simp only [setL]
      refine WH.tk 3 ?_; simp only [setL]
      refine WH.tk 4 ?_; simp only [setL]
      refine WH.tk 5 ?_; simp only [setL]
      refine WH.tk 6 ?_; simp only [setL]
      refine WH.tk 7 ?_; simp only [setL]
      refine WH.tk 8 ?_; simp only [setL]
      refine WH.tv 9 rfl (fun w' hSw => exec_load_blk _ _ rfl _ rfl _ _ (hSw.2) _ (Try.underlying26) rfl (Try.blockFits HYL.out)) ?_; simp only [setL]
      refine WH.tk 10 ?_; simp only [setL]
      refine WH.tv 12 rfl (fun w' hSw => exec_load_blk _ _ rfl _ rfl _ _ (hSw.1) _ (Try.underlying22) rfl (Try.arr256Fits HbL.out)) ?_; simp only [setL]
      refine WH.tk 13 ?_; simp only [setL]
      refine WH.only 11 _ rfl (by kernel_rfl) rfl (fun K hK => ?_)
      go_simp; refine (HRY.out (n : Int) _).mono ?_; rintro e wa ⟨rfl, hba⟩; go_simp
      rw [HRn.out.1]
      have HE := Lib.hid (bt HE.out hba)
      have hSn := And.intro (hSn.1.ext hba) (hSn.2.ext hba); refine hK _ _ hSn ?_; clear hK; clear K; simp only [setL]
      refine WH.only 14 _ rfl (by kernel_rfl) rfl (fun K hK => ?_)
      go_simp; refine (HRB.out (n : Int) _).mono ?_; rintro e wd ⟨rfl, hbd⟩; go_simp
      rw [HRn.out.2]
      have HE := Lib.hid (bt HE.out hbd)
      have hSn := And.intro (hSn.1.ext hbd) (hSn.2.ext hbd); refine hK _ _ hSn ?_; clear hK; clear K; simp only [setL]
      refine WH.tv 15 rfl (fun w' hSw => exec_neq_arr _ _ _ _ rfl (by kernel_rfl) _ _ Try.underlying44 Try.underlying5 Try.byteSize R R rfl rfl HRl.out HRl.out false (by simp)) ?_; simp only [setL]
      refine WH.tk 16 ?_; simp only [setL]
      refine WH.done (by kernel_rfl) ?_
      have HBs := Lib.hid (HBr.out.ext HE.out); have HIs := Lib.hid (HIr.out.ext HE.out); have HYs := Lib.hid (HYr.out.ext HE.out); have Es := Lib.hid (bt Er.out HE.out); clear HBr HIr HYr Er
      clear HE hSn
      go_wp2_with fail
      go_roundw
      case rel => exact ⟨n + 1, HN8.out, by go_num, HBs, HIs, HYs, Es⟩
      case measure => simp [intOf]; omega
    · obtain rfl : n = 8 := by omega
      have d0 : decide ((8 : Int) < 8) = false := by simp
      obtain ⟨V2, HV2⟩ : ∃ V, Hid (getTV Y (j : Int) = V) := ⟨_, Lib.hid rfl⟩
      obtain ⟨s2, Hs2⟩ : ∃ s, Hid ((getT Y (j : Int)).isSome = s) := ⟨_, Lib.hid rfl⟩
      have HVL := Lib.hid (show V2.length = 11 by rw [← HV2.out]; exact getTV_len _ _)
      clear hlt hn HRAW HRB HRY
      go_wp2_with (refine wpList_load_arr rfl _ _ rfl _ rfl _ _ HYr.out _ _ Try.underlying26 (Try.blockFits HYL.out) ?_)
      refine (HGT.out (k : Int) _).mono ?_; rintro e wa ⟨rfl, hba⟩
      rw [HGK1.out.1, HGK1.out.2]
      have HBa := Lib.hid (HBr.out.ext hba); have HIa := Lib.hid (HIr.out.ext hba); have HYa := Lib.hid (HYr.out.ext hba); have Ea := Lib.hid (bt Er.out hba); clear HBr HIr HYr Er
      clear hba
      go_wp2_with (refine wpList_alloc_row rfl _ rfl _ Try.inoZero ?_)
      apply Stop.go; intro wc Hgc Hbc
      go_wp2_with (refine wpList_store_arr rfl _ _ _ rfl _ _ rfl rfl _ _ Hbc.out (Try.inoFits HL1.out) (by rw [icells_size, icells_size, HL1.out]; rfl) (oneCell_icells _) ?_)
      apply Stop.go; intro wd Hod HPd
      have Dd := Lib.hid (bonly Hgc.out.1 Hod.out (Nat.le_refl _))
      have HBd := Lib.hid (HBa.out.ext Dd.out); have HId := Lib.hid (HIa.out.ext Dd.out); have HYd := Lib.hid (HYa.out.ext Dd.out); have Ed := Lib.hid (bt Ea.out Dd.out); clear HBa HIa HYa Ea
      generalize wa.heap.size = g5 at *
      clear Hgc Hbc Hod Dd
      go_wp2_with (refine wpList_load_arr rfl _ _ rfl _ rfl _ _ HYd.out _ _ Try.underlying26 (Try.blockFits HYL.out) ?_)
      refine (HGT.out (j : Int) _).mono ?_; rintro e we ⟨rfl, hbe⟩
      rw [HV2.out, Hs2.out]
      have HPe := Lib.hid (HPd.out.ext hbe)
      have HBe := Lib.hid (HBd.out.ext hbe); have HIe := Lib.hid (HId.out.ext hbe); have HYe := Lib.hid (HYd.out.ext hbe); have Ee := Lib.hid (bt Ed.out hbe); clear HBd HId HYd Ed
      clear hbe HPd
      go_wp2_with (refine wpList_alloc_row rfl _ rfl _ Try.inoZero ?_)
      apply Stop.go; intro wf Hgf Hbf
      go_wp2_with (refine wpList_store_arr rfl _ _ _ rfl _ _ rfl rfl _ _ Hbf.out (Try.inoFits HVL.out) (by rw [icells_size, icells_size, HVL.out]; rfl) (oneCell_icells _) ?_)
      apply Stop.go; intro wg Hog HQg
      have Dg := Lib.hid (bonly Hgf.out.1 Hog.out (Nat.le_refl _))
      have HPg := Lib.hid (HPe.out.ext Dg.out)
      have HBg := Lib.hid (HBe.out.ext Dg.out); have HIg := Lib.hid (HIe.out.ext Dg.out); have HYg := Lib.hid (HYe.out.ext Dg.out); have Eg := Lib.hid (bt Ee.out Dg.out); clear HBe HIe HYe Ee
      generalize we.heap.size = g6 at *
      clear Hgf Hbf Hog Dg HPe HGT
      by_cases hjk : j = k
      · have d1 : ((j : Int) != (k : Int)) = false := by simp; omega
        clear hjk HGJ1 HSW0 HT1 HT2
        go_wp2_with (first | refine wpList_load_ino rfl _ _ rfl g2 11 rfl _ _ _ HIg.out HF1.out _ Try.underlying25 rfl (Try.inoFits HL1.out) ?_ | refine wpList_load_blk rfl _ _ rfl _ rfl _ _ HPg.out _ Try.underlying25 rfl (Try.inoFits HL1.out) ?_ | refine wpList_eql_stop rfl .neq _ _ _ _ rfl (by kernel_rfl) _ _ rfl rfl _ (neq_ino_same HL1.out _) ?_)
        apply Stop.go
        go_upto_region 15 with fail
        go_wp2_with (refine wpList_load_arr rfl _ _ rfl _ rfl _ _ HYg.out _ _ Try.underlying26 (Try.blockFits HYL.out) ?_)
        refine (HUS.out _).mono ?_; rintro e wu ⟨v, rfl, hv, hbu⟩; obtain ⟨A5, c5, rfl, hc5, hm5, hr5⟩ := hv.ints; have Eu := Lib.hid (bt Eg.out hbu); have du : decide ((z.length : Int) ≤ 8) = true := (by have := HULen.out; simp; omega); have du2 : decide (z.length ≤ 8) = true := (by have := HULen.out; simp; omega); clear hv hc5 hm5 hr5 hbu; go_wp2_with fail; refine (works17_any _).mono ?_; rintro e wv ⟨rfl, hbv⟩; go_wp2_with fail; go_ret; exact ⟨rfl, bt Eu.out hbv⟩
      · have d1 : ((j : Int) != (k : Int)) = true := by simp; omega
        obtain rfl : V2 = l0 := by rw [← HV2.out]; exact (HGJ1.out hjk).1
        obtain rfl : s2 = true := by rw [← Hs2.out]; exact (HGJ1.out hjk).2
        have HSW1 := Lib.hid (HSW0.out hjk)
        obtain ⟨Z, HZ⟩ : ∃ Z, Hid (withT b (k : Int) l1 = Z) := ⟨_, Lib.hid rfl⟩
        rw [HZ.out] at HSW1
        have HZL := Lib.hid (show Z.length = 256 by rw [← HZ.out]; exact withT_len HbL.out _ _)
        clear hjk HGJ1 HSW0 HV2 Hs2
        go_wp2_with (first | refine wpList_load_blk rfl _ _ rfl _ rfl _ _ HPg.out _ Try.underlying25 rfl (Try.inoFits HL1.out) ?_ | refine wpList_load_blk rfl _ _ rfl _ rfl _ _ HQg.out _ Try.underlying25 rfl (Try.inoFits HVL.out) ?_ | refine wpList_load_ino rfl _ _ rfl g2 11 rfl _ _ _ HIg.out HF1.out _ Try.underlying25 rfl (Try.inoFits HL1.out) ?_ | refine wpList_load_ino rfl _ _ rfl g2 0 rfl _ _ _ HIg.out HF0.out _ Try.underlying25 rfl (Try.inoFits HVL.out) ?_ | refine wpList_eql_agg rfl .neq _ _ _ _ rfl (by kernel_rfl) _ _ rfl rfl _ (neq_ino_same HL1.out _) ?_ | refine wpList_eql_agg rfl .neq _ _ _ _ rfl (by kernel_rfl) _ _ rfl rfl _ (neq_ino_same HVL.out _) ?_ | refine wpList_load_arr rfl _ _ rfl _ rfl _ _ HBg.out _ _ Try.underlying22 (Try.arr256Fits HbL.out) ?_)
        refine (HT1.out b HbL.out _).mono ?_; rintro e wh ⟨rfl, hbh⟩
        rw [HZ.out]
        have HBh := Lib.hid (HBg.out.ext hbh); have HIh := Lib.hid (HIg.out.ext hbh); have HYh := Lib.hid (HYg.out.ext hbh); have Eh := Lib.hid (bt Eg.out hbh); clear HBg HIg HYg Eg
        have HNe := Lib.hid (show w.heap.size ≤ wh.heap.size ∧ g4 ≠ wh.heap.size from ⟨Nat.le_of_lt HBh.out.lt, Nat.ne_of_lt HYh.out.lt⟩)
        clear hbh HPg HQg
        go_wp2_with (refine wpList_alloc_row rfl _ rfl _ Try.blockZero ?_)
        apply Stop.go; intro wi Hgi Hbi
        go_wp2_with (refine wpList_store_arr rfl _ _ _ rfl _ _ rfl rfl _ _ Hbi.out (Try.blockFits HZL.out) (by rw [bcells_size, bcells_size, HZL.out, HzL.out]) (oneCell_bcells _) ?_)
        apply Stop.go; intro wj Hoj HZj
        have Dj := Lib.hid (bonly Hgi.out.1 Hoj.out (Nat.le_refl _))
        have HBj := Lib.hid (HBh.out.ext Dj.out); have HIj := Lib.hid (HIh.out.ext Dj.out); have HYj := Lib.hid (HYh.out.ext Dj.out); have Ej := Lib.hid (bt Eh.out Dj.out); clear HBh HIh HYh Eh
        generalize wh.heap.size = g7 at *
        clear Hgi Hbi Hoj Dj
        go_wp2_with (first | refine wpList_load_arr rfl _ _ rfl _ rfl _ _ HZj.out _ _ Try.underlying26 (Try.blockFits HZL.out) ?_ | refine wpList_load_ino rfl _ _ rfl g2 0 rfl _ _ _ HIj.out HF0.out _ Try.underlying25 rfl (Try.inoFits HVL.out) ?_)
        refine (HT2.out Z HZL.out _).mono ?_; rintro e wl ⟨rfl, hbl⟩
        rw [HSW1.out]
        have HZl := Lib.hid (HZj.out.ext hbl)
        have HBl := Lib.hid (HBj.out.ext hbl); have HIl := Lib.hid (HIj.out.ext hbl); have HYl := Lib.hid (HYj.out.ext hbl); have El := Lib.hid (bt Ej.out hbl); clear HBj HIj HYj Ej
        clear hbl HZj
        go_wp2_with (refine wpList_store_arr rfl _ _ _ rfl _ _ rfl rfl _ _ HZl.out (Try.blockFits HYL.out) (by rw [bcells_size, bcells_size, HYL.out, HZL.out]) (oneCell_bcells _) ?_)
        apply Stop.go; intro wm Hom HZm
        have HYm := Lib.hid (HYl.out.only Hom.out HNe.out.2)
        have Em := Lib.hid (bonly El.out Hom.out HNe.out.1)
        clear Hom HZl HYl El HBl HIl
        go_wp2_with (first | refine wpList_load_arr rfl _ _ rfl _ rfl _ _ HZm.out _ _ Try.underlying26 (Try.blockFits HYL.out) ?_ | refine wpList_load_arr rfl _ _ rfl _ rfl _ _ HYm.out _ _ Try.underlying26 (Try.blockFits HYL.out) ?_ | refine wpList_neq_arr rfl _ _ _ _ rfl (by kernel_rfl) _ _ Try.underlying26 Try.underlying5 Try.byteSize Y Y rfl rfl HYL.out HYL.out false (by simp) ?_)
        refine (HUS.out _).mono ?_; rintro e wu ⟨v, rfl, hv, hbu⟩; obtain ⟨A5, c5, rfl, hc5, hm5, hr5⟩ := hv.ints; have Eu := Lib.hid (bt Em.out hbu); have du : decide ((z.length : Int) ≤ 8) = true := (by have := HULen.out; simp; omega); have du2 : decide (z.length ≤ 8) = true := (by have := HULen.out; simp; omega); clear hv hc5 hm5 hr5 hbu; go_wp2_with fail; refine (works17_any _).mono ?_; rintro e wv ⟨rfl, hbv⟩; go_wp2_with fail; go_ret; exact ⟨rfl, bt Eu.out hbv⟩

end Go.Proofs.Ytdngfonbobcgjaa
