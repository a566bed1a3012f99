/-
  Layer 19: the walk of IndexBack.
-/
import Derived.Test.YthcbjihdbkpkeaaLaw19
import Derived.Deep.CutRange
namespace Go.Proofs.Ythcbjihdbkpkeaa
open Go.RowKit

theorem dblV_len {t : List Int} (ht : t.length = 32) (d : Int) : (dblV d t).length = 32 := by
  unfold dblV
  split
  · exact dblT_len _ _
  · exact ht
theorem mod32 (h : Nat) (d : Int) : h % 2 ^ dpN d < 32 := Nat.lt_of_lt_of_le (Nat.mod_lt _ (Nat.two_pow_pos _)) (pow32 (dpN_le d))
/-- 19.5: doubled it is right, and each hash has the same block. -/
theorem back_facts {d : Int} {t : List Int} (hr : rightX d t = true) (h : Nat) : fld (dblV d t) (h % 2 ^ dpN (dblD d)) = fld t (h % 2 ^ dpN d) ∧ rightX (dblD d) (dblV d t) = true ∧ (dblE d == 0) = decide (d < 5) := by
  have hx := rightX_iff.1 hr
  by_cases h4 : d ≤ 4
  · have hB : dblB d = true := decide_eq_true ⟨hx.1.1, h4⟩
    have hD : dpN d ≤ 4 := by unfold dpN; omega
    have hS : dpN (d + 1) = dpN d + 1 := by unfold dpN; omega
    unfold dblV dblD dblE
    simp only [hB, if_true]
    refine ⟨?_, ?_, ?_⟩
    · rw [hS, dblT_at hD t _ (Nat.mod_lt _ (Nat.two_pow_pos _)), mod_of_le (by omega)]
    · refine rightX_iff.2 ⟨by omega, ?_⟩
      rw [hS]
      exact dblT_right hD hx.2
    · rw [decide_eq_true (by omega)]
      rfl
  · have hB : dblB d = false := decide_eq_false (by omega)
    unfold dblV dblD dblE
    simp only [hB, Bool.false_eq_true, if_false]
    refine ⟨by first | rfl | trivial, hr, ?_⟩
    rw [decide_eq_false (by omega)]
    rfl

set_option maxHeartbeats 3200000 in
theorem indexBack_any (d : Int) (t : List Int) (ht : t.length = 32) (h : Nat) (hh : h < 4294967296) (w : World) :
    Calls Try.prog 5 #[.agg (icells (d :: t)), .int .u32 h] w fun e w' => e = .returned (.bool true) ∧ Below w.heap.size w w' := by
  have HL := Lib.hid ht
  have HzT := Lib.hid zeroT_len
  obtain ⟨r, Hr⟩ : ∃ r, Hid (rightX d t = r) := ⟨_, Lib.hid rfl⟩
  have C1 := Lib.hid (fun (w : World) => xright_any d t ht w)
  rw [Hr.out] at C1
  go_enter Try.func5, Try.ntmps5
  go_wp2_with (refine wpList_box_row rfl _ _ rfl _ rfl ?_)
  apply Stop.go; intro w1 Hg1 Hb1
  go_wp2_with (first | refine wpList_load_blk rfl _ _ rfl _ rfl _ _ Hb1.out _ Try.underlying24 rfl (Try.rxFits HL.out) ?_ | refine wpList_alloc_row rfl _ rfl _ Try.ixZero ?_)
  apply Stop.go; intro w3 Hg3 Hb3
  go_wp2_with (refine wpList_store_arr rfl _ _ _ rfl _ _ rfl rfl _ _ Hb3.out (Try.ixFits HL.out) (icells_same HzT.out HL.out) (oneCell_icells _) ?_)
  apply Stop.go; intro w4 Ho4 Hb4
  have E4 := Lib.hid (bonly (bt Hg1.out.1 Hg3.out.1) Ho4.out Hg1.out.1.size)
  have Z4 := Lib.hid (show w.heap.size ≤ w1.heap.size from Hg1.out.1.size)
  generalize w1.heap.size = g5 at *
  clear Hg1 Hg3 Hb3 Ho4 Hb1
  go_wp2_with (refine wpList_load_blk rfl _ _ rfl _ rfl _ _ Hb4.out _ Try.underlying30 rfl (Try.ixFits HL.out) ?_)
  refine (C1.out _).mono ?_; rintro e w5 ⟨rfl, hb5⟩
  have HB5 := Lib.hid (Hb4.out.ext hb5)
  have E5 := Lib.hid (bt E4.out hb5)
  clear hb5 Hb4 E4
  cases r
  · go_wp2_with fail
    refine (works19_any _).mono ?_; rintro e w6 ⟨rfl, hb6⟩
    go_wp2_with fail
    go_ret
    exact ⟨rfl, bt E5.out hb6⟩
  have HPL := Lib.hid (show (putX d t).length = 256 from putX_len ht d)
  have C2 := Lib.hid (fun (w : World) => xput_any d t ht w)
  rw [show outX d t = putX d t by unfold outX; rw [right_may ht Hr.out]; rfl, right_may ht Hr.out, show okArg true = 0 from rfl] at C2
  have C3 := Lib.hid (fun (w : World) => xget_any (putX d t) HPL.out w)
  have hgp := get_put ht Hr.out
  rw [hgp.1, hgp.2.1, hgp.2.2, show formE true = 0 from rfl] at C3
  have HNE := Lib.hid (show ∀ w, (binOp .neq 30 (.agg (icells (d :: t))) (.agg (icells (d :: t)))).run Try.prog w = .ok (.bool false) w from fun w => by rw [run_neq_ix d d t t ht ht w]; simp)
  have hbf := back_facts Hr.out h
  have hx := (rightX_iff.1 Hr.out).1
  have HUL := Lib.hid (dblV_len ht d)
  have C4 := Lib.hid (fun (w : World) => xdouble_any d t ht w)
  have C5 := Lib.hid (fun (w : World) => xplace_any d t ht h hh w)
  have C6 := Lib.hid (fun (w : World) => xplace_any (dblD d) (dblV d t) HUL.out h hh w)
  have C7 := Lib.hid (fun (w : World) => xright_any (dblD d) (dblV d t) HUL.out w)
  rw [hbf.2.1] at C7
  obtain ⟨i, hi⟩ : ∃ i, h % 2 ^ dpN d = i := ⟨_, rfl⟩
  obtain ⟨k, hk⟩ : ∃ k, h % 2 ^ dpN (dblD d) = k := ⟨_, rfl⟩
  have hi32 : i < 32 := by rw [← hi]; exact mod32 h d
  have hk32 : k < 32 := by rw [← hk]; exact mod32 h _
  have h1 := hbf.1
  have h3 := hbf.2.2
  rw [hi] at C5
  rw [hk] at C6
  rw [hi, hk] at h1
  obtain ⟨X, hX⟩ : ∃ X, putX d t = X := ⟨_, rfl⟩
  rw [hX] at HPL C2 C3
  obtain ⟨U, hU⟩ : ∃ U, dblV d t = U := ⟨_, rfl⟩
  rw [hU] at HUL C4 C6 C7 h1
  obtain ⟨d2, hd2⟩ : ∃ x, dblD d = x := ⟨_, rfl⟩
  rw [hd2] at C4 C6 C7
  obtain ⟨ev, hev⟩ : ∃ x, dblE d = x := ⟨_, rfl⟩
  rw [hev] at C4 h3
  obtain ⟨y, hy⟩ : ∃ y, fld t i = y := ⟨_, rfl⟩
  rw [hy] at h1
  have HY := Lib.hid hy
  have HY2 := Lib.hid h1
  have H3 := Lib.hid h3
  clear hgp hbf hi hk h1 hX hU hd2 hev hy h3
  go_wp2_with (refine wpList_load_blk rfl _ _ rfl _ rfl _ _ HB5.out _ Try.underlying30 rfl (Try.ixFits HL.out) ?_)
  refine (C2.out _).mono ?_; rintro e w6 ⟨rfl, hb6⟩
  have HB6 := Lib.hid (HB5.out.ext hb6)
  have E6 := Lib.hid (bt E5.out hb6)
  have Z6 := Lib.hid (show g5 < w6.heap.size from HB6.out.lt)
  clear hb6 HB5 E5
  go_wp2_with (refine wpList_alloc_row rfl _ rfl _ Try.blockZero ?_)
  apply Stop.go; intro w7 Hg7 Hb7
  go_wp2_with (refine wpList_store_arr rfl _ _ _ rfl _ _ rfl rfl _ _ Hb7.out (Try.blockFits HPL.out) (by rw [bcells_size, bcells_size, HPL.out, zeros_len]) (oneCell_bcells _) ?_)
  apply Stop.go; intro w8 Ho8 Hb8
  have HB8 := Lib.hid ((HB6.out.ext Hg7.out.1).only Ho8.out (by have := Z6.out; omega))
  have E8 := Lib.hid (bonly (bt E6.out Hg7.out.1) Ho8.out (by have := Z6.out; have := Z4.out; omega))
  generalize w6.heap.size = g6 at *
  clear Hg7 Hb7 Ho8 HB6 E6
  go_wp2_with (refine wpList_load_arr rfl _ _ rfl _ rfl _ _ Hb8.out _ _ Try.underlying26 (Try.blockFits HPL.out) ?_)
  refine (C3.out _).mono ?_; rintro e w9 ⟨rfl, hb9⟩
  have HB9 := Lib.hid (HB8.out.ext hb9)
  have E9 := Lib.hid (bt E8.out hb9)
  have Z9 := Lib.hid (show g5 < w9.heap.size from HB9.out.lt)
  clear hb9 HB8 E8 Hb8
  go_wp2_with (refine wpList_alloc_row rfl _ rfl _ Try.ixZero ?_)
  apply Stop.go; intro wa Hga Hba
  go_wp2_with (refine wpList_store_arr rfl _ _ _ rfl _ _ rfl rfl _ _ Hba.out (Try.ixFits HL.out) (icells_same HzT.out HL.out) (oneCell_icells _) ?_)
  apply Stop.go; intro wb Hob Hbb
  have HBb := Lib.hid ((HB9.out.ext Hga.out.1).only Hob.out (by have := Z9.out; omega))
  have Eb := Lib.hid (bonly (bt E9.out Hga.out.1) Hob.out (by have := Z9.out; have := Z4.out; omega))
  generalize w9.heap.size = g8 at *
  clear Hga Hba Hob HB9 E9
  go_wp2_with (first | refine wpList_load_blk rfl _ _ rfl _ rfl _ _ Hbb.out _ Try.underlying30 rfl (Try.ixFits HL.out) ?_ | refine wpList_load_blk rfl _ _ rfl _ rfl _ _ HBb.out _ Try.underlying30 rfl (Try.ixFits HL.out) ?_ | refine wpList_eql_stop rfl _ _ _ _ _ rfl (by kernel_rfl) (icells (d :: t)) (icells (d :: t)) rfl rfl _ (HNE.out _) ?_)
  apply Stop.go
  go_upto_region 8 with fail
  go_wp2_with (refine wpList_load_blk rfl _ _ rfl _ rfl _ _ HBb.out _ Try.underlying30 rfl (Try.ixFits HL.out) ?_)
  refine (C4.out _).mono ?_; rintro e wc ⟨rfl, hbc⟩
  have HBc := Lib.hid (HBb.out.ext hbc)
  have Ec := Lib.hid (bt Eb.out hbc)
  have Zc := Lib.hid (show g5 < wc.heap.size from HBc.out.lt)
  clear hbc HBb Eb Hbb
  go_wp2_with (refine wpList_alloc_row rfl _ rfl _ Try.ixZero ?_)
  apply Stop.go; intro wd Hgd Hbd
  go_wp2_with (refine wpList_store_arr rfl _ _ _ rfl _ _ rfl rfl _ _ Hbd.out (Try.ixFits HUL.out) (icells_same HzT.out HUL.out) (oneCell_icells _) ?_)
  apply Stop.go; intro we Hoe Hbe
  have HBe := Lib.hid ((HBc.out.ext Hgd.out.1).only Hoe.out (by have := Zc.out; omega))
  have Ee := Lib.hid (bonly (bt Ec.out Hgd.out.1) Hoe.out (by have := Zc.out; have := Z4.out; omega))
  generalize wc.heap.size = g10 at *
  clear Hgd Hbd Hoe HBc Ec
  have c0 := dep_cell HBe.out
  obtain ⟨q, hq⟩ : ∃ q, decide (d < 5) = q := ⟨_, rfl⟩
  have h3 := H3.out
  rw [hq] at h3
  have dq : (q != q) = false := by simp
  have i0 : ¬ ((i : Int) < 0) := by omega
  have i1 : ¬ (31 < (i : Int)) := by omega
  have k0 : ¬ ((k : Int) < 0) := by omega
  have k1 : ¬ (31 < (k : Int)) := by omega
  go_wp2_with fail
  clear c0
  refine WH.start (S := (fun w' : World => Blk w' g5 30 (icells (d :: t)) ∧ Blk w' g10 30 (icells (d2 :: U)))) [false, false, false, false, false, false, false, false] 8 rfl rfl (by kernel_rfl) (⟨HBe.out.ext (bdrew we 1), Hbe.out.ext (bdrew we 1)⟩) (fun hSn => ?_); obtain ⟨wS, hwS⟩ : ∃ x, (we).drew = x := ⟨_, rfl⟩; have HE := Lib.hid (show Below (we).heap.size (we) wS from hwS ▸ bdrew we 1); rw [hwS] at hSn ⊢; clear hwS
  refine WH.tv 0 rfl (fun w' hSw => exec_load_blk _ _ rfl _ rfl _ _ (hSw.1) _ (Try.underlying30) rfl (Try.ixFits HL.out)) ?_; simp only [setL]
  refine WH.tk 1 ?_; simp only [setL]
  refine WH.tv 3 rfl (fun w' hSw => exec_load_blk _ _ rfl _ rfl _ _ (hSw.2) _ (Try.underlying30) rfl (Try.ixFits HUL.out)) ?_; simp only [setL]
  refine WH.tk 4 ?_; simp only [setL]
  refine WH.only 2 _ rfl (by kernel_rfl) rfl (fun K hK => ?_)
  go_simp; refine (C5.out _).mono ?_; rintro e x1 ⟨rfl, hba⟩; go_simp
  have HE := Lib.hid (bt HE.out hba)
  have hSn := And.intro (hSn.1.ext hba) (hSn.2.ext hba); refine hK _ _ hSn ?_; clear hK; clear K; simp only [setL]
  clear hba
  refine WH.only 5 _ rfl (by kernel_rfl) rfl (fun K hK => ?_)
  go_simp; refine (C6.out _).mono ?_; rintro e x2 ⟨rfl, hba⟩; go_simp
  have HE := Lib.hid (bt HE.out hba)
  have hSn := And.intro (hSn.1.ext hba) (hSn.2.ext hba); refine hK _ _ hSn ?_; clear hK; clear K; simp only [setL]
  clear hba
  refine WH.tk 6 ?_; simp only [setL]
  refine WH.tk 7 ?_; simp only [setL]
  refine WH.done (by kernel_rfl) ?_
  have HBx := Lib.hid hSn.1
  have HUx := Lib.hid hSn.2
  have Ex := Lib.hid (bt Ee.out HE.out)
  clear HE hSn HBe Hbe Ee
  go_upto_region 14 with fail
  have p0 : 0 ≤ (i : Int) := by omega
  have p1 : (i : Int) < 32 := by omega
  have p2 : 0 ≤ (k : Int) := by omega
  have p3 : (k : Int) < 32 := by omega
  have HI := Lib.hid hi32
  have HK := Lib.hid hk32
  have ey : (y == y) = true := by simp
  refine WH.start (S := (fun w' : World => Blk w' g5 30 (icells (d :: t)) ∧ Blk w' g10 30 (icells (d2 :: U)))) [false, false, false, false, false, false, false, false, false, false, false, false, false, false, false, false, false] 17 rfl rfl (by kernel_rfl) (⟨HBx.out.ext (bdrew _ 1), HUx.out.ext (bdrew _ 1)⟩) (fun hSn => ?_); obtain ⟨wT, hwS⟩ : ∃ x, (x2).drew = x := ⟨_, rfl⟩; have HE := Lib.hid (show Below (x2).heap.size (x2) wT from hwS ▸ bdrew x2 1); rw [hwS] at hSn ⊢; clear hwS
  refine WH.tk 0 ?_; simp only [setL]
  refine WH.tk 1 ?_; simp only [setL]
  refine WH.tk 2 ?_; simp only [setL]
  refine WH.tv 3 rfl (fun w' hSw => exec_load_cell _ _ rfl ⟨g5, 1 + i, none⟩ rfl _ (int_cell hSw.1 i (by rw [HL.out]; exact HI.out)) _ Try.underlying3 rfl) ?_; simp only [setL]
  refine WH.tk 4 ?_; simp only [setL]
  refine WH.tk 5 ?_; simp only [setL]
  refine WH.tk 6 ?_; simp only [setL]
  refine WH.tv 7 rfl (fun w' hSw => exec_load_cell _ _ rfl ⟨g10, 1 + k, none⟩ rfl _ (int_cell hSw.2 k (by rw [HUL.out]; exact HK.out)) _ Try.underlying3 rfl) ?_; simp only [setL]
  rw [HY.out, HY2.out]
  refine WH.tk 8 ?_; simp only [setL]
  refine WH.tk 9 ?_; simp only [setL]
  refine WH.tv 10 rfl (fun w' hSw => exec_load_blk _ _ rfl _ rfl _ _ (hSw.2) _ (Try.underlying30) rfl (Try.ixFits HUL.out)) ?_; simp only [setL]
  refine WH.only 11 _ rfl (by kernel_rfl) rfl (fun K hK => ?_)
  go_simp; refine (C7.out _).mono ?_; rintro e x3 ⟨rfl, hba⟩; go_simp
  have HE := Lib.hid (bt HE.out hba)
  have hSn := And.intro (hSn.1.ext hba) (hSn.2.ext hba); refine hK _ _ hSn ?_; clear hK; clear K; simp only [setL]
  clear hba
  refine WH.tk 12 ?_; simp only [setL]
  refine WH.tk 13 ?_; simp only [setL]
  refine WH.only 14 _ rfl (by kernel_rfl) rfl (fun K hK => ?_)
  go_simp; refine (works19_any _).mono ?_; rintro e x4 ⟨rfl, hba⟩; go_simp
  have HE := Lib.hid (bt HE.out hba)
  have hSn := And.intro (hSn.1.ext hba) (hSn.2.ext hba); refine hK _ _ hSn ?_; clear hK; clear K; simp only [setL]
  clear hba
  refine WH.tk 15 ?_; simp only [setL]
  refine WH.tk 16 ?_; simp only [setL]
  refine WH.done (by kernel_rfl) ?_
  go_wp2_with fail
  go_ret
  exact ⟨rfl, bt Ex.out HE.out⟩

end Go.Proofs.Ythcbjihdbkpkeaa
