/-
  Layer 19: the walk of IndexParts. Written by wip/tools/gen19/law19fs.py.
-/
import Derived.Test.YthcbjihdbkpkeaaLaw19
import Derived.Deep.CutRange
namespace Go.Proofs.Ythcbjihdbkpkeaa
open Go.RowKit

theorem new_bucket {d : Int} {t : List Int} (h : (buckK t (2 ^ dpN d)).contains 60000 = false) : ∀ i, i < 2 ^ dpN d → fld t i ≠ 60000 := fun i hi e => by
  have hm : (60000 : Int) ∈ buckK t (2 ^ dpN d) := (buckK_mem (by decide)).2 ⟨i, hi, e⟩
  rw [Bool.eq_false_iff] at h
  exact h (by simpa using hm)
theorem low_half (h p b : Nat) (d : Int) (hb : b + 1 ≤ dpN d) : (h % 2 ^ (b + 1) == p % 2 ^ (b + 1)) = isB (b + 1) (h % 2 ^ dpN d) p := by
  unfold isB
  rw [mod_of_le hb]
theorem shl_two (b : Nat) : (2 : Nat) * 2 ^ b = 2 ^ (b + 1) := by rw [Nat.pow_succ]; omega

set_option maxHeartbeats 6400000 in
theorem indexParts_any (d : Int) (t : List Int) (ht : t.length = 32) (q : Nat) (hq : q < 256) (h : Nat) (hh : h < 4294967296) (w : World) :
    Calls Try.prog 7 #[.agg (icells (d :: t)), .int .u8 q, .int .u32 h] w fun e w' => e = .returned (.bool true) ∧ Below w.heap.size w w' := by
  have HL := Lib.hid ht
  have HzT := Lib.hid zeroT_len
  obtain ⟨r, Hr⟩ : ∃ r, Hid (rightX d t = r) := ⟨_, Lib.hid rfl⟩
  have C1 := Lib.hid (fun (w : World) => xright_any d t ht w)
  rw [Hr.out] at C1
  go_enter Try.func7, Try.ntmps7
  go_wp2_with (refine wpList_box_row rfl _ _ rfl _ rfl ?_)
  apply Stop.go; intro w1 Hg1 Hb1
  go_wp2_with (first | refine wpList_load_blk rfl _ _ rfl _ rfl _ _ Hb1.out _ Try.underlying24 rfl (Try.rxFits HL.out) ?_ | refine wpList_alloc_row rfl _ rfl _ Try.ixZero ?_)
  apply Stop.go; intro w3 Hg3 Hb3
  go_wp2_with (refine wpList_store_arr rfl _ _ _ rfl _ _ rfl rfl _ _ Hb3.out (Try.ixFits HL.out) (icells_same HzT.out HL.out) (oneCell_icells _) ?_)
  apply Stop.go; intro w4 Ho4 Hb4
  have E4 := Lib.hid (bonly (bt Hg1.out.1 Hg3.out.1) Ho4.out Hg1.out.1.size)
  have Z4 := Lib.hid (show w.heap.size ≤ w1.heap.size from Hg1.out.1.size)
  generalize w1.heap.size = g7 at *
  clear Hg1 Hg3 Hb3 Ho4 Hb1
  go_wp2_with (refine wpList_load_blk rfl _ _ rfl _ rfl _ _ Hb4.out _ Try.underlying30 rfl (Try.ixFits HL.out) ?_)
  refine (C1.out _).mono ?_; rintro e w5 ⟨rfl, hb5⟩
  have HB5 := Lib.hid (Hb4.out.ext hb5)
  have E5 := Lib.hid (bt E4.out hb5)
  clear hb5 Hb4 E4
  cases r
  · go_wp2_with fail
    refine (works19_any _).mono ?_; rintro e w6 ⟨rfl, hb6⟩
    go_wp2_with fail
    go_ret
    exact ⟨rfl, bt E5.out hb6⟩
  have c0 := dep_cell HB5.out
  by_cases hd1 : d < 1
  · go_wp2_with fail
    refine (works19_any _).mono ?_; rintro e w6 ⟨rfl, hb6⟩
    go_wp2_with fail
    go_ret
    exact ⟨rfl, bt E5.out hb6⟩
  have hx := rightX_iff.1 Hr.out
  have h5 := dpN_le d
  have hDd : ((dpN d : Nat) : Int) = d := dpN_in hx.1.1 hx.1.2
  have hM0 : 0 < 2 ^ dpN d := Nat.two_pow_pos _
  have h32 := pow32 h5
  have hp : q % 2 ^ dpN d < 2 ^ dpN d := Nat.mod_lt _ hM0
  have C2 := Lib.hid (fun (w : World) => xbits_any d t ht ((q % 2 ^ dpN d : Nat) : Int) w)
  rw [bitX_in hp] at C2
  have C3 := Lib.hid (fun (w : World) => xbuckets_any d t ht w)
  have hPF := Lib.hid (fun (h0 : fld t (q % 2 ^ dpN d) ≠ 0) (hb : xbitsN (dpN d) t (q % 2 ^ dpN d) < dpN d) (hn : ∀ i, i < 2 ^ dpN d → fld t i ≠ 60000) => parts_right (d := d) ht hx.2 hp h0 hb (v := 60000) (by decide) hn)
  have hPA := Lib.hid (fun (hb : xbitsN (dpN d) t (q % 2 ^ dpN d) < dpN d) (i : Nat) (hi : i < 2 ^ dpN d) => parts_at (d := d) ht hp (show xbitsN (dpN d) t (q % 2 ^ dpN d) + 1 ≤ dpN d by omega) 60000 i hi)
  have C4 := Lib.hid (fun (w : World) => xset_any d t ht ((q % 2 ^ dpN d : Nat) : Int) ((xbitsN (dpN d) t (q % 2 ^ dpN d) + 1 : Nat) : Int) 60000 w)
  have hZL := Lib.hid (show (setX d t ((q % 2 ^ dpN d : Nat) : Int) ((xbitsN (dpN d) t (q % 2 ^ dpN d) + 1 : Nat) : Int) 60000).length = 32 by rw [setX_len, ht])
  have hb0 := Lib.hid (show fld t (q % 2 ^ dpN d) = 0 → xbitsN (dpN d) t (q % 2 ^ dpN d) = dpN d from fun e => by unfold xbitsN; rw [if_pos e])
  have hLH := Lib.hid (fun (hb : xbitsN (dpN d) t (q % 2 ^ dpN d) < dpN d) => low_half h (q % 2 ^ dpN d) (xbitsN (dpN d) t (q % 2 ^ dpN d)) d hb)
  have hbl := xbitsN_le (dpN d) t (q % 2 ^ dpN d)
  have hNB := Lib.hid (new_bucket (d := d) (t := t))
  have C5 := Lib.hid (fun (z : List Int) (hz : z.length = 32) (w : World) => xplace_any d z hz h hh w)
  have hi : h % 2 ^ dpN d < 2 ^ dpN d := Nat.mod_lt _ hM0
  have hblen := buckK_len t (2 ^ dpN d)
  obtain ⟨p, hpe⟩ : ∃ p, q % 2 ^ dpN d = p := ⟨_, rfl⟩
  rw [hpe] at hp C2 hPF hPA C4 hZL hb0 hLH hbl
  obtain ⟨b, hbe⟩ : ∃ b, xbitsN (dpN d) t p = b := ⟨_, rfl⟩
  rw [hbe] at C2 hPF hPA C4 hZL hb0 hLH hbl
  obtain ⟨z, hze⟩ : ∃ z, setX d t (p : Int) ((b + 1 : Nat) : Int) 60000 = z := ⟨_, rfl⟩
  rw [hze] at hPF hPA C4 hZL
  obtain ⟨i, hie⟩ : ∃ i, h % 2 ^ dpN d = i := ⟨_, rfl⟩
  rw [hie] at C5 hi hLH
  obtain ⟨D, hD⟩ : ∃ D, dpN d = D := ⟨_, rfl⟩
  rw [hD] at h5 hDd hM0 h32 hp C3 hPF hPA hb0 hLH hbl hNB hi hblen hpe
  obtain ⟨M, hM⟩ : ∃ M, 2 ^ D = M := ⟨_, rfl⟩
  rw [hM] at hM0 h32 hp C3 hPF hPA hNB hi hblen hpe
  have HMp := Lib.hid hM
  subst hDd
  have C6 := Lib.hid (fun (w : World) => xright_any (D : Int) z hZL.out w)
  have Hp := Lib.hid hpe
  have HpM := Lib.hid hp
  have HiM := Lib.hid hi
  have HRz := Lib.hid (show xfixT D z = z → rightX (D : Int) z = true from fun e => rightX_iff.2 ⟨hx.1, by rw [hD]; exact e⟩)
  have m0 : (M : Int) ≠ 0 := by omega
  have q1 : Int.tmod (q : Int) (M : Int) = ((p : Nat) : Int) := by rw [Int.tmod_eq_emod_of_nonneg (by omega), ← hpe]; rfl
  have q2 : (q : Int) % (M : Int) = ((p : Nat) : Int) := by rw [← hpe]; rfl
  have q3 : q % M = p := hpe
  have pM : ((2 : Int) ^ D) = (M : Int) := by rw [← hM]; push_cast; rfl
  have cq : IntKind.i64.wrap (q : Int) = q := IntWalk.i64_in _ (by omega)
  have cD : IntKind.u64.wrap (D : Int) = D := IntWalk.u64_in _ (by omega)
  have cM : IntKind.i64.wrap (M : Int) = M := IntWalk.i64_in _ (by omega)
  have cp : IntKind.i64.wrap (p : Int) = p := IntWalk.i64_in _ (by omega)
  clear hx hp hi hpe hbe hze hie hM Hr C1 hD
  have hmx : 32 ≤ maxLen := by unfold maxLen; omega
  have Hmx := Lib.hid hmx
  clear hmx
  go_upto_region 5 with fail
  clear q1 q2 q3 cq cM m0
  go_wp2_with (refine wpList_load_blk rfl _ _ rfl _ rfl _ _ HB5.out _ Try.underlying30 rfl (Try.ixFits HL.out) ?_)
  refine (C2.out _).mono ?_; rintro e w6 ⟨rfl, hb6⟩
  have HB6 := Lib.hid (HB5.out.ext hb6)
  have E6 := Lib.hid (bt E5.out hb6)
  clear hb6 HB5 E5 c0
  have c0 := dep_cell HB6.out
  have p0 : 0 ≤ (p : Int) := by omega
  have p1 : (p : Int) < 32 := by have := HpM.out; omega
  have cp1 := int_cell HB6.out p (by rw [HL.out]; have := HpM.out; omega)
  by_cases hbD : D ≤ b
  · have e0 : decide ((D : Int) ≤ b) = true := decide_eq_true (by omega)
    have e1 : decide (D ≤ b) = true := decide_eq_true hbD
    clear cp1
    go_wp2_with fail
    refine (works19_any _).mono ?_; rintro e w7 ⟨rfl, hb7⟩
    go_wp2_with fail
    go_ret
    exact ⟨rfl, bt E6.out hb7⟩
  have hlt : b < D := by omega
  have e0 : decide ((D : Int) ≤ b) = false := decide_eq_false (by omega)
  have e1 : decide (D ≤ b) = false := decide_eq_false hbD
  have hy0 : fld t p ≠ 0 := fun e => by have := hb0.out e; omega
  have hPA2 := Lib.hid (hPA.out hlt)
  have hLH2 := Lib.hid (hLH.out hlt)
  have hPF2 := Lib.hid (hPF.out hy0 hlt)
  obtain ⟨y, hy⟩ : ∃ y, fld t p = y := ⟨_, rfl⟩
  rw [hy] at hy0 cp1
  have e2 : (y == 0) = false := by simpa using hy0
  clear hy0 hy hPA hLH hPF hb0 hbD
  go_wp2_with (refine wpList_load_blk rfl _ _ rfl _ rfl _ _ HB6.out _ Try.underlying30 rfl (Try.ixFits HL.out) ?_)
  refine (C3.out _).mono ?_; rintro e w7 ⟨V, rfl, ho, hb7⟩
  obtain ⟨A, cc, rfl, hc1, hc2, hrc⟩ := ho.ints
  have HB7 := Lib.hid (HB6.out.ext hb7)
  have E7 := Lib.hid (bt E6.out hb7)
  have HIn := Lib.hid (rin9_any A _ cc (buckK t M) rfl (Nat.le_trans (Nat.le_trans hblen h32) Hmx.out) 60000 _ hrc)
  obtain ⟨f, hf⟩ : ∃ f, (buckK t M).contains 60000 = f := ⟨_, rfl⟩
  rw [hf] at HIn hNB
  clear hb7 HB6 E6 c0 cp1 hf hrc hc1 hc2 ho e0 e1 e2
  go_wp2_with fail
  refine (HIn.out).mono ?_; rintro e wx ⟨rfl, rfl⟩
  clear HIn
  cases f
  case true =>
    go_wp2_with fail
    refine (works19_any _).mono ?_; rintro e w8 ⟨rfl, hb8⟩
    go_wp2_with fail
    go_ret
    exact ⟨rfl, bt E7.out hb8⟩
  have hNB2 := hNB.out rfl
  have HRt := HRz.out (hPF2.out hNB2)
  rw [HRt] at C6
  have HNe := Lib.hid (hNB2 i HiM.out)
  have HAt := Lib.hid (hPA2.out i HiM.out)
  clear hNB2 HRt hNB HRz hPF2 hPA2 C2 C3
  have C5z := Lib.hid (C5.out z hZL.out)
  have C4z := Lib.hid (C4.out)
  have b1 : IntKind.i64.wrap ((b : Int) + 1) = ((b + 1 : Nat) : Int) := by
    rw [show ((b + 1 : Nat) : Int) = (b : Int) + 1 by omega]
    exact IntWalk.i64_in _ (by omega)
  obtain ⟨B1, hB1⟩ : ∃ B1 : Nat, b + 1 = B1 := ⟨_, rfl⟩
  have HB1 := Lib.hid hB1
  rw [hB1] at b1 C4z hLH2 HAt
  clear hB1 C4 C5
  go_upto_region 8 with fail
  go_wp2_with (refine wpList_load_blk rfl _ _ rfl _ rfl _ _ HB7.out _ Try.underlying30 rfl (Try.ixFits HL.out) ?_)
  refine (C4z.out _).mono ?_; rintro e w8 ⟨rfl, hb8⟩
  have HB8 := Lib.hid (HB7.out.ext hb8)
  have E8 := Lib.hid (bt E7.out hb8)
  have Z8 := Lib.hid (show g7 < w8.heap.size from HB8.out.lt)
  clear hb8 HB7 E7 C4z
  go_wp2_with (refine wpList_alloc_row rfl _ rfl _ Try.ixZero ?_)
  apply Stop.go; intro w9 Hg9 Hb9
  go_wp2_with (refine wpList_store_arr rfl _ _ _ rfl _ _ rfl rfl _ _ Hb9.out (Try.ixFits hZL.out) (icells_same HzT.out hZL.out) (oneCell_icells _) ?_)
  apply Stop.go; intro wa Hoa Hba
  have HBa := Lib.hid ((HB8.out.ext Hg9.out.1).only Hoa.out (by have := Z8.out; omega))
  have Ea := Lib.hid (bonly (bt E8.out Hg9.out.1) Hoa.out (by have := Z8.out; have := Z4.out; omega))
  generalize w8.heap.size = g10 at *
  clear Hg9 Hb9 Hoa HB8 E8
  go_wp2_with (refine wpList_load_blk rfl _ _ rfl _ rfl _ _ Hba.out _ Try.underlying30 rfl (Try.ixFits hZL.out) ?_)
  refine (C5z.out _).mono ?_; rintro e wb ⟨rfl, hbb⟩
  have HBb := Lib.hid (HBa.out.ext hbb)
  have HZb := Lib.hid (Hba.out.ext hbb)
  have Eb := Lib.hid (bt Ea.out hbb)
  clear hbb HBa Hba Ea C5z
  have i0 : ¬ ((i : Int) < 0) := by omega
  have i1 : ¬ (31 < (i : Int)) := by have := HiM.out; omega
  have i2 : decide ((31 : Int) < i) = false := decide_eq_false i1
  have i3 : decide ((i : Int) < 0) = false := decide_eq_false i0
  go_wp2_with (refine wpList_load_blk rfl _ _ rfl _ rfl _ _ HZb.out _ Try.underlying30 rfl (Try.ixFits hZL.out) ?_)
  refine (C6.out _).mono ?_; rintro e wc ⟨rfl, hbc⟩
  have HBc := Lib.hid (HBb.out.ext hbc)
  have HZc := Lib.hid (HZb.out.ext hbc)
  have Ec := Lib.hid (bt Eb.out hbc)
  clear hbc HBb HZb Eb C6
  go_upto_region 12 with fail
  obtain ⟨N, hN⟩ : ∃ N, 2 ^ B1 = N := ⟨_, rfl⟩
  have hN0 : 0 < N := by rw [← hN]; exact Nat.two_pow_pos _
  have CL := Lib.hid (show ∀ w, Calls Try.prog 30 #[.int .u32 h, .int .i64 B1] w fun e w' => e = .returned (.int .i64 ((h % N : Nat) : Int)) ∧ w = w' from fun w => by
    have := low_any h hh B1 w
    rw [lowN_nat h B1 (by have := HB1.out; omega), hN] at this
    exact this)
  rw [hN] at hLH2
  have hN32 : N ≤ 32 := by rw [← hN]; exact pow32 (by have := HB1.out; omega)
  have cb : IntKind.u64.wrap (b : Int) = b := IntWalk.u64_in _ (by omega)
  have pb : (2 : Int) * (2 : Int) ^ b = (N : Int) := by
    rw [← hN, ← HB1.out, Nat.pow_succ]
    push_cast
    omega
  have cN : IntKind.i64.wrap (N : Int) = N := IntWalk.i64_in _ (by omega)
  obtain ⟨X1, hX1⟩ : ∃ x, h % N = x := ⟨_, rfl⟩
  obtain ⟨Y1, hY1⟩ : ∃ x, p % N = x := ⟨_, rfl⟩
  rw [hX1] at CL
  rw [hX1, hY1] at hLH2
  have HY1 := Lib.hid hY1
  obtain ⟨hf, hhf⟩ : ∃ x, isB B1 i p = x := ⟨_, rfl⟩
  rw [hhf] at hLH2 HAt
  have xy : ((X1 : Int) == (Y1 : Int)) = hf := by rw [← hLH2, Bool.eq_iff_iff]; simp; omega
  clear hN hX1 hY1 hhf hLH2
  refine WH.start (S := (fun w' : World => Blk w' g10 30 (icells ((D : Int) :: z)) ∧ Blk w' g7 30 (icells ((D : Int) :: t)))) [false, false, false, false, false, false, false, false, false, false, false] 11 rfl rfl (by kernel_rfl) (⟨HZc.out.ext (bdrew _ 1), HBc.out.ext (bdrew _ 1)⟩) (fun hSn => ?_); obtain ⟨wS, hwS⟩ : ∃ x, (wc).drew = x := ⟨_, rfl⟩; have HE := Lib.hid (show Below (wc).heap.size (wc) wS from hwS ▸ bdrew wc 1); rw [hwS] at hSn ⊢; clear hwS
  refine WH.tk 0 ?_; simp only [setL]
  refine WH.tk 1 ?_; simp only [setL]
  refine WH.tk 2 ?_; simp only [setL]
  refine WH.tk 4 ?_; simp only [setL]
  refine WH.tk 5 ?_; simp only [setL]
  refine WH.tk 6 ?_; simp only [setL]
  refine WH.tk 7 ?_; simp only [setL]
  refine WH.tv 8 rfl (fun w' hSw => exec_rem_nat _ _ _ _ rfl p N rfl rfl hN0 (by omega)) ?_; simp only [setL]
  rw [HY1.out]
  refine WH.only 3 _ rfl (by kernel_rfl) rfl (fun K hK => ?_)
  go_simp; refine (CL.out _).mono ?_; rintro e wx ⟨rfl, rfl⟩; go_simp
  have hSn := hSn; refine hK _ _ hSn ?_; clear hK; clear K; simp only [setL]
  refine WH.tk 9 ?_; simp only [setL]
  refine WH.tk 10 ?_; simp only [setL]
  refine WH.done (by kernel_rfl) ?_
  have HZd := Lib.hid hSn.1
  have HBd := Lib.hid hSn.2
  have Ed := Lib.hid (bt Ec.out HE.out)
  clear HE hSn HZc HBc Ec xy CL HY1
  go_upto_region 13 with fail
  have k0 : 0 ≤ (i : Int) := by omega
  have k1 : (i : Int) < 32 := by have := HiM.out; omega
  have HK := Lib.hid (show i < 32 by have := HiM.out; omega)
  cases hf
  · obtain ⟨u, hu⟩ : ∃ u, fld t i = u := ⟨_, rfl⟩
    have HU := Lib.hid hu
    have HZU := Lib.hid (show fld z i = u by rw [HAt.out, ← hu]; rfl)
    have hne := HNe.out
    rw [hu] at hne
    have e0 : (u == 60000) = false := by simpa using hne
    have e1 : (u == u) = true := by simp
    clear hu hne
    refine WH.start (S := (fun w' : World => Blk w' g10 30 (icells ((D : Int) :: z)) ∧ Blk w' g7 30 (icells ((D : Int) :: t)))) [false, false, false, false, false, false, false, false, false, false, false, false, false, false, false, false, false, false, false, false, false, false, false, false, false] 25 rfl rfl (by kernel_rfl) (⟨HZd.out.ext (bdrew _ 1), HBd.out.ext (bdrew _ 1)⟩) (fun hSn => ?_); obtain ⟨wT, hwS⟩ : ∃ x, (wS).drew = x := ⟨_, rfl⟩; have HE := Lib.hid (show Below (wS).heap.size (wS) wT from hwS ▸ bdrew wS 1); rw [hwS] at hSn ⊢; clear hwS
    refine WH.tk 0 ?_; simp only [setL]
    refine WH.tk 1 ?_; simp only [setL]
    refine WH.tk 2 ?_; simp only [setL]
    refine WH.tv 3 rfl (fun w' hSw => exec_load_cell _ _ rfl ⟨g10, 1 + i, none⟩ rfl _ (int_cell hSw.1 i (by rw [hZL.out]; exact HK.out)) _ Try.underlying3 rfl) ?_; simp only [setL]
    rw [HZU.out]
    refine WH.tk 4 ?_; simp only [setL]
    refine WH.tk 5 ?_; simp only [setL]
    refine WH.tk 6 ?_; simp only [setL]
    refine WH.tk 7 ?_; simp only [setL]
    refine WH.tk 8 ?_; simp only [setL]
    refine WH.tk 9 ?_; simp only [setL]
    refine WH.tk 10 ?_; simp only [setL]
    refine WH.tk 11 ?_; simp only [setL]
    refine WH.tk 12 ?_; simp only [setL]
    refine WH.tv 13 rfl (fun w' hSw => exec_load_cell _ _ rfl ⟨g10, 1 + i, none⟩ rfl _ (int_cell hSw.1 i (by rw [hZL.out]; exact HK.out)) _ Try.underlying3 rfl) ?_; simp only [setL]
    rw [HZU.out]
    refine WH.tk 14 ?_; simp only [setL]
    refine WH.tk 15 ?_; simp only [setL]
    refine WH.tk 16 ?_; simp only [setL]
    refine WH.tv 17 rfl (fun w' hSw => exec_load_cell _ _ rfl ⟨g7, 1 + i, none⟩ rfl _ (int_cell hSw.2 i (by rw [HL.out]; exact HK.out)) _ Try.underlying3 rfl) ?_; simp only [setL]
    rw [HU.out]
    refine WH.tk 18 ?_; simp only [setL]
    refine WH.tk 19 ?_; simp only [setL]
    refine WH.tk 20 ?_; simp only [setL]
    refine WH.tk 21 ?_; simp only [setL]
    refine WH.only 22 _ rfl (by kernel_rfl) rfl (fun K hK => ?_)
    go_simp; refine (works19_any _).mono ?_; rintro e x4 ⟨rfl, hba⟩; go_simp
    have HE := Lib.hid (bt HE.out hba)
    have hSn := And.intro (hSn.1.ext hba) (hSn.2.ext hba); refine hK _ _ hSn ?_; clear hK; clear K; simp only [setL]
    clear hba
    refine WH.tk 23 ?_; simp only [setL]
    refine WH.tk 24 ?_; simp only [setL]
    refine WH.done (by kernel_rfl) ?_
    go_wp2_with fail
    go_ret
    exact ⟨rfl, bt Ed.out HE.out⟩
  · have HZU := Lib.hid (show fld z i = 60000 by rw [HAt.out]; rfl)
    refine WH.start (S := (fun w' : World => Blk w' g10 30 (icells ((D : Int) :: z)) ∧ Blk w' g7 30 (icells ((D : Int) :: t)))) [false, false, false, false, false, false, false, false, false, false, false, false, false, false, false, false, false, false, false, false, false, false, false, false, false] 25 rfl rfl (by kernel_rfl) (⟨HZd.out.ext (bdrew _ 1), HBd.out.ext (bdrew _ 1)⟩) (fun hSn => ?_); obtain ⟨wT, hwS⟩ : ∃ x, (wS).drew = x := ⟨_, rfl⟩; have HE := Lib.hid (show Below (wS).heap.size (wS) wT from hwS ▸ bdrew wS 1); rw [hwS] at hSn ⊢; clear hwS
    refine WH.tk 0 ?_; simp only [setL]
    refine WH.tk 1 ?_; simp only [setL]
    refine WH.tk 2 ?_; simp only [setL]
    refine WH.tv 3 rfl (fun w' hSw => exec_load_cell _ _ rfl ⟨g10, 1 + i, none⟩ rfl _ (int_cell hSw.1 i (by rw [hZL.out]; exact HK.out)) _ Try.underlying3 rfl) ?_; simp only [setL]
    rw [HZU.out]
    refine WH.tk 4 ?_; simp only [setL]
    refine WH.tk 5 ?_; simp only [setL]
    refine WH.tk 6 ?_; simp only [setL]
    refine WH.tk 7 ?_; simp only [setL]
    refine WH.tk 8 ?_; simp only [setL]
    refine WH.tk 9 ?_; simp only [setL]
    refine WH.skip 10 _ rfl (by kernel_rfl) (fun _ _ _ h => h) rfl (by assumption) ?_; simp only [setL]
    refine WH.skip 11 _ rfl (by kernel_rfl) (fun _ _ _ h => h) rfl (by assumption) ?_; simp only [setL]
    refine WH.skip 12 _ rfl (by kernel_rfl) (fun _ _ _ h => h) rfl (by assumption) ?_; simp only [setL]
    refine WH.skip 13 _ rfl (by kernel_rfl) (fun _ _ _ h => h) rfl (by assumption) ?_; simp only [setL]
    refine WH.skip 14 _ rfl (by kernel_rfl) (fun _ _ _ h => h) rfl (by assumption) ?_; simp only [setL]
    refine WH.skip 15 _ rfl (by kernel_rfl) (fun _ _ _ h => h) rfl (by assumption) ?_; simp only [setL]
    refine WH.skip 16 _ rfl (by kernel_rfl) (fun _ _ _ h => h) rfl (by assumption) ?_; simp only [setL]
    refine WH.skip 17 _ rfl (by kernel_rfl) (fun _ _ _ h => h) rfl (by assumption) ?_; simp only [setL]
    refine WH.skip 18 _ rfl (by kernel_rfl) (fun _ _ _ h => h) rfl (by assumption) ?_; simp only [setL]
    refine WH.tk 19 ?_; simp only [setL]
    refine WH.tk 20 ?_; simp only [setL]
    refine WH.tk 21 ?_; simp only [setL]
    refine WH.only 22 _ rfl (by kernel_rfl) rfl (fun K hK => ?_)
    go_simp; refine (works19_any _).mono ?_; rintro e x4 ⟨rfl, hba⟩; go_simp
    have HE := Lib.hid (bt HE.out hba)
    have hSn := And.intro (hSn.1.ext hba) (hSn.2.ext hba); refine hK _ _ hSn ?_; clear hK; clear K; simp only [setL]
    clear hba
    refine WH.tk 23 ?_; simp only [setL]
    refine WH.tk 24 ?_; simp only [setL]
    refine WH.done (by kernel_rfl) ?_
    go_wp2_with fail
    go_ret
    exact ⟨rfl, bt Ed.out HE.out⟩

end Go.Proofs.Ythcbjihdbkpkeaa
