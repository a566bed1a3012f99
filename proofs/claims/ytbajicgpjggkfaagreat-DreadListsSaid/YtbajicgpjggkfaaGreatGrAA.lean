/-
  Texts of this claim joined: Ref18, Ref18b.
-/
import Derived.Test.YtbajicgpjggkfaaGreatGrR
import Derived.Test.YtbajicgpjggkfaaGreatGrG
import Derived.Deep.CutRange

/-
  Contracts of the document's answer 18: May, Bytes, Read, Empty, Head.
-/
namespace Go.Proofs.YtbajicgpjggkfaaGreat
open Go.RowKit

set_option maxHeartbeats 800000 in
theorem rmay18_any (e : En) (hs : e.name.size ≤ maxLen) (w : World) :
    Calls Tryz.prog 55 #[.agg (ecells e)] w fun x w' => x = .returned (.bool (mayE e)) ∧ Below w.heap.size w w' := by
  have Hs := Lib.hid hs
  have HM : Hid (mayE e = (rightN e.name && decide (1 ≤ e.ino ∧ e.ino ≤ 128))) := Lib.hid rfl
  obtain ⟨s, i⟩ := e
  clear hs
  go_enter Tryz.func55, Tryz.ntmps55
  go_wp2_with (refine wpList_box_row rfl _ _ rfl _ rfl ?_)
  apply Stop.go; intro w1 Hg1 Hb1
  have c0 : w1.cell? ⟨w.heap.size, 0, none⟩ = some (.string s) := Hb1.out.cell 0
  have c1 : w1.cell? ⟨w.heap.size, 1, none⟩ = some (.int .i64 i) := Hb1.out.cell 1
  go_wp2_with fail
  refine (nright_any s Hs.out _).mono ?_; rintro e wx ⟨rfl, rfl⟩
  cases hr : rightN s
  · have HM := Lib.hid (show mayE ⟨s, i⟩ = false by rw [HM.out, hr]; rfl)
    clear hr
    go_wp2_with fail
    go_ret
    rw [HM.out]
    exact ⟨rfl, Hg1.out.1⟩
  · have HM := Lib.hid (show mayE ⟨s, i⟩ = decide (1 ≤ i ∧ i ≤ 128) by rw [HM.out, hr]; rfl)
    clear hr
    by_cases h1 : 1 ≤ i
    · have e1 : decide (1 ≤ i) = true := decide_eq_true h1
      by_cases h2 : i ≤ 128
      · have e2 : decide (i ≤ 128) = true := decide_eq_true h2
        have HM := Lib.hid (show mayE ⟨s, i⟩ = true by rw [HM.out]; exact decide_eq_true ⟨h1, h2⟩)
        go_wp2_with fail
        go_ret
        rw [HM.out]
        exact ⟨rfl, Hg1.out.1⟩
      · have e2 : decide (i ≤ 128) = false := decide_eq_false h2
        have HM := Lib.hid (show mayE ⟨s, i⟩ = false by rw [HM.out]; exact decide_eq_false fun h => h2 h.2)
        go_wp2_with fail
        go_ret
        rw [HM.out]
        exact ⟨rfl, Hg1.out.1⟩
    · have e1 : decide (1 ≤ i) = false := decide_eq_false h1
      have HM := Lib.hid (show mayE ⟨s, i⟩ = false by rw [HM.out]; exact decide_eq_false fun h => h1 h.1)
      go_wp2_with fail
      go_ret
      rw [HM.out]
      exact ⟨rfl, Hg1.out.1⟩

set_option maxRecDepth 4000 in
set_option maxHeartbeats 1600000 in
theorem rbytes18_any (e : En) (hm : mayE e = true) (w : World) :
    Calls Tryz.prog 57 #[.agg (ecells e)] w (RetB w (bytesE e)) := by
  have HS := Lib.hid (rightN_size (mayE_iff.1 hm).1).2
  have HI := Lib.hid (show 0 ≤ e.ino ∧ e.ino ≤ 128 by have := mayE_iff.1 hm; omega)
  have HP := Lib.hid (packL_len' hm)
  have HBL := Lib.hid (bytesE_len hm)
  have HBE : Hid (bytesE e = leBytes 2 e.ino.toNat ++ (packL e.name.data.toList ++ zeros 5)) := Lib.hid rfl
  obtain ⟨s, i⟩ := e
  have HI : Hid (0 ≤ i ∧ i ≤ 128) := HI
  have hU : IntKind.u64.wrap i = (i.toNat : Nat) := by
    have h := HI.out
    rw [Int.toNat_of_nonneg h.1]
    exact IntWalk.u64_in _ (by omega)
  have HIb := Lib.hid (show i.toNat < 18446744073709551616 by have := HI.out; omega)
  obtain ⟨v, hv⟩ : ∃ v, i.toNat = v := ⟨_, rfl⟩
  rw [hv] at hU HIb
  simp only [hv] at HBE
  have HLL := Lib.hid (leBytes_len 2 v)
  obtain ⟨P, hP⟩ : ∃ P, packL s.data.toList = P := ⟨_, rfl⟩
  have HRP := Lib.hid (fun w => rpack_any s HS.out w)
  simp only [hP] at HBE HP HRP
  obtain ⟨X, hX⟩ : ∃ X, bytesE ⟨s, i⟩ = X := ⟨_, rfl⟩
  rw [hX] at HBE HBL ⊢
  clear hv hP hX hm
  go_enter Tryz.func57, Tryz.ntmps57
  go_wp2_with (refine wpList_box_row rfl _ _ rfl _ rfl ?_)
  apply Stop.go; intro w1 Hg1 Hb1
  have z1 := Lib.hid (show w.heap.size < w1.heap.size from Hb1.out.lt)
  go_wp2_with fail
  refine WH.start (S := fun w' : World => Blk w' w.heap.size 67 #[.string s, .int .i64 i]) [false, false, false, false, false, false, false, false, false] 9 rfl rfl (by kernel_rfl) (Hb1.out.ext (bdrew w1 1)) (fun hSn => ?_); obtain ⟨wS, hwS⟩ : ∃ x, (w1).drew = x := ⟨_, rfl⟩; have HE := Lib.hid (show Below (w1).heap.size (w1) wS from hwS ▸ bdrew w1 1); rw [hwS] at hSn ⊢; clear hwS
  refine WH.tk 0 ?_; simp only [setL]
  refine WH.tv 1 rfl (fun w' hSw => exec_load_cell _ _ rfl _ rfl (.int .i64 i) (hSw.cell 1) _ Tryz.underlying3 rfl) ?_; simp only [setL]
  refine WH.tk 2 ?_; simp only [setL]
  refine WH.tk 4 ?_; simp only [setL]
  refine WH.tv 5 rfl (fun w' hSw => exec_load_cell _ _ rfl _ rfl (.string s) (hSw.cell 0) _ Tryz.underlying9 rfl) ?_; simp only [setL]
  refine WH.only 3 _ rfl (by kernel_rfl) rfl (fun K hK => ?_)
  go_simp; refine (bytesO_any 2 v (by omega) HIb.out _).mono ?_; rintro e wa ⟨u, rfl, hua, hba⟩; go_simp
  have zS := Lib.hid (show w.heap.size < wS.heap.size ∧ wS.heap.size ≤ wa.heap.size by have := HE.out.size; have := z1.out; have := hba.size; omega)
  have HE := Lib.hid (bt HE.out hba)
  have HU := Lib.hid hua
  clear hua
  have hSn := hSn.ext hba; refine hK _ _ hSn ?_; clear hK; clear K; simp only [setL]
  generalize wS.heap.size = gS at *
  refine WH.only 6 _ rfl (by kernel_rfl) rfl (fun K hK => ?_)
  go_simp; refine (HRP.out _).mono ?_; rintro e wb ⟨A2, c2, rfl, hc2, hm2, hr2, hb2⟩; go_simp
  have HE := Lib.hid (bt HE.out hb2)
  have HU := Lib.hid (HU.out.below hb2)
  have HR2 := Lib.hid hr2
  have zb := Lib.hid (show w.heap.size < gS ∧ gS ≤ wb.heap.size by have := zS.out; have := hb2.size; omega)
  have hSn := hSn.ext hb2; refine hK _ _ hSn ?_; clear hK; clear K; simp only [setL]
  refine WH.only 7 _ rfl (by kernel_rfl) rfl (fun K hK => ?_)
  refine ow_append_own_bytes _ _ _ _ rfl Tryz.underlying70 Tryz.byteInfo gS _ _ rfl HU.out zb.out.2 _ _ _ P rfl HP.out HR2.out (by decide) (by rw [HLL.out]; decide) ?_
  apply Stop.go; intro u3 wc HU3 Hb3
  have Ec := Lib.hid ((bt Hg1.out.1 HE.out).trans (Hb3.out.mono (by have := zb.out; omega)))
  have zc := Lib.hid (show gS ≤ wc.heap.size by have := Hb3.out.size; have := zb.out; omega)
  have hSn := hSn.below Hb3.out (by have := zb.out; omega); refine hK _ _ hSn ?_; clear hK; clear K; simp only [setL]
  refine WH.tk 8 ?_; simp only [setL]
  refine WH.done (by kernel_rfl) ?_
  clear hSn HE HU HR2 Hb3 hb2 hba Hb1 Hg1 hU HRP hr2
  go_wp2_with (at_builtin; refine wpList_append_own_bytes rfl _ _ _ _ rfl Tryz.underlying70 Tryz.byteInfo gS _ _ rfl (HU3.out.alloc _) (Nat.le_trans zc.out (Grew.alloc wc _).1.size) _ _ _ (zeros 5) rfl (zeros_len 5) (RB.of_blk0 (l := zeros 5) (Blk.new wc _ _)) (by decide) (by rw [List.length_append, HLL.out, HP.out]; decide) ?_)
  apply Stop.go; intro u5 we HU5 Hb5
  go_wp2_with fail
  go_ret
  have ho := HU5.out
  rw [← HBE.out] at ho
  obtain ⟨A, c, hv, h1, h2, h3⟩ := ho.read
  exact ⟨A, _, c, congrArg Ending.returned hv, rfl, h1, h2, h3, Ec.out.trans ((Grew.alloc wc _).1.mono (by have := Ec.out.size; omega) |>.trans (Hb5.out.mono (by have := zb.out; omega)))⟩

theorem nameR_cut (b : List UInt8) (k : Nat) : rcutL b (34 + 32 * (k : Int)) 25 = nameR (rawS b k) := by
  unfold rcutL nameR rawS
  rw [if_pos (decide_eq_true (by omega)), show (34 + 32 * (k : Int)).toNat = 34 + 32 * k from by omega, List.drop_take, List.take_take, List.drop_drop]
  show List.take 25 _ = List.take (min 25 30) _
  rw [show 32 + 32 * k + 2 = 34 + 32 * k from by omega]
  rfl
theorem rawS_cut (b : List UInt8) (k : Nat) : rcutL b (32 + 32 * (k : Int)) 32 = rawS b k := by
  unfold rcutL rawS
  rw [if_pos (decide_eq_true (by omega)), show (32 + 32 * (k : Int)).toNat = 32 + 32 * k from by omega]
  rfl
theorem inoR_at {b : List UInt8} (hb : b.length = 256) {k : Nat} (hk : k < 7) : getN b (32 + 32 * (k : Int)) 2 4 = leVal ((rawS b k).take 2) := by
  unfold getN rawS
  rw [if_pos (by unfold fitsB; rw [hb]; simp; omega), show (32 + 32 * (k : Int)).toNat = 32 + 32 * k from by omega, List.take_take]
  rfl
set_option maxRecDepth 4000 in
set_option maxHeartbeats 1600000 in
theorem rread18_any (A : Option Addr) (cap : Nat) (b : List UInt8) (hb : b.length = 256) (k : Nat) (hk : k < 7) (w : World) (hr : RB w A b) :
    Calls Tryz.prog 23 #[.slice A 256 cap, .int .i64 k] w fun e w' => e = .returned (.tuple #[.agg (ecells (entV (entS b k))), .bool (entS b k).isSome]) ∧ Below w.heap.size w w' := by
  have HbL := Lib.hid hb
  have Hr := Lib.hid hr
  have HNC := Lib.hid (nameR_cut b k)
  have HRC := Lib.hid (rawS_cut b k)
  have HIA := Lib.hid (inoR_at hb hk)
  have HEs : Hid (entS b k = readE (rawS b k)) := Lib.hid rfl
  have HRL := Lib.hid (rawS_len hb hk)
  obtain ⟨r, hrr⟩ : ∃ r, rawS b k = r := ⟨_, rfl⟩
  rw [hrr] at HNC HRC HIA HEs HRL
  rw [HEs.out]
  have HNL := Lib.hid (nameR_len HRL.out)
  have Hsz := Lib.hid (unpackS_size (nameR_len HRL.out))
  have HOK : Hid (okR r = (unpackB (nameR r) && (mayE ⟨unpackS (nameR r), ((leVal (r.take 2) : Nat) : Int)⟩ && bytesE ⟨unpackS (nameR r), ((leVal (r.take 2) : Nat) : Int)⟩ == r))) := Lib.hid rfl
  have HEN : Hid (enR r = ⟨unpackS (nameR r), ((leVal (r.take 2) : Nat) : Int)⟩) := Lib.hid rfl
  obtain ⟨N, hN⟩ : ∃ N, nameR r = N := ⟨_, rfl⟩
  rw [hN] at HNL Hsz HOK HEN HNC
  have hw1 : IntKind.i64.wrap (32 * (k : Int)) = 32 * (k : Int) := IntWalk.i64_in _ (by omega)
  have hw2 : IntKind.i64.wrap (34 + 32 * (k : Int)) = 34 + 32 * (k : Int) := IntWalk.i64_in _ (by omega)
  have hw3 : IntKind.i64.wrap (32 + 32 * (k : Int)) = 32 + 32 * (k : Int) := IntWalk.i64_in _ (by omega)
  have Hk := Lib.hid hk
  clear hb hr hrr hN hk HEs
  go_enter Tryz.func23, Tryz.ntmps23
  go_wp2_with (refine wpList_alloc_row rfl _ rfl _ Tryz.entZero ?_)
  apply Stop.go; intro w1 Hg1 Hb1
  have E1 := Lib.hid Hg1.out.1
  clear Hg1
  go_wp2_with fail
  refine (rcut_any A 256 cap b HbL.out (by omega) (34 + 32 * (k : Int)) 25 _ (Hr.out.below E1.out)).mono ?_; rintro e w2 ⟨A2, n2, c2, rfl, hl2, hc2, hm2, hr2, hb2⟩
  rw [HNC.out] at hl2 hr2
  obtain rfl : n2 = 25 := by rw [← hl2, HNL.out]
  obtain ⟨ad2, rfl⟩ := hr2.addr (by rw [HNL.out]; decide)
  have HR2 := Lib.hid hr2
  have HI2 := Lib.hid (Hb1.out.ext hb2)
  have E2 := Lib.hid (bt E1.out hb2)
  have HC2 := Lib.hid (And.intro hc2 hm2)
  clear hl2 hc2 hm2 hr2 hb2 Hb1 E1
  go_wp2_with fail
  refine (runpack_any ad2 c2 HC2.out.1 HC2.out.2 N HNL.out _ HR2.out).mono ?_; rintro e w3 ⟨rfl, hb3⟩
  have HI3 := Lib.hid (HI2.out.ext hb3)
  have E3 := Lib.hid (bt E2.out hb3)
  clear hb3 HR2 HI2 E2
  go_wp2_with fail
  refine (nrat_any A 256 cap b HbL.out (by unfold maxLen; omega) (32 + 32 * (k : Int)) 2 _ (Hr.out.below E3.out)).mono ?_; rintro e w4 ⟨rfl, rfl⟩
  rw [HIA.out]
  have z3 := Lib.hid (show w.heap.size < w3.heap.size from HI3.out.lt)
  obtain ⟨s, hs⟩ : ∃ s, unpackS N = s := ⟨_, rfl⟩
  obtain ⟨v, hv⟩ : ∃ v, leVal (r.take 2) = v := ⟨_, rfl⟩
  rw [hs] at HOK HEN Hsz ⊢
  rw [hv] at HOK HEN ⊢
  clear hs hv HIA
  go_wp2_with (refine wpList_alloc_row rfl _ rfl _ Tryz.entZero ?_)
  apply Stop.go; intro w5 Hg5 Hb5
  go_wp2_with (refine wpList_store_arr rfl _ _ _ rfl _ #[.string s, .int .i64 (v : Int)] rfl rfl _ _ Hb5.out Tryz.entSize rfl (by simp [Value.oneCell']) ?_)
  apply Stop.go; intro w6 Ho6 Hb6
  have D6 := Lib.hid (bonly Hg5.out.1 Ho6.out (Nat.le_refl _))
  have HI6 := Lib.hid (HI3.out.ext D6.out)
  have E6 := Lib.hid (bt E3.out D6.out)
  generalize w3.heap.size = g3 at *
  clear Hg5 Hb5 Ho6 D6 HI3 E3
  cases hu : unpackB N
  · have H0 := Lib.hid (readE_no (show okR r = false by rw [HOK.out, hu]; rfl))
    clear hu
    go_upto_region 4 with fail
    go_wp2_with (first | refine wpList_store_arr rfl _ _ _ rfl _ #[.string ⟨#[]⟩, .int .i64 0] rfl rfl _ _ HI6.out Tryz.entSize rfl (by simp [Value.oneCell']) ?_)
    apply Stop.go; intro wc Hoc Hbc
    go_wp2_with ((with_reducible show bodyPost _ _ _ _ _ _); refine bodyPost_struct_tmp rfl _ rfl _ _ Hbc.out _ Tryz.underlying67 rfl Tryz.entSize rfl _ rfl ?_)
    apply Stop.go
    rw [H0.out]
    exact ⟨⟨rfl, rfl⟩, bonly E6.out Hoc.out (Nat.le_refl _)⟩
  · have HOK := Lib.hid (show okR r = (mayE ⟨s, (v : Int)⟩ && bytesE ⟨s, (v : Int)⟩ == r) by rw [HOK.out, hu]; rfl)
    clear hu
    go_wp2_with (refine wpList_load_blk rfl _ _ rfl _ rfl _ _ Hb6.out _ Tryz.underlying67 rfl Tryz.entSize ?_)
    refine (rmay18_any ⟨s, (v : Int)⟩ Hsz.out _).mono ?_; rintro e w7 ⟨rfl, hb7⟩
    have HI7 := Lib.hid (HI6.out.ext hb7)
    have HX7 := Lib.hid (Hb6.out.ext hb7)
    have E7 := Lib.hid (bt E6.out hb7)
    clear hb7 HI6 Hb6 E6
    cases hm : mayE ⟨s, (v : Int)⟩
    · have H0 := Lib.hid (readE_no (show okR r = false by rw [HOK.out, hm]; rfl))
      clear hm
      go_upto_region 4 with fail
      go_wp2_with (first | refine wpList_store_arr rfl _ _ _ rfl _ #[.string ⟨#[]⟩, .int .i64 0] rfl rfl _ _ HI7.out Tryz.entSize rfl (by simp [Value.oneCell']) ?_)
      apply Stop.go; intro wc Hoc Hbc
      go_wp2_with ((with_reducible show bodyPost _ _ _ _ _ _); refine bodyPost_struct_tmp rfl _ rfl _ _ Hbc.out _ Tryz.underlying67 rfl Tryz.entSize rfl _ rfl ?_)
      apply Stop.go
      rw [H0.out]
      exact ⟨⟨rfl, rfl⟩, bonly E7.out Hoc.out (Nat.le_refl _)⟩
    · have HYL := Lib.hid (bytesE_len hm)
      have HW := Lib.hid (fun w => rbytes18_any ⟨s, (v : Int)⟩ hm w)
      have HOK := Lib.hid (show okR r = (bytesE ⟨s, (v : Int)⟩ == r) by rw [HOK.out, hm]; rfl)
      obtain ⟨Y, hY⟩ : ∃ Y, bytesE ⟨s, (v : Int)⟩ = Y := ⟨_, rfl⟩
      rw [hY] at HYL HW HOK
      obtain ⟨o, ho⟩ : ∃ o, okR r = o := ⟨_, rfl⟩
      have Ho := Lib.hid ho
      have Heq : Hid (decide (Y = r) = o) := Lib.hid (by rw [← ho, HOK.out]; exact Bool.eq_iff_iff.2 (by simp))
      clear hm hY ho
      go_wp2_with (refine wpList_load_blk rfl _ _ rfl _ rfl _ _ HX7.out _ Tryz.underlying67 rfl Tryz.entSize ?_)
      refine (HW.out _).mono ?_; rintro e w8 ⟨A8, n8, c8, rfl, hl8, hc8, hm8, hr8, hb8⟩
      obtain rfl : n8 = 32 := by rw [← hl8, HYL.out]
      have HR8 := Lib.hid hr8
      have HI8 := Lib.hid (HI7.out.ext hb8)
      have HX8 := Lib.hid (HX7.out.ext hb8)
      have E8 := Lib.hid (bt E7.out hb8)
      clear hl8 hc8 hm8 hr8 hb8 HI7 HX7 E7
      go_wp2_with fail
      refine (rcut_any A 256 cap b HbL.out (by omega) (32 + 32 * (k : Int)) 32 _ (Hr.out.below E8.out)).mono ?_; rintro e w9 ⟨A9, n9, c9, rfl, hl9, hc9, hm9, hr9, hb9⟩
      rw [HRC.out] at hl9 hr9
      obtain rfl : n9 = 32 := by rw [← hl9, HRL.out]
      have HR9 := Lib.hid hr9
      have HQ9 := Lib.hid (HR8.out.below hb9)
      have HI9 := Lib.hid (HI8.out.ext hb9)
      have HX9 := Lib.hid (HX8.out.ext hb9)
      have E9 := Lib.hid (bt E8.out hb9)
      clear hl9 hc9 hm9 hr9 hb9 HI8 HX8 E8 HR8
      go_wp2_with fail
      refine (same_any _ _ _ Y HYL.out _ _ _ r HRL.out (by unfold maxLen; omega) (by unfold maxLen; omega) _ HQ9.out HR9.out).mono ?_; rintro e wa ⟨rfl, q, rfl⟩
      rw [Heq.out]
      have hba := bdrew w9 q
      obtain ⟨wa, hwa⟩ : ∃ x, w9.drewN q = x := ⟨_, rfl⟩
      rw [hwa] at hba ⊢
      have HIa := Lib.hid (HI9.out.ext hba)
      have HXa := Lib.hid (HX9.out.ext hba)
      have Ea := Lib.hid (bt E9.out hba)
      clear hba hwa HI9 HX9 E9 HR9 HQ9
      cases o
      · have H0 := Lib.hid (readE_no Ho.out)
        go_wp2_with (first | refine wpList_store_arr rfl _ _ _ rfl _ #[.string ⟨#[]⟩, .int .i64 0] rfl rfl _ _ HIa.out Tryz.entSize rfl (by simp [Value.oneCell']) ?_)
        apply Stop.go; intro wc Hoc Hbc
        go_wp2_with ((with_reducible show bodyPost _ _ _ _ _ _); refine bodyPost_struct_tmp rfl _ rfl _ _ Hbc.out _ Tryz.underlying67 rfl Tryz.entSize rfl _ rfl ?_)
        apply Stop.go
        rw [H0.out]
        exact ⟨⟨rfl, rfl⟩, bonly Ea.out Hoc.out (Nat.le_refl _)⟩
      · have H0 := Lib.hid (show readE r = some ⟨s, (v : Int)⟩ by rw [readE_yes Ho.out, HEN.out])
        go_wp2_with (first | refine wpList_load_blk rfl _ _ rfl _ rfl _ _ HXa.out _ Tryz.underlying67 rfl Tryz.entSize ?_ | refine wpList_store_arr rfl _ _ _ rfl _ (ecells ⟨s, (v : Int)⟩) rfl rfl _ _ HIa.out Tryz.entSize rfl (by simp [ecells, Value.oneCell']) ?_)
        apply Stop.go; intro wc Hoc Hbc
        go_wp2_with ((with_reducible show bodyPost _ _ _ _ _ _); refine bodyPost_struct_tmp rfl _ rfl _ _ Hbc.out _ Tryz.underlying67 rfl Tryz.entSize rfl _ rfl ?_)
        apply Stop.go
        rw [H0.out]
        exact ⟨⟨rfl, rfl⟩, bonly Ea.out Hoc.out (Nat.le_refl _)⟩

end Go.Proofs.YtbajicgpjggkfaaGreat

/-
  Contracts of the document's answer 18: Empty, Head, Find, Room, Fix, Right.
-/
namespace Go.Proofs.YtbajicgpjggkfaaGreat
open Go.RowKit



def findZ (b : List UInt8) (s : ByteArray) : Int := match findS b s with
  | some k => (k : Int)
  | none => -1
theorem findZ_some {b : List UInt8} {s : ByteArray} {k : Nat} (h : findS b s = some k) : findZ b s = (k : Int) := by unfold findZ; rw [h]
theorem findZ_none {b : List UInt8} {s : ByteArray} (h : findS b s = none) : findZ b s = -1 := by unfold findZ; rw [h]
set_option maxRecDepth 4000 in
set_option maxHeartbeats 1600000 in
theorem rfind18_any (A : Option Addr) (cap : Nat) (b : List UInt8) (hb : b.length = 256) (s : ByteArray) (w : World) (hr : RB w A b) :
    Calls Tryz.prog 37 #[.slice A 256 cap, .string s] w fun e w' => e = .returned (.int .i64 (findZ b s)) ∧ Below w.heap.size w w' := by
  have HbL := Lib.hid hb
  have Hr := Lib.hid hr
  clear hb hr
  go_enter Tryz.func37, Tryz.ntmps37
  go_wp2_with fail
  go_loopw [5] (fun i wr => ∃ k : Nat, k ≤ 7 ∧ i = .int .i64 k ∧ (∀ j, j < k → hasS b s j = false) ∧ Below w.heap.size w wr) (fun i _ => 7 - (intOf i).toNat)
  case atStart => exact ⟨0, Nat.zero_le _, rfl, fun j hj => absurd hj (by omega), Below.refl _ _⟩
  case round =>
    obtain ⟨k, hk, rfl, hno, hek⟩ := hrel
    have HN := Lib.hid hno
    have HEk := Lib.hid hek
    clear hno hek
    by_cases hlt : k < 7
    · have d0 : decide ((k : Int) < 7) = true := by simp; omega
      have d1 : decide (k < 7) = true := by simp; omega
      have hwk : IntKind.i64.wrap ((k : Int) + 1) = (k : Int) + 1 := IntWalk.i64_in _ (by omega)
      go_wp2_with fail
      refine (rread18_any A cap b HbL.out k hlt _ (Hr.out.below HEk.out)).mono ?_; rintro e w4 ⟨rfl, hb4⟩
      have E4 := Lib.hid (bt HEk.out hb4)
      have z4 := Lib.hid (show w.heap.size ≤ w4.heap.size from E4.out.size)
      clear hb4 HEk
      obtain ⟨o, ho⟩ : ∃ o, entS b k = o := ⟨_, rfl⟩
      have HEs := Lib.hid ho
      rw [ho]
      clear ho
      go_wp2_with (refine wpList_alloc_row rfl _ rfl _ Tryz.entZero ?_)
      apply Stop.go; intro w5 Hg5 Hb5
      go_wp2_with (refine wpList_store_arr rfl _ _ _ rfl _ (ecells (entV o)) rfl rfl _ _ Hb5.out Tryz.entSize rfl (by simp [ecells, Value.oneCell']) ?_)
      apply Stop.go; intro w6 Ho6 Hb6
      have E6 := Lib.hid (bonly (bt E4.out Hg5.out.1) Ho6.out z4.out)
      generalize w4.heap.size = g4 at *
      clear Hg5 Hb5 Ho6 E4
      cases o with
      | none =>
        have HN1 := Lib.hid (hasS_no (s := s) HEs.out)
        rw [show (none : Option En).isSome = false from rfl]
        go_wp2_with fail
        go_roundw
        case rel =>
          refine ⟨k + 1, by omega, by go_num, fun j hj => ?_, E6.out⟩
          rcases Nat.lt_or_ge j k with h | h
          · exact HN.out j h
          · rw [show j = k from by omega]; exact HN1.out
        case measure => simp [intOf]; omega
      | some e =>
        have HN1 := Lib.hid (hasS_some (s := s) HEs.out)
        have c0 : w6.cell? ⟨g4, 0, none⟩ = some (.string e.name) := Hb6.out.cell 0
        rw [show (some e).isSome = true from rfl]
        cases heq : e.name.toList == s.toList
        · have HN1 := Lib.hid (show hasS b s k = false by rw [HN1.out, ← text_eq, heq])
          go_wp2_with fail
          go_roundw
          case rel =>
            refine ⟨k + 1, by omega, by go_num, fun j hj => ?_, E6.out⟩
            rcases Nat.lt_or_ge j k with h | h
            · exact HN.out j h
            · rw [show j = k from by omega]; exact HN1.out
          case measure => simp [intOf]; omega
        · have HF : Hid (findS b s = some k) := Lib.hid (fstB_some.2 ⟨hlt, by rw [HN1.out, ← text_eq, heq], HN.out⟩)
          go_wp2_with fail
          go_ret
          rw [findZ_some HF.out]
          exact ⟨rfl, E6.out⟩
    · obtain rfl : k = 7 := by omega
      have d0 : decide (((7 : Nat) : Int) < 7) = false := by simp
      have HF : Hid (findS b s = none) := Lib.hid (fstB_none.2 HN.out)
      go_wp2_with fail
      go_ret
      rw [findZ_none HF.out]
      exact ⟨rfl, HEk.out⟩




end Go.Proofs.YtbajicgpjggkfaaGreat
