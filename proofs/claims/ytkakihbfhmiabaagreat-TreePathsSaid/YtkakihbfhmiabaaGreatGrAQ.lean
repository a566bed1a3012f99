/-
  Texts of this claim joined: Fm1, Fm2, Fm3.
-/
import Derived.Test.YtkakihbfhmiabaaGreatFmpC
import Derived.Test.YtkakihbfhmiabaaGreatGrAD
import Derived.Test.YtkakihbfhmiabaaGreatGrAN
import Derived.Test.YtkakihbfhmiabaaGreatGrAV
import Derived.Test.YtkakihbfhmiabaaGreatGrAS
import Derived.Test.YtkakihbfhmiabaaGreatGrAO
import Derived.Test.YtkakihbfhmiabaaGreatArrI
import Derived.Test.YtkakihbfhmiabaaGreatGrAH

/-
  Contracts of package fmap: ifData, pointers, keepData, At.
-/
namespace Go.Proofs.YtkakihbfhmiabaaGreat
open Go.RowKit
set_option maxRecDepth 10000

set_option maxHeartbeats 800000 in
theorem fdata_any (l : Lay14) (f : Value) (no : Int) (w : World) :
    Calls Tryz.prog 169 #[.agg (vval l f), .int .i64 no] w fun e w' => e = .returned (.int .i64 (datF l no)) ∧ Below w.heap.size w w' := by
  have HY := Lib.hid (fun h => datF_yes (l := l) (no := no) h)
  have HN := Lib.hid (fun h => datF_no (l := l) (no := no) h)
  go_enter Tryz.func169, Tryz.ntmps169
  go_wp2_with (refine wpList_box_row rfl _ _ rfl _ rfl ?_)
  apply Stop.go; intro w1 Hg1 Hb1
  go_wp2_with (refine wpList_load_cells rfl _ _ rfl ⟨w.heap.size, 0, none⟩ rfl _ Tryz.underlying41 (Lay14.val l).toList Tryz.laySize (vval_cells Hb1.out) ?_)
  refine (isdata_any l no _).mono ?_; rintro e w2 ⟨rfl, hb2⟩
  have E2 := Lib.hid (bt Hg1.out.1 hb2)
  clear hb2 Hg1 Hb1
  cases hd : l.isD no
  · have H0 := Lib.hid (HN.out hd)
    clear hd HY HN
    go_wp2_with fail
    go_ret
    rw [H0.out]
    exact ⟨rfl, E2.out⟩
  · have H0 := Lib.hid (HY.out hd)
    clear hd HY HN
    go_wp2_with fail
    go_ret
    rw [H0.out]
    exact ⟨rfl, E2.out⟩

set_option maxHeartbeats 1600000 in
theorem fptr_any (l : Lay14) (f : Value) (T : Int → List UInt8) (hT : ∀ no, (T no).length = 256) (X : List Int) (hX : X.length = 11) (w : World) (hf : FV w l f T) :
    Calls Tryz.prog 171 #[.agg (vval l f), .agg (icells X)] w fun e w' => e = .returned (.agg (bcells (ptrF l T X))) ∧ Below w.heap.size w w' := by
  have HXL := Lib.hid hX
  have HF := Lib.hid hf
  have HzL : Hid ((zeros 256).length = 256) := Lib.hid (zeros_len _)
  obtain ⟨I, HI⟩ : ∃ I, Hid (fld X 10 = I) := ⟨_, Lib.hid rfl⟩
  have HBk := Lib.hid (fun w h => vblock_any l f T hT I w h)
  have HBL := Lib.hid (vBk_len (l := l) hT I)
  have HY := Lib.hid (fun h : l.isD I = true => show ptrF l T X = vBk l T I by rw [ptrF_yes (by rw [HI.out]; exact h), HI.out])
  have HN := Lib.hid (fun h : l.isD I = false => show ptrF l T X = zeros 256 from ptrF_no (by rw [HI.out]; exact h))
  clear hT hX hf
  go_enter Tryz.func171, Tryz.ntmps171
  go_wp2_with (refine wpList_box_row rfl _ _ rfl _ rfl ?_)
  apply Stop.go; intro w1 Hg1 Hb1
  go_wp2_with (refine wpList_box_row rfl _ _ rfl _ rfl ?_)
  apply Stop.go; intro w2 Hg2 Hb2
  have HV2 := Lib.hid (Hb1.out.ext Hg2.out.1)
  have E2 := Lib.hid (bt Hg1.out.1 Hg2.out.1)
  have z2 := Lib.hid (show w.heap.size < w1.heap.size ∧ w1.heap.size < w2.heap.size by have := Hg1.out.2; have := Hg2.out.2; omega)
  generalize w1.heap.size = g1 at *
  clear Hg1 Hb1 Hg2
  go_wp2_with (refine wpList_alloc_row rfl _ rfl _ Tryz.blockZero ?_)
  apply Stop.go; intro w3 Hg3 Hb3
  have HV3 := Lib.hid (HV2.out.ext Hg3.out.1)
  have HX3 := Lib.hid (Hb2.out.ext Hg3.out.1)
  have E3 := Lib.hid (bt E2.out Hg3.out.1)
  have z3 := Lib.hid (show w.heap.size < w2.heap.size ∧ g1 < w2.heap.size by have := z2.out; omega)
  generalize w2.heap.size = gz at *
  clear Hg3 Hb2 HV2 E2 z2
  have c10 : w3.cell? ⟨g1, 10, none⟩ = some (.int .i64 I) := by rw [← HI.out]; exact HX3.out.fld 10 (by rw [HXL.out]; omega)
  go_wp2_with (refine wpList_load_cells rfl _ _ rfl ⟨w.heap.size, 0, none⟩ rfl _ Tryz.underlying41 (Lay14.val l).toList Tryz.laySize (vval_cells HV3.out) ?_)
  refine (isdata_any l I _).mono ?_; rintro e w4 ⟨rfl, hb4⟩
  have HV4 := Lib.hid (HV3.out.ext hb4)
  have HX4 := Lib.hid (HX3.out.ext hb4)
  have HB4 := Lib.hid (Hb3.out.ext hb4)
  have E4 := Lib.hid (bt E3.out hb4)
  have HF4 := Lib.hid (HF.out.below E4.out)
  clear hb4 HV3 HX3 Hb3 E3 c10 HF
  cases hd : l.isD I
  · have H0 := Lib.hid (HN.out hd)
    clear hd HY HN
    go_wp2_with (first | refine wpList_build_zero rfl _ rfl _ Tryz.blockZero _ _ Tryz.underlying82 Tryz.byteSize ?_ | refine wpList_store_arr rfl _ _ _ rfl _ _ rfl rfl _ _ HB4.out (Tryz.blockFits HzL.out) rfl (oneCell_bcells _) ?_)
    apply Stop.go; intro we Hoe Hbe
    go_wp2_with ((with_reducible show bodyPost _ _ _ _ _ _); refine bodyPost_cell rfl _ rfl _ _ Hbe.out _ _ Tryz.underlying82 (Tryz.blockFits HzL.out) rfl ?_)
    apply Stop.go
    rw [H0.out]
    exact ⟨rfl, bonly E4.out Hoe.out (by have := z3.out; omega)⟩
  · have H0 := Lib.hid (HY.out hd)
    have c10 : w4.cell? ⟨g1, 10, none⟩ = some (.int .i64 I) := by rw [← HI.out]; exact HX4.out.fld 10 (by rw [HXL.out]; omega)
    clear hd HY HN
    go_wp2_with (refine wpList_load_blk rfl _ _ rfl _ rfl _ _ HV4.out _ Tryz.underlying44 rfl Tryz.viewSize ?_)
    refine (HBk.out _ HF4.out).mono ?_; rintro e w5 ⟨rfl, hb5⟩
    have HB5 := Lib.hid (HB4.out.ext hb5)
    have E5 := Lib.hid (bt E4.out hb5)
    clear hb5 HV4 HX4 HB4 E4 c10 HF4
    generalize vBk l T I = b at *
    go_wp2_with (refine wpList_store_arr rfl _ _ _ rfl _ _ rfl rfl _ _ HB5.out (Tryz.blockFits HBL.out) (by rw [bcells_size, bcells_size, HBL.out, HzL.out]) (oneCell_bcells _) ?_)
    apply Stop.go; intro we Hoe Hbe
    go_wp2_with ((with_reducible show bodyPost _ _ _ _ _ _); refine bodyPost_cell rfl _ rfl _ _ Hbe.out _ _ Tryz.underlying82 (Tryz.blockFits HBL.out) rfl ?_)
    apply Stop.go
    rw [H0.out]
    exact ⟨rfl, bonly E5.out Hoe.out (by have := z3.out; omega)⟩

set_option maxHeartbeats 1600000 in
theorem fkeep_any (l : Lay14) (f : Value) (A : Option Addr) (n cap : Nat) (t : List Int) (hn : t.length = n) (hm : n ≤ 134) (w : World) (hr : RC w A (ivals t)) :
    Calls Tryz.prog 199 #[.agg (vval l f), .slice A n cap] w (RetL w (dataF l t)) := by
  have Hn := Lib.hid hn
  have Hr := Lib.hid hr
  clear hn hr
  go_enter Tryz.func199, Tryz.ntmps199
  go_wp2_with (refine wpList_box_row rfl _ _ rfl _ rfl ?_)
  apply Stop.go; intro w1 Hg1 Hb1
  have HR1 := Lib.hid (Hr.out.below Hg1.out.1)
  have E1 := Lib.hid Hg1.out.1
  clear Hg1 Hr
  go_wp2_with fail
  go_loopw [5, 10] (fun u z wr => ∃ k : Nat, k ≤ n ∧ z = .int .i64 k ∧ Hid (Below w1.heap.size w1 wr) ∧ Hid (OwnC wr w1.heap.size 3 u (ivals (dataF l (t.take k))))) (fun _ z _ => n - (intOf z).toNat)
  case atStart => exact ⟨0, Nat.zero_le _, rfl, Lib.hid (Below.refl _ _), Lib.hid (OwnC.nil_ _ _ _)⟩
  case round =>
    obtain ⟨k, hk, rfl, E, HO⟩ := hrel
    by_cases hlt : k < n
    · have hkl : k < t.length := by rw [Hn.out]; exact hlt
      have d1 : decide ((k : Int) < (n : Int)) = true := by simp; omega
      have p0 : (0 : Int) ≤ (k : Int) := by omega
      have p1 : (k : Int) < (n : Int) := by omega
      have HV := Lib.hid (Hb1.out.ext E.out)
      have HRn := Lib.hid (HR1.out.below E.out)
      obtain ⟨ad, rfl, hcad⟩ := HRn.out.int k hkl
      have hfk : t[k] = fld t k := by
        have := fld_get t k hkl
        rw [List.getElem?_eq_getElem hkl] at this
        exact Option.some.inj this
      rw [hfk] at hcad
      have HNx := Lib.hid (dataF_next (l := l) hkl)
      have HLn := Lib.hid (show (dataF l (t.take k)).length ≤ k from Nat.le_trans (dataF_len _ _) (by rw [List.length_take]; omega))
      generalize fld t k = x at *
      clear hfk hkl
      go_wp2_with (refine wpList_load_cells rfl _ _ rfl ⟨w.heap.size, 0, none⟩ rfl _ Tryz.underlying41 (Lay14.val l).toList Tryz.laySize (vval_cells HV.out) ?_)
      refine (isdata_any l x _).mono ?_; rintro e wa ⟨rfl, hba⟩
      have HOa := Lib.hid (HO.out.ext hba)
      have Ea := Lib.hid (bt E.out hba)
      have Za := Lib.hid Ea.out.size
      clear hba HV HO E HRn hcad
      cases hdx : l.isD x
      · have HN := Lib.hid (show dataF l (t.take (k + 1)) = dataF l (t.take k) by rw [HNx.out, hdx]; rfl)
        clear hdx HNx
        go_wp2_with fail
        go_roundw
        case rel => exact ⟨k + 1, by omega, by go_num, Ea, Lib.hid (by rw [HN.out]; exact HOa.out)⟩
        case measure => simp [intOf]; omega
      · have HN := Lib.hid (show dataF l (t.take (k + 1)) = dataF l (t.take k) ++ [x] by rw [HNx.out, hdx]; rfl)
        have hl1 : (ivals (dataF l (t.take k))).length + 1 ≤ maxLen := by rw [ivals_len]; unfold maxLen; have := HLn.out; omega
        have hl2 : ((ivals (dataF l (t.take k))).length + 1) * 8 ≤ 140737488355328 := by rw [ivals_len]; have := HLn.out; omega
        clear hdx HNx
        go_wp2_with (at_builtin; refine wpList_append_one rfl _ _ _ _ rfl Tryz.underlying76 (.int .i64 0) 8 Tryz.intInfo rfl w1.heap.size _ _ rfl HOa.out (.int .i64 x) rfl rfl Za.out hl1 hl2 ?_)
        apply Stop.go
        intro v' wb Hv' Ha'
        have HO3 := Lib.hid (show OwnC wb w1.heap.size 3 v' (ivals (dataF l (t.take (k + 1)))) by rw [HN.out, ← ivals_snoc]; exact Hv'.out)
        have E3 := Lib.hid (Ea.out.trans Ha'.out.below)
        clear Hv' Ha' HOa Ea hl1 hl2 HLn Za
        go_wp2_with fail
        go_roundw
        case rel => exact ⟨k + 1, by omega, by go_num, E3, HO3⟩
        case measure => simp [intOf]; omega
    · obtain rfl : k = n := by omega
      have d1 : decide ((k : Int) < (k : Int)) = false := by simp
      rw [List.take_of_length_le (by rw [Hn.out]; omega)] at HO
      go_wp2_with fail
      go_ret
      exact ⟨_, rfl, HO.out.low E1.out.size, bt E1.out E.out⟩

set_option maxHeartbeats 3200000 in
theorem fat_any (l : Lay14) (f : Value) (T : Int → List UInt8) (hT : ∀ no, (T no).length = 256) (X : List Int) (hX : X.length = 11) (k : Int) (hk : -9223372036854775808 ≤ k ∧ k < 9223372036854775808) (w : World) (hf : FV w l f T) :
    Calls Tryz.prog 156 #[.agg (vval l f), .agg (icells X), .int .i64 k] w fun e w' => e = .returned (.int .i64 (atI l T X k)) ∧ Below w.heap.size w w' := by
  have HXL := Lib.hid hX
  have HF := Lib.hid hf
  obtain ⟨K, HK⟩ : ∃ K, Hid (fld X 0 = K) := ⟨_, Lib.hid rfl⟩
  obtain ⟨R, HR⟩ : ∃ R, Hid (atI l T X k = R) := ⟨_, Lib.hid rfl⟩
  have H1 := Lib.hid (fun h : K ≠ 1 => show R = 0 by rw [← HR.out]; exact atI_kind (by rw [HK.out]; exact h) k)
  have H2 := Lib.hid (fun h : k < 0 => show R = 0 by rw [← HR.out]; exact atI_off (by omega))
  have H3 := Lib.hid (fun (hK : K = 1) (q : Nat) (e : k = (q : Int)) (hq : q < 6) => show R = datF l (fld X (4 + q)) by
    rw [← HR.out, e]
    exact atI_low (by rw [HK.out]; exact hK) hq)
  have H4 := Lib.hid (fun (hK : K = 1) (h6 : 6 ≤ k) => show R = datF l (getQ (ptrF l T X) (k - 6)) by
    rw [← HR.out]
    exact atI_ptr (by rw [HK.out]; exact hK) h6)
  have HPt := Lib.hid (fun w h => fptr_any l f T hT X hX w h)
  have HPL := Lib.hid (ptrF_len (l := l) (X := X) hT)
  have HDt := Lib.hid (fun no (w : World) => fdata_any l f no w)
  rw [HR.out]
  clear hX hT hf HR
  go_enter Tryz.func156, Tryz.ntmps156
  go_wp2_with (refine wpList_box_row rfl _ _ rfl _ rfl ?_)
  apply Stop.go; intro w1 Hg1 Hb1
  go_wp2_with (refine wpList_box_row rfl _ _ rfl _ rfl ?_)
  apply Stop.go; intro w2 Hg2 Hb2
  have HV2 := Lib.hid (Hb1.out.ext Hg2.out.1)
  have E2 := Lib.hid (bt Hg1.out.1 Hg2.out.1)
  have HF2 := Lib.hid (HF.out.below E2.out)
  generalize w1.heap.size = g1 at *
  clear Hg1 Hb1 Hg2 HF
  have c0 : w2.cell? ⟨g1, 0, none⟩ = some (.int .i64 K) := by rw [← HK.out]; exact Hb2.out.fld 0 (by rw [HXL.out]; omega)
  by_cases hK : K = 1
  rotate_left
  · have q1 : (K != 1) = true := by simpa using hK
    obtain rfl := H1.out hK
    clear hK H1 H2 H3 H4 hk
    go_wp2_with fail
    go_ret
    exact ⟨rfl, E2.out⟩
  · have q1 : (K != 1) = false := by simpa using hK
    have H3 := Lib.hid (H3.out hK)
    have H4 := Lib.hid (H4.out hK)
    clear hK H1
    by_cases h0 : k < 0
    · have q2 : decide (k < 0) = true := decide_eq_true h0
      obtain rfl := H2.out h0
      clear h0 H2 H3 H4 hk
      go_wp2_with fail
      go_ret
      exact ⟨rfl, E2.out⟩
    · have q2 : decide (k < 0) = false := decide_eq_false h0
      obtain ⟨q, hq⟩ := Int.eq_ofNat_of_zero_le (show 0 ≤ k by omega)
      by_cases h6 : k < 6
      · have q4 : decide (k < 6) = true := decide_eq_true h6
        have p0 : 0 ≤ k := by omega
        have HRq := Lib.hid (H3.out q hq (by omega))
        subst hq
        have Hcx := Lib.hid (fun w' (h : Blk w' g1 59 (icells X)) => show w'.cell? ⟨g1, 4 + q, none⟩ = some (.int .i64 (fld X (4 + q))) from h.fld (4 + q) (by rw [HXL.out]; omega))
        generalize fld X (4 + q) = x at *
        clear h0 H2 H3 H4 hk
        go_wp2_with fail
        refine WH.start (S := fun w' : World => Blk w' w.heap.size 44 (vval l f) ∧ FV w' l f T ∧ Blk w' g1 59 (icells X)) [false, false, false, false, false, false, false] 7 rfl rfl (by kernel_rfl) ⟨HV2.out.ext (bdrew w2 1), HF2.out.below (bdrew w2 1), Hb2.out.ext (bdrew w2 1)⟩ (fun hSn => ?_); obtain ⟨wS, hwS⟩ : ∃ x, (w2).drew = x := ⟨_, rfl⟩; have HE := Lib.hid (show Below (w2).heap.size (w2) wS from hwS ▸ bdrew w2 1); rw [hwS] at hSn ⊢; clear hwS
        refine WH.tv 0 rfl (fun w' hSw => exec_load_blk _ _ rfl _ rfl _ _ (hSw.1) _ (Tryz.underlying44) rfl (Tryz.viewSize)) ?_; simp only [setL]
        refine WH.tk 1 ?_; simp only [setL]
        refine WH.tk 2 ?_; simp only [setL]
        refine WH.tk 3 ?_; simp only [setL]
        refine WH.tv 4 rfl (fun w' hSw => exec_load_cell _ _ rfl ⟨g1, 4 + q, none⟩ rfl (.int .i64 x) (Hcx.out _ hSw.2.2) _ Tryz.underlying3 rfl) ?_; simp only [setL]
        refine WH.only 5 _ rfl (by kernel_rfl) rfl (fun K hK => ?_)
        go_simp; refine (HDt.out x _).mono ?_; rintro e wa ⟨rfl, hba⟩; go_simp
        have HE := Lib.hid (bt HE.out hba)
        have hSn := And.intro (hSn.1.ext hba) (And.intro (hSn.2.1.below hba) (hSn.2.2.ext hba)); refine hK _ _ hSn ?_; clear hK; clear K; simp only [setL]
        refine WH.tk 6 ?_; simp only [setL]
        refine WH.done (by kernel_rfl) ?_
        go_wp2_with fail
        go_ret
        rw [HRq.out]
        exact ⟨rfl, bt E2.out HE.out⟩
      · have q4 : decide (k < 6) = false := decide_eq_false h6
        have HRq := Lib.hid (H4.out (by omega))
        have hqw : IntKind.i64.wrap (k - 6) = k - 6 := IntWalk.i64_in _ (by omega)
        have HG := Lib.hid (fun w => qget_any (ptrF l T X) HPL.out (k - 6) w)
        generalize ptrF l T X = b at *
        generalize getQ b (k - 6) = x at *
        clear h0 h6 H2 H3 H4 hq hk
        go_wp2_with fail
        refine WH.start (S := fun w' : World => Blk w' w.heap.size 44 (vval l f) ∧ FV w' l f T ∧ Blk w' g1 59 (icells X)) [false, false, false, false, false, false, false, false, false] 9 rfl rfl (by kernel_rfl) ⟨HV2.out.ext (bdrew w2 1), HF2.out.below (bdrew w2 1), Hb2.out.ext (bdrew w2 1)⟩ (fun hSn => ?_); obtain ⟨wS, hwS⟩ : ∃ x, (w2).drew = x := ⟨_, rfl⟩; have HE := Lib.hid (show Below (w2).heap.size (w2) wS from hwS ▸ bdrew w2 1); rw [hwS] at hSn ⊢; clear hwS
        refine WH.tv 0 rfl (fun w' hSw => exec_load_blk _ _ rfl _ rfl _ _ (hSw.1) _ (Tryz.underlying44) rfl (Tryz.viewSize)) ?_; simp only [setL]
        refine WH.tv 1 rfl (fun w' hSw => exec_load_blk _ _ rfl _ rfl _ _ (hSw.1) _ (Tryz.underlying44) rfl (Tryz.viewSize)) ?_; simp only [setL]
        refine WH.tv 2 rfl (fun w' hSw => exec_load_blk _ _ rfl _ rfl _ _ (hSw.2.2) _ (Tryz.underlying59) rfl ((Tryz.inoFits HXL.out))) ?_; simp only [setL]
        refine WH.tk 4 ?_; simp only [setL]
        refine WH.tk 5 ?_; simp only [setL]
        refine WH.only 3 _ rfl (by kernel_rfl) rfl (fun K hK => ?_)
        go_simp; refine (HPt.out _ hSn.2.1).mono ?_; rintro e wa ⟨rfl, hba⟩; go_simp
        have HE := Lib.hid (bt HE.out hba)
        have hSn := And.intro (hSn.1.ext hba) (And.intro (hSn.2.1.below hba) (hSn.2.2.ext hba)); refine hK _ _ hSn ?_; clear hK; clear K; simp only [setL]
        refine WH.only 6 _ rfl (by kernel_rfl) rfl (fun K hK => ?_)
        go_simp; refine (HG.out _).mono ?_; rintro e wb ⟨rfl, hbb⟩; go_simp
        have HE := Lib.hid (bt HE.out hbb)
        have hSn := And.intro (hSn.1.ext hbb) (And.intro (hSn.2.1.below hbb) (hSn.2.2.ext hbb)); refine hK _ _ hSn ?_; clear hK; clear K; simp only [setL]
        refine WH.only 7 _ rfl (by kernel_rfl) rfl (fun K hK => ?_)
        go_simp; refine (HDt.out x _).mono ?_; rintro e wc ⟨rfl, hbc⟩; go_simp
        have HE := Lib.hid (bt HE.out hbc)
        have hSn := And.intro (hSn.1.ext hbc) (And.intro (hSn.2.1.below hbc) (hSn.2.2.ext hbc)); refine hK _ _ hSn ?_; clear hK; clear K; simp only [setL]
        refine WH.tk 8 ?_; simp only [setL]
        refine WH.done (by kernel_rfl) ?_
        go_wp2_with fail
        go_ret
        rw [HRq.out]
        exact ⟨rfl, bt E2.out HE.out⟩

end Go.Proofs.YtkakihbfhmiabaaGreat

/-
  Contract of package fmap: blocks, all 134 of a file by value.
-/
namespace Go.Proofs.YtkakihbfhmiabaaGreat
open Go.RowKit
set_option maxRecDepth 10000

/-- 134 noughts. -/
def zeroF : List Int := List.replicate 134 0
theorem zeroF_len : zeroF.length = 134 := List.length_replicate
theorem sameF {t u : List Int} (h : t.length = 134) (h' : u.length = 134) : (icells t).size = (icells u).size := by rw [icells_size, icells_size, h, h']


end Go.Proofs.YtkakihbfhmiabaaGreat

/-
  Contracts of package fmap: Blocks, Beyond.
-/
namespace Go.Proofs.YtkakihbfhmiabaaGreat
open Go.RowKit
set_option maxRecDepth 10000



end Go.Proofs.YtkakihbfhmiabaaGreat
