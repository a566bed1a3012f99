/-
  Contracts of package fmap: Index, buckets, Buckets, ownsAsFile, ownsAsDir, Owns; the contracts as one.
-/
import Derived.Test.YtcdbligdcikphaaGreatGrL
import Derived.Test.YtcdbligdcikphaaGreatGrF
import Derived.Test.YtcdbligdcikphaaGreatGrN
import Derived.Test.YtcdbligdcikphaaGreatPts2
import Derived.Test.YtcdbligdcikphaaGreatBldI
namespace Go.Proofs.YtcdbligdcikphaaGreat
open Go.RowKit
set_option maxRecDepth 10000

theorem ivals_apf (s t : List Int) : ivals s ++ ivals t = ivals (s ++ t) := by unfold ivals; rw [List.map_append]
theorem buk_any (l : Lay14) (T : Int → List UInt8) (X : List Int) : dataF l (buckK (ixT l T X) (2 ^ dpN (ixD l T X))) = bukF l T X := by
  have hz : dataF l (buckK zeroT (2 ^ dpN 0)) = [] := by
    have e : buckK zeroT (2 ^ dpN 0) = [] := by decide
    rw [e]
    rfl
  unfold bukF
  cases hi : isF l T X
  · have e : ixD l T X = 0 ∧ ixT l T X = zeroT := by
      by_cases h : fld X 0 = 2 ∧ l.isD (fld X 4) = true
      · have := ix_on (T := T) h.1 h.2
        rw [this.1] at hi
        rw [this.2.1, this.2.2]
        unfold getD_ getT_
        rw [hi]
        exact ⟨rfl, rfl⟩
      · have := ix_off (l := l) (T := T) (X := X) (by
          by_cases h2 : fld X 0 = 2
          · right
            cases hd : l.isD (fld X 4)
            · rfl
            · exact absurd ⟨h2, hd⟩ h
          · exact Or.inl h2)
        exact this.2
    rw [e.1, e.2, hz]
    rfl
  · rfl
theorem dirF_in (X : List Int) : (dirF X).length ≤ 6 := by unfold dirF; rw [List.length_take]; omega

set_option maxHeartbeats 3200000 in
theorem findex_any (l : Lay14) (f : Value) (T : Int → List UInt8) (hT : ∀ no, (T no).length = 256) (X : List Int) (hX : X.length = 11) (w : World) (hf : FV w l f T) :
    Calls Tryz.prog 9 #[.agg (vval l f), .agg (icells X)] w fun e w' => e = .returned (.tuple #[.agg (icells (ixD l T X :: ixT l T X)), .bool (isF l T X)]) ∧ Below w.heap.size w w' := by
  have HF := Lib.hid hf
  have HXL := Lib.hid hX
  obtain ⟨K, HK⟩ : ∃ K, Hid (fld X 0 = K) := ⟨_, Lib.hid rfl⟩
  obtain ⟨I, HI⟩ : ∃ I, Hid (fld X 4 = I) := ⟨_, Lib.hid rfl⟩
  have HBk := Lib.hid (fun w h => vblock_any l f T hT I w h)
  have HBL := Lib.hid (vBk_len (l := l) hT I)
  obtain ⟨RD, HRD⟩ : ∃ RD, Hid (ixD l T X = RD) := ⟨_, Lib.hid rfl⟩
  obtain ⟨RT, HRT⟩ : ∃ RT, Hid (ixT l T X = RT) := ⟨_, Lib.hid rfl⟩
  obtain ⟨rb, HRB⟩ : ∃ rb, Hid (isF l T X = rb) := ⟨_, Lib.hid rfl⟩
  have HOff := Lib.hid (fun h : K ≠ 2 ∨ l.isD I = false => show rb = false ∧ RD = 0 ∧ RT = zeroT by
    rw [← HRD.out, ← HRT.out, ← HRB.out]
    exact ix_off (by rw [HK.out, HI.out]; exact h))
  have HOn := Lib.hid (fun (h : K = 2) (hd : l.isD I = true) => show getB (vBk l T I) = rb ∧ getD_ (vBk l T I) = RD ∧ getT_ (vBk l T I) = RT by
    have e := ix_on (l := l) (T := T) (X := X) (by rw [HK.out]; exact h) (by rw [HI.out]; exact hd)
    rw [HI.out, HRD.out, HRT.out, HRB.out] at e
    exact ⟨e.1.symm, e.2.1.symm, e.2.2.symm⟩)
  have HzL := Lib.hid zeroT_len
  have HTL := Lib.hid (show RT.length = 32 by rw [← HRT.out]; exact ixT_len)
  rw [HRD.out, HRT.out, HRB.out]
  clear hT hf hX HRD HRT HRB
  go_enter Tryz.func9, Tryz.ntmps9
  go_wp2_with (refine wpList_box_row rfl _ _ rfl _ rfl ?_)
  apply Stop.go; intro w1 Hg1 Hb1
  go_wp2_with (refine wpList_box_row rfl _ _ rfl _ rfl ?_)
  apply Stop.go; intro w2 Hg2 Hb2
  have HL2 := Lib.hid (Hb1.out.ext Hg2.out.1)
  have E2 := Lib.hid (bt Hg1.out.1 Hg2.out.1)
  have z2 := Lib.hid (show w.heap.size < w1.heap.size ∧ w1.heap.size < w2.heap.size by have := Hg1.out.2; have := Hg2.out.2; omega)
  generalize w1.heap.size = g5 at *
  clear Hg1 Hb1 Hg2
  go_wp2_with (refine wpList_alloc_row rfl _ rfl _ Tryz.ixZero ?_)
  apply Stop.go; intro w3 Hg3 Hb3
  have HV3 := Lib.hid (HL2.out.ext Hg3.out.1)
  have HX3 := Lib.hid (Hb2.out.ext Hg3.out.1)
  have E3 := Lib.hid (bt E2.out Hg3.out.1)
  have z3 := Lib.hid (show w.heap.size < w2.heap.size ∧ g5 < w2.heap.size by have := z2.out; omega)
  have zb := Lib.hid Hb3.out.lt
  generalize w2.heap.size = gl at *
  clear Hg3 Hb2 HL2 E2 z2
  have c0 : w3.cell? ⟨g5, 0, none⟩ = some (.int .i64 K) := by rw [← HK.out]; exact HX3.out.fld 0 (by rw [HXL.out]; omega)
  by_cases hK : K = 2
  rotate_left
  · have d0 : (K != 2) = true := by simpa using hK
    obtain ⟨rfl, rfl, rfl⟩ := HOff.out (.inl hK)
    clear hK HOff HOn
    go_upto_region 2 with fail
    go_wp2_with (first | refine wpList_build_nil rfl _ rfl _ Tryz.ixBuilt0 ?_ | refine wpList_store_arr rfl _ _ _ rfl _ _ rfl rfl _ _ Hb3.out (Tryz.ixFits HzL.out) (icells_same HzL.out HzL.out) (oneCell_icells _) ?_)
    apply Stop.go; intro we Hoe Hbe
    go_wp2_with ((with_reducible show bodyPost _ _ _ _ _ _); refine bodyPost_struct_tmp rfl _ rfl _ _ Hbe.out _ Tryz.underlying43 rfl (Tryz.ixFits HzL.out) rfl _ rfl ?_)
    apply Stop.go
    exact bonly E3.out Hoe.out (by have := z3.out; omega)
  · have HOn1 := Lib.hid (HOn.out hK)
    have HOf1 := Lib.hid (fun h => HOff.out (.inr h))
    subst hK
    have d0 : ((2 : Int) != 2) = false := rfl
    clear HOff HOn
    have c4 : w3.cell? ⟨g5, 4, none⟩ = some (.int .i64 I) := by rw [← HI.out]; exact HX3.out.fld 4 (by rw [HXL.out]; omega)
    go_wp2_with (refine wpList_load_cells rfl _ _ rfl ⟨w.heap.size, 0, none⟩ rfl _ Tryz.underlying26 (Lay14.val l).toList Tryz.laySize (vval_cells HV3.out) ?_)
    refine (isdata_any l I _).mono ?_; rintro e w4 ⟨rfl, hb4⟩
    have HV4 := Lib.hid (HV3.out.ext hb4)
    have HX4 := Lib.hid (HX3.out.ext hb4)
    have HR4 := Lib.hid (Hb3.out.ext hb4)
    have E4 := Lib.hid (bt E3.out hb4)
    clear hb4 HV3 HX3 Hb3 E3 c0 c4
    cases hd : l.isD I
    · obtain ⟨rfl, rfl, rfl⟩ := HOf1.out hd
      clear hd HOf1 HOn1
      go_upto_region 2 with fail
      go_wp2_with (first | refine wpList_build_nil rfl _ rfl _ Tryz.ixBuilt0 ?_ | refine wpList_store_arr rfl _ _ _ rfl _ _ rfl rfl _ _ HR4.out (Tryz.ixFits HzL.out) (icells_same HzL.out HzL.out) (oneCell_icells _) ?_)
      apply Stop.go; intro we Hoe Hbe
      go_wp2_with ((with_reducible show bodyPost _ _ _ _ _ _); refine bodyPost_struct_tmp rfl _ rfl _ _ Hbe.out _ Tryz.underlying43 rfl (Tryz.ixFits HzL.out) rfl _ rfl ?_)
      apply Stop.go
      exact bonly E4.out Hoe.out (by have := z3.out; omega)
    · have HN := Lib.hid (HOn1.out hd)
      have c4 : w4.cell? ⟨g5, 4, none⟩ = some (.int .i64 I) := by rw [← HI.out]; exact HX4.out.fld 4 (by rw [HXL.out]; omega)
      clear hd HOf1 HOn1
      go_wp2_with (refine wpList_load_blk rfl _ _ rfl _ rfl _ _ HV4.out _ Tryz.underlying29 rfl Tryz.viewSize ?_)
      refine (HBk.out _ (HF.out.below E4.out)).mono ?_; rintro e w5 ⟨rfl, hb5⟩
      have HR5 := Lib.hid (HR4.out.ext hb5)
      have E5 := Lib.hid (bt E4.out hb5)
      clear hb5 HX4 HR4 E4 c4 HV4
      generalize vBk l T I = b at *
      go_wp2_with fail
      refine (xget_any b HBL.out _).mono ?_; rintro e w6 ⟨rfl, hb6⟩
      rw [HN.out.1, HN.out.2.1, HN.out.2.2]
      have HR6 := Lib.hid (HR5.out.ext hb6)
      have E6 := Lib.hid (bt E5.out hb6)
      clear hb6 HR5 E5
      go_wp2_with (refine wpList_alloc_row rfl _ rfl _ Tryz.ixZero ?_)
      apply Stop.go; intro w7 Hg7 Hb7
      go_wp2_with (refine wpList_store_arr rfl _ _ _ rfl _ _ rfl rfl _ _ Hb7.out (Tryz.ixFits HTL.out) (icells_same HzL.out HTL.out) (oneCell_icells _) ?_)
      apply Stop.go; intro w8 Ho8 Hb8
      have D := Lib.hid (bonly Hg7.out.1 Ho8.out (Nat.le_refl _))
      have HR8 := Lib.hid (HR6.out.ext D.out)
      have E8 := Lib.hid (bt E6.out D.out)
      generalize w6.heap.size = g6 at *
      clear Hg7 Hb7 Ho8 D HR6 E6
      cases rb
      · have eF : formE false = 14 := rfl
        rw [eF]
        go_wp2_with (first | refine wpList_load_blk rfl _ _ rfl _ rfl _ _ Hb8.out _ Tryz.underlying43 rfl (Tryz.ixFits HTL.out) ?_ | refine wpList_store_arr rfl _ _ _ rfl _ _ rfl rfl _ _ HR8.out (Tryz.ixFits HTL.out) (icells_same HzL.out HTL.out) (oneCell_icells _) ?_)
        apply Stop.go; intro we Hoe Hbe
        go_wp2_with ((with_reducible show bodyPost _ _ _ _ _ _); refine bodyPost_struct_tmp rfl _ rfl _ _ Hbe.out _ Tryz.underlying43 rfl (Tryz.ixFits HTL.out) rfl _ rfl ?_)
        apply Stop.go
        exact bonly E8.out Hoe.out (by have := z3.out; omega)
      · have eF : formE true = 0 := rfl
        rw [eF]
        go_wp2_with (first | refine wpList_load_blk rfl _ _ rfl _ rfl _ _ Hb8.out _ Tryz.underlying43 rfl (Tryz.ixFits HTL.out) ?_ | refine wpList_store_arr rfl _ _ _ rfl _ _ rfl rfl _ _ HR8.out (Tryz.ixFits HTL.out) (icells_same HzL.out HTL.out) (oneCell_icells _) ?_)
        apply Stop.go; intro we Hoe Hbe
        go_wp2_with ((with_reducible show bodyPost _ _ _ _ _ _); refine bodyPost_struct_tmp rfl _ rfl _ _ Hbe.out _ Tryz.underlying43 rfl (Tryz.ixFits HTL.out) rfl _ rfl ?_)
        apply Stop.go
        exact bonly E8.out Hoe.out (by have := z3.out; omega)

set_option maxHeartbeats 1600000 in
theorem fbuck_any (l : Lay14) (f : Value) (d : Int) (t : List Int) (ht : t.length = 32) (w : World) :
    Calls Tryz.prog 33 #[.agg (vval l f), .agg (icells (d :: t))] w (RetL w (dataF l (buckK t (2 ^ dpN d)))) := by
  have HTL := Lib.hid ht
  have HBu := Lib.hid (fun w => xbuckets_any d t ht w)
  have HKl := Lib.hid (show (buckK t (2 ^ dpN d)).length ≤ 134 by have := buckK_len t (2 ^ dpN d); have := pow32 (dpN_le d); omega)
  have HKp := Lib.hid (fun A m c bs (hm : bs.length = m) (h : m ≤ 134) w hr => fkeep_any l f A m c bs hm h w hr)
  obtain ⟨bs, HBs⟩ : ∃ bs, Hid (buckK t (2 ^ dpN d) = bs) := ⟨_, Lib.hid rfl⟩
  rw [HBs.out] at HBu HKl ⊢
  clear ht HBs
  go_enter Tryz.func33, Tryz.ntmps33
  go_wp2_with (refine wpList_box_row rfl _ _ rfl _ rfl ?_)
  apply Stop.go; intro w1 Hg1 Hb1
  go_wp2_with (refine wpList_box_row rfl _ _ rfl _ rfl ?_)
  apply Stop.go; intro w2 Hg2 Hb2
  have HV2 := Lib.hid (Hb1.out.ext Hg2.out.1)
  have E2 := Lib.hid (bt Hg1.out.1 Hg2.out.1)
  generalize w1.heap.size = g1 at *
  clear Hg1 Hb1 Hg2
  go_wp2_with fail
  refine WH.start (S := fun w' : World => Blk w' w.heap.size 29 (vval l f) ∧ Blk w' g1 43 (icells (d :: t))) [false, false, false, false, false] 5 rfl rfl (by kernel_rfl) ⟨HV2.out.ext (bdrew w2 1), Hb2.out.ext (bdrew w2 1)⟩ (fun hSn => ?_); obtain ⟨wS, hwS⟩ : ∃ x, (w2).drew = x := ⟨_, rfl⟩; have HE := Lib.hid (show Below (w2).heap.size (w2) wS from hwS ▸ bdrew w2 1); rw [hwS] at hSn ⊢; clear hwS
  refine WH.tv 0 rfl (fun w' hSw => exec_load_blk _ _ rfl _ rfl _ _ (hSw.1) _ (Tryz.underlying29) rfl (Tryz.viewSize)) ?_; simp only [setL]
  refine WH.tv 1 rfl (fun w' hSw => exec_load_blk _ _ rfl _ rfl _ _ (hSw.2) _ (Tryz.underlying43) rfl ((Tryz.ixFits HTL.out))) ?_; simp only [setL]
  refine WH.only 2 _ rfl (by kernel_rfl) rfl (fun K hK => ?_)
  go_simp; refine (HBu.out _).mono ?_; rintro e wa ⟨va, rfl, hva, hba⟩; go_simp
  obtain ⟨Ab, cb, rfl, hcb, hmb, hrb⟩ := hva.ints
  have HRb := Lib.hid hrb
  obtain ⟨m, Hm⟩ : ∃ m, Hid (bs.length = m) := ⟨_, Lib.hid rfl⟩
  rw [Hm.out] at HKl ⊢
  have HE := Lib.hid (bt HE.out hba)
  clear hva hcb hmb hrb
  have hSn := And.intro (hSn.1.ext hba) (hSn.2.ext hba); refine hK _ _ hSn ?_; clear hK; clear K; simp only [setL]
  refine WH.only 3 _ rfl (by kernel_rfl) rfl (fun K hK => ?_)
  go_simp; refine (HKp.out Ab m cb bs Hm.out HKl.out _ HRb.out).mono ?_; rintro e wb ⟨vb, rfl, hvb, hbb⟩; go_simp
  have HO := Lib.hid (hvb.low HE.out.size)
  have HE := Lib.hid (bt HE.out hbb)
  clear hvb
  have hSn := And.intro (hSn.1.ext hbb) (hSn.2.ext hbb); refine hK _ _ hSn ?_; clear hK; clear K; simp only [setL]
  refine WH.tk 4 ?_; simp only [setL]
  refine WH.done (by kernel_rfl) ?_
  go_wp2_with fail
  go_ret
  exact ⟨_, rfl, HO.out.low E2.out.size, bt E2.out HE.out⟩

set_option maxHeartbeats 3200000 in
theorem fbuckets_any (l : Lay14) (f : Value) (T : Int → List UInt8) (hT : ∀ no, (T no).length = 256) (X : List Int) (hX : X.length = 11) (w : World) (hf : FV w l f T) :
    Calls Tryz.prog 12 #[.agg (vval l f), .agg (icells X)] w (RetL w (bukF l T X)) := by
  have HF := Lib.hid hf
  have HXL := Lib.hid hX
  have HIx := Lib.hid (fun w h => findex_any l f T hT X hX w h)
  have HBu := Lib.hid (fun w => fbuck_any l f (ixD l T X) (ixT l T X) ixT_len w)
  obtain ⟨RD, HRD⟩ : ∃ RD, Hid (ixD l T X = RD) := ⟨_, Lib.hid rfl⟩
  obtain ⟨RT, HRT⟩ : ∃ RT, Hid (ixT l T X = RT) := ⟨_, Lib.hid rfl⟩
  obtain ⟨rb, HRB⟩ : ∃ rb, Hid (isF l T X = rb) := ⟨_, Lib.hid rfl⟩
  have HzL := Lib.hid zeroT_len
  have HTL := Lib.hid (show RT.length = 32 by rw [← HRT.out]; exact ixT_len)
  rw [buk_any l T X] at HBu
  rw [HRD.out, HRT.out] at HIx HBu
  rw [HRB.out] at HIx
  generalize bukF l T X = tl at *
  clear hT hX hf HRD HRT HRB
  go_enter Tryz.func12, Tryz.ntmps12
  go_wp2_with (refine wpList_box_row rfl _ _ rfl _ rfl ?_)
  apply Stop.go; intro w1 Hg1 Hb1
  go_wp2_with (refine wpList_box_row rfl _ _ rfl _ rfl ?_)
  apply Stop.go; intro w2 Hg2 Hb2
  have HV2 := Lib.hid (Hb1.out.ext Hg2.out.1)
  have E2 := Lib.hid (bt Hg1.out.1 Hg2.out.1)
  generalize w1.heap.size = g5 at *
  clear Hg1 Hb1 Hg2
  go_wp2_with (first | refine wpList_load_blk rfl _ _ rfl _ rfl _ _ HV2.out _ Tryz.underlying29 rfl Tryz.viewSize ?_ | refine wpList_load_blk rfl _ _ rfl _ rfl _ _ Hb2.out _ Tryz.underlying39 rfl (Tryz.inoFits HXL.out) ?_)
  refine (HIx.out _ (HF.out.below E2.out)).mono ?_; rintro e w3 ⟨rfl, hb3⟩
  have HV3 := Lib.hid (HV2.out.ext hb3)
  have E3 := Lib.hid (bt E2.out hb3)
  clear hb3 HV2 E2 Hb2 HF
  go_wp2_with (refine wpList_alloc_row rfl _ rfl _ Tryz.ixZero ?_)
  apply Stop.go; intro w4 Hg4 Hb4
  go_wp2_with (refine wpList_store_arr rfl _ _ _ rfl _ _ rfl rfl _ _ Hb4.out (Tryz.ixFits HTL.out) (icells_same HzL.out HTL.out) (oneCell_icells _) ?_)
  apply Stop.go; intro w5 Ho5 Hb5
  have D := Lib.hid (bonly Hg4.out.1 Ho5.out (Nat.le_refl _))
  have HV5 := Lib.hid (HV3.out.ext D.out)
  have E5 := Lib.hid (bt E3.out D.out)
  generalize w3.heap.size = gx at *
  clear Hg4 Hb4 Ho5 D HV3 E3
  go_wp2_with (first | refine wpList_load_blk rfl _ _ rfl _ rfl _ _ HV5.out _ Tryz.underlying29 rfl Tryz.viewSize ?_ | refine wpList_load_blk rfl _ _ rfl _ rfl _ _ Hb5.out _ Tryz.underlying43 rfl (Tryz.ixFits HTL.out) ?_)
  refine (HBu.out _).mono ?_; rintro e w6 ⟨v6, rfl, hv6, hb6⟩
  go_wp2_with fail
  go_ret
  exact ⟨_, rfl, hv6.low E5.out.size, bt E5.out hb6⟩

set_option maxHeartbeats 3200000 in
theorem fownf_any (l : Lay14) (f : Value) (T : Int → List UInt8) (hT : ∀ no, (T no).length = 256) (X : List Int) (hX : X.length = 11) (hK : fld X 0 = 1) (w : World) (hf : FV w l f T) :
    Calls Tryz.prog 35 #[.agg (vval l f), .agg (icells X)] w (RetL w (ownF l T X)) := by
  have HF := Lib.hid hf
  have HXL := Lib.hid hX
  obtain ⟨I, HI⟩ : ∃ I, Hid (fld X 10 = I) := ⟨_, Lib.hid rfl⟩
  have HBk := Lib.hid (fun w h => vblock_any l f T hT I w h)
  have HBL := Lib.hid (vBk_len (l := l) hT I)
  obtain ⟨b, HB⟩ : ∃ b, Hid (vBk l T I = b) := ⟨_, Lib.hid rfl⟩
  obtain ⟨tl, HTl⟩ : ∃ tl, Hid (ownF l T X = tl) := ⟨_, Lib.hid rfl⟩
  obtain ⟨d6, HD6⟩ : ∃ d6, Hid (dataF l (dirF X) = d6) := ⟨_, Lib.hid rfl⟩
  have HN := Lib.hid (fun h : l.isD I = false => show d6 = tl by
    rw [← HTl.out, own_file hK hX, HI.out, h, HD6.out]
    rfl)
  have HY := Lib.hid (fun h : l.isD I = true => show (d6 ++ [I]) ++ dataF l (lisQ b 128) = tl by
    rw [← HTl.out, own_file hK hX, HI.out, h, HD6.out, HB.out]
    rfl)
  have HDL := Lib.hid (dirF_len hX)
  have HK6 := Lib.hid (fun g w (h : Blk w g 39 (icells X)) => show Calls Tryz.prog 71 #[.agg (vval l f), .slice (some ⟨g, 4, none⟩) 6 6] w (RetL w d6) by
    have := fkeep_any l f (some ⟨g, 4, none⟩) 6 6 (dirF X) HDL.out (by omega) w (RC.of_blk_at h 4 6)
    rw [HD6.out] at this
    exact this)
  have H6L := Lib.hid (show d6.length ≤ 6 by rw [← HD6.out]; exact Nat.le_trans (dataF_len _ _) (by rw [HDL.out]; omega))
  have HKp := Lib.hid (fun A m c bs (hm : bs.length = m) (h : m ≤ 134) w hr => fkeep_any l f A m c bs hm h w hr)
  rw [HB.out] at HBk HBL
  have HLi := Lib.hid (fun w => qlist_any b HBL.out w)
  have HLl := Lib.hid (show (lisQ b 128).length ≤ 134 by have := lisQ_len b 128; omega)
  obtain ⟨ls, HLs⟩ : ∃ ls, Hid (lisQ b 128 = ls) := ⟨_, Lib.hid rfl⟩
  rw [HLs.out] at HLi HLl HY
  obtain ⟨dl, HDl⟩ : ∃ dl, Hid (dataF l ls = dl) := ⟨_, Lib.hid rfl⟩
  have HDLl := Lib.hid (show dl.length ≤ 134 by rw [← HDl.out]; exact Nat.le_trans (dataF_len _ _) HLl.out)
  rw [HDl.out] at HY
  rw [HTl.out]
  clear hf hX hT hK HB HTl HDL HLs HD6
  go_enter Tryz.func35, Tryz.ntmps35
  go_wp2_with (refine wpList_box_row rfl _ _ rfl _ rfl ?_)
  apply Stop.go; intro w1 Hg1 Hb1
  go_wp2_with (refine wpList_box_row rfl _ _ rfl _ rfl ?_)
  apply Stop.go; intro w2 Hg2 Hb2
  have HV2 := Lib.hid (Hb1.out.ext Hg2.out.1)
  have E2 := Lib.hid (bt Hg1.out.1 Hg2.out.1)
  generalize w1.heap.size = g1 at *
  clear Hg1 Hb1 Hg2
  go_wp2_with fail
  refine WH.start (S := fun w' : World => Blk w' w.heap.size 29 (vval l f) ∧ Blk w' g1 39 (icells X)) [false, false, false, false, false] 5 rfl rfl (by kernel_rfl) ⟨HV2.out.ext (bdrew w2 1), Hb2.out.ext (bdrew w2 1)⟩ (fun hSn => ?_); obtain ⟨wS, hwS⟩ : ∃ x, (w2).drew = x := ⟨_, rfl⟩; have HE := Lib.hid (show Below (w2).heap.size (w2) wS from hwS ▸ bdrew w2 1); rw [hwS] at hSn ⊢; clear hwS
  refine WH.tv 0 rfl (fun w' hSw => exec_load_blk _ _ rfl _ rfl _ _ (hSw.1) _ (Tryz.underlying29) rfl (Tryz.viewSize)) ?_; simp only [setL]
  refine WH.tk 1 ?_; simp only [setL]
  refine WH.tv 2 rfl (fun w' hSw => exec_slice_whole _ _ rfl 6 _ Tryz.underlying37 Tryz.int1Size g1 4 rfl) ?_; simp only [setL]
  refine WH.only 3 _ rfl (by kernel_rfl) rfl (fun K hK => ?_)
  go_simp; refine (HK6.out g1 _ hSn.2).mono ?_; rintro e wa ⟨va, rfl, hva, hba⟩; go_simp
  have HOa := Lib.hid (show OwnC wa wS.heap.size 3 va (ivals d6) from hva)
  have HDa := Lib.hid (show Below wS.heap.size wS wa from hba)
  have HVS := Lib.hid hSn.1
  have HXS := Lib.hid hSn.2
  have ES := Lib.hid (bt E2.out HE.out)
  clear hva E2 HE HV2 Hb2 HK6
  have hSn := And.intro (hSn.1.ext hba) (hSn.2.ext hba); refine hK _ _ hSn ?_; clear hK; clear K; simp only [setL]
  refine WH.tk 4 ?_; simp only [setL]
  refine WH.done (by kernel_rfl) ?_
  have HVa := Lib.hid hSn.1
  have HXa := Lib.hid hSn.2
  clear hSn hba
  have c10 : wa.cell? ⟨g1, 10, none⟩ = some (.int .i64 I) := by rw [← HI.out]; exact HXa.out.fld 10 (by rw [HXL.out]; omega)
  go_wp2_with (refine wpList_load_cells rfl _ _ rfl ⟨w.heap.size, 0, none⟩ rfl _ Tryz.underlying26 (Lay14.val l).toList Tryz.laySize (vval_cells HVa.out) ?_)
  refine (isdata_any l I _).mono ?_; rintro e w3 ⟨rfl, hb3⟩
  have HO3 := Lib.hid (HOa.out.ext hb3)
  have HX3 := Lib.hid (HXa.out.ext hb3)
  have HD3 := Lib.hid (HDa.out.trans (hb3.mono HDa.out.size))
  clear hb3 HOa HXa HDa HVa c10
  cases hd : l.isD I
  · obtain rfl := HN.out hd
    clear hd HN HY
    go_wp2_with fail
    go_ret
    exact ⟨_, rfl, HO3.out.low ES.out.size, bt ES.out HD3.out⟩
  · have HY := Lib.hid (HY.out hd)
    have c10 : w3.cell? ⟨g1, 10, none⟩ = some (.int .i64 I) := by rw [← HI.out]; exact HX3.out.fld 10 (by rw [HXL.out]; omega)
    have hl1 : (ivals d6).length + 1 ≤ maxLen := by rw [ivals_len]; unfold maxLen; have := H6L.out; omega
    have hl2 : ((ivals d6).length + 1) * 8 ≤ 140737488355328 := by rw [ivals_len]; have := H6L.out; omega
    clear hd HN
    go_wp2_with (at_builtin; refine wpList_append_one rfl _ _ _ _ rfl Tryz.underlying50 (.int .i64 0) 8 Tryz.intInfo rfl wS.heap.size _ _ rfl HO3.out (.int .i64 I) rfl rfl HD3.out.size hl1 hl2 ?_)
    apply Stop.go
    intro v4 w4 Hv4 Ha4
    have HO4 := Lib.hid (show OwnC w4 wS.heap.size 3 v4 (ivals (d6 ++ [I])) by rw [← ivals_snoc]; exact Hv4.out)
    have HD4 := Lib.hid (HD3.out.trans Ha4.out.below)
    have HV4 := Lib.hid (HVS.out.ext HD4.out)
    have HX4 := Lib.hid (HXS.out.ext HD4.out)
    have HF4 := Lib.hid (HF.out.below (bt ES.out HD4.out))
    have H7L := Lib.hid (show (d6 ++ [I]).length ≤ 7 by rw [List.length_append]; have := H6L.out; simp; omega)
    generalize d6 ++ [I] = d7 at *
    clear Hv4 Ha4 hl1 hl2 c10 HO3 HX3 HD3 HF H6L
    go_wp2_with fail
    refine WH.start (S := fun w' : World => Below wS.heap.size wS w' ∧ Blk w' w.heap.size 29 (vval l f) ∧ Blk w' g1 39 (icells X)) [false, false, false, false, false, false, false, false, false, false] 10 rfl rfl (by kernel_rfl) ⟨HD4.out.trans ((bdrew w4 1).mono HD4.out.size), HV4.out.ext (bdrew w4 1), HX4.out.ext (bdrew w4 1)⟩ (fun hSn => ?_); obtain ⟨wR, hwS⟩ : ∃ x, (w4).drew = x := ⟨_, rfl⟩; have HE := Lib.hid (show Below (w4).heap.size (w4) wR from hwS ▸ bdrew w4 1); rw [hwS] at hSn ⊢; clear hwS
    refine WH.tk 0 ?_; simp only [setL]
    refine WH.tv 1 rfl (fun w' hSw => exec_load_blk _ _ rfl _ rfl _ _ (hSw.2.1) _ (Tryz.underlying29) rfl (Tryz.viewSize)) ?_; simp only [setL]
    refine WH.tv 2 rfl (fun w' hSw => exec_load_blk _ _ rfl _ rfl _ _ (hSw.2.1) _ (Tryz.underlying29) rfl (Tryz.viewSize)) ?_; simp only [setL]
    refine WH.tk 3 ?_; simp only [setL]
    refine WH.tv 4 rfl (fun w' hSw => exec_load_cell _ _ rfl ⟨g1, 10, none⟩ rfl (.int .i64 I) (by rw [← HI.out]; exact hSw.2.2.fld 10 (by rw [HXL.out]; omega)) _ Tryz.underlying3 rfl) ?_; simp only [setL]
    refine WH.only 5 _ rfl (by kernel_rfl) rfl (fun K hK => ?_)
    go_simp; refine (HBk.out _ (HF4.out.below HE.out)).mono ?_; rintro e wb ⟨rfl, hbb⟩; go_simp
    have HE := Lib.hid (bt HE.out hbb)
    have hSn := And.intro (hSn.1.trans (hbb.mono hSn.1.size)) (And.intro (hSn.2.1.ext hbb) (hSn.2.2.ext hbb)); refine hK _ _ hSn ?_; clear hK; clear K; simp only [setL]
    refine WH.only 6 _ rfl (by kernel_rfl) rfl (fun K hK => ?_)
    go_simp; refine (HLi.out _).mono ?_; rintro e wc ⟨vc, rfl, hvc, hbc⟩; go_simp
    obtain ⟨Ac, cc, rfl, hcc, hmc, hrc⟩ := hvc.ints
    have HRc := Lib.hid hrc
    obtain ⟨m, Hm⟩ : ∃ m, Hid (ls.length = m) := ⟨_, Lib.hid rfl⟩
    rw [Hm.out] at HLl ⊢
    have HE := Lib.hid (bt HE.out hbc)
    clear hvc hcc hmc hrc
    have hSn := And.intro (hSn.1.trans (hbc.mono hSn.1.size)) (And.intro (hSn.2.1.ext hbc) (hSn.2.2.ext hbc)); refine hK _ _ hSn ?_; clear hK; clear K; simp only [setL]
    refine WH.only 7 _ rfl (by kernel_rfl) rfl (fun K hK => ?_)
    go_simp; refine (HKp.out Ac m cc ls Hm.out HLl.out _ HRc.out).mono ?_; rintro e wd ⟨vd, rfl, hvd, hbd⟩; go_simp
    rw [HDl.out] at hvd
    obtain ⟨Ad, cd, rfl, hcd, hmd, hrd⟩ := hvd.ints
    have HRd := Lib.hid hrd
    obtain ⟨q, Hq⟩ : ∃ q, Hid (dl.length = q) := ⟨_, Lib.hid rfl⟩
    rw [Hq.out] at HDLl ⊢
    have HE := Lib.hid (bt HE.out hbd)
    clear hvd hcd hmd hrd
    have hSn := And.intro (hSn.1.trans (hbd.mono hSn.1.size)) (And.intro (hSn.2.1.ext hbd) (hSn.2.2.ext hbd)); refine hK _ _ hSn ?_; clear hK; clear K; simp only [setL]
    refine WH.only 8 _ rfl (by kernel_rfl) rfl (fun K hK => ?_)
    have HOd := Lib.hid (HO4.out.ext HE.out)
    refine ow_append_many _ _ _ _ rfl Tryz.underlying50 (.int .i64 0) 8 Tryz.intInfo rfl wS.heap.size _ _ rfl HOd.out Ad q cd (ivals dl) rfl (by rw [ivals_len]; exact Hq.out) HRd.out (ivals_one _) hSn.1.size (by rw [ivals_len]; unfold maxLen; have := H7L.out; have := HDLl.out; omega) (by rw [ivals_len]; have := H7L.out; have := HDLl.out; omega) ?_
    apply Stop.go
    intro v9 w9 Hv9 Ha9
    have D9 := Lib.hid (hSn.1.grown Ha9.out hSn.1.size fun k hk => (HOd.out.lt k hk).1)
    have HO9 := Lib.hid (show OwnC w9 wS.heap.size 3 v9 (ivals tl) by
      have h := Hv9.out
      rw [ivals_apf, HY.out] at h
      exact h)
    have hSn := And.intro D9.out (And.intro (HVS.out.ext D9.out) (HXS.out.ext D9.out)); refine hK _ _ hSn ?_; clear hK; clear K; simp only [setL]
    refine WH.tk 9 ?_; simp only [setL]
    refine WH.done (by kernel_rfl) ?_
    go_wp2_with fail
    go_ret
    exact ⟨_, rfl, HO9.out.low ES.out.size, bt ES.out D9.out⟩

set_option maxHeartbeats 3200000 in
theorem fownd_any (l : Lay14) (f : Value) (T : Int → List UInt8) (hT : ∀ no, (T no).length = 256) (X : List Int) (hX : X.length = 11) (hK : fld X 0 = 2) (w : World) (hf : FV w l f T) :
    Calls Tryz.prog 36 #[.agg (vval l f), .agg (icells X)] w (RetL w (ownF l T X)) := by
  have HF := Lib.hid hf
  have HXL := Lib.hid hX
  have HIx := Lib.hid (fun w h => findex_any l f T hT X hX w h)
  have HBu := Lib.hid (fun w => fbuck_any l f (ixD l T X) (ixT l T X) ixT_len w)
  obtain ⟨F4, HF4⟩ : ∃ F4, Hid (fld X 4 = F4) := ⟨_, Lib.hid rfl⟩
  obtain ⟨RD, HRD⟩ : ∃ RD, Hid (ixD l T X = RD) := ⟨_, Lib.hid rfl⟩
  obtain ⟨RT, HRT⟩ : ∃ RT, Hid (ixT l T X = RT) := ⟨_, Lib.hid rfl⟩
  obtain ⟨rb, HRB⟩ : ∃ rb, Hid (isF l T X = rb) := ⟨_, Lib.hid rfl⟩
  obtain ⟨bk, HBK⟩ : ∃ bk, Hid (bukF l T X = bk) := ⟨_, Lib.hid rfl⟩
  obtain ⟨tl, HTl⟩ : ∃ tl, Hid (ownF l T X = tl) := ⟨_, Lib.hid rfl⟩
  have H0 := Lib.hid (fun h : rb = false => show tl = [] by
    rw [← HTl.out, own_dir hK, HRB.out, h]
    rfl)
  have H1 := Lib.hid (fun h : rb = true => show [F4] ++ bk = tl by
    rw [← HTl.out, own_dir hK, HRB.out, h, HF4.out, HBK.out]
    rfl)
  have HBl := Lib.hid (show bk.length ≤ 32 by rw [← HBK.out]; exact bukF_len)
  have HzL := Lib.hid zeroT_len
  have HTL := Lib.hid (show RT.length = 32 by rw [← HRT.out]; exact ixT_len)
  rw [buk_any l T X, HBK.out] at HBu
  rw [HRD.out, HRT.out] at HIx HBu
  rw [HRB.out] at HIx
  rw [HTl.out]
  clear hT hX hf hK HRD HRT HRB HBK HTl
  go_enter Tryz.func36, Tryz.ntmps36
  go_wp2_with (refine wpList_box_row rfl _ _ rfl _ rfl ?_)
  apply Stop.go; intro w1 Hg1 Hb1
  go_wp2_with (refine wpList_box_row rfl _ _ rfl _ rfl ?_)
  apply Stop.go; intro w2 Hg2 Hb2
  have HV2 := Lib.hid (Hb1.out.ext Hg2.out.1)
  have E2 := Lib.hid (bt Hg1.out.1 Hg2.out.1)
  generalize w1.heap.size = g5 at *
  clear Hg1 Hb1 Hg2
  go_wp2_with (first | refine wpList_load_blk rfl _ _ rfl _ rfl _ _ HV2.out _ Tryz.underlying29 rfl Tryz.viewSize ?_ | refine wpList_load_blk rfl _ _ rfl _ rfl _ _ Hb2.out _ Tryz.underlying39 rfl (Tryz.inoFits HXL.out) ?_)
  refine (HIx.out _ (HF.out.below E2.out)).mono ?_; rintro e w3 ⟨rfl, hb3⟩
  have HV3 := Lib.hid (HV2.out.ext hb3)
  have HX3 := Lib.hid (Hb2.out.ext hb3)
  have E3 := Lib.hid (bt E2.out hb3)
  clear hb3 HV2 E2 Hb2 HF
  go_wp2_with (refine wpList_alloc_row rfl _ rfl _ Tryz.ixZero ?_)
  apply Stop.go; intro w4 Hg4 Hb4
  go_wp2_with (refine wpList_store_arr rfl _ _ _ rfl _ _ rfl rfl _ _ Hb4.out (Tryz.ixFits HTL.out) (icells_same HzL.out HTL.out) (oneCell_icells _) ?_)
  apply Stop.go; intro w5 Ho5 Hb5
  have D := Lib.hid (bonly Hg4.out.1 Ho5.out (Nat.le_refl _))
  have HV5 := Lib.hid (HV3.out.ext D.out)
  have HX5 := Lib.hid (HX3.out.ext D.out)
  have E5 := Lib.hid (bt E3.out D.out)
  generalize w3.heap.size = gx at *
  clear Hg4 Hb4 Ho5 D HV3 HX3 E3
  cases hrb : rb
  · obtain rfl : tl = [] := H0.out hrb
    subst hrb
    clear H0 H1
    go_wp2_with fail
    go_ret
    exact ⟨_, rfl, OwnC.nil_ _ _ _, E5.out⟩
  · have HT1 := Lib.hid (H1.out hrb)
    subst hrb
    clear H0 H1
    go_wp2_with fail
    refine WH.start (S := fun w' : World => Blk w' w.heap.size 29 (vval l f) ∧ Blk w' g5 39 (icells X) ∧ Blk w' gx 43 (icells (RD :: RT))) [false, false, false, false, false, false, false, false, false] 9 rfl rfl (by kernel_rfl) ⟨HV5.out.ext (bdrew w5 1), HX5.out.ext (bdrew w5 1), Hb5.out.ext (bdrew w5 1)⟩ (fun hSn => ?_); obtain ⟨wS, hwS⟩ : ∃ x, (w5).drew = x := ⟨_, rfl⟩; have HE := Lib.hid (show Below (w5).heap.size (w5) wS from hwS ▸ bdrew w5 1); rw [hwS] at hSn ⊢; clear hwS
    have HVS := Lib.hid hSn.1
    have HXS := Lib.hid hSn.2.1
    have HRS := Lib.hid hSn.2.2
    have ES := Lib.hid (bt E5.out HE.out)
    clear HE E5 HV5 HX5 Hb5
    refine WH.tk 0 ?_; simp only [setL]
    refine WH.tk 1 ?_; simp only [setL]
    refine WH.tv 2 rfl (fun w' hSw => exec_load_cell _ _ rfl ⟨g5, 4, none⟩ rfl (.int .i64 F4) (by rw [← HF4.out]; exact hSw.2.1.fld 4 (by rw [HXL.out]; omega)) _ Tryz.underlying3 rfl) ?_; simp only [setL]
    refine WH.tv 4 rfl (fun w' hSw => exec_load_blk _ _ rfl _ rfl _ _ (hSw.1) _ (Tryz.underlying29) rfl (Tryz.viewSize)) ?_; simp only [setL]
    refine WH.tv 5 rfl (fun w' hSw => exec_load_blk _ _ rfl _ rfl _ _ (hSw.2.2) _ (Tryz.underlying43) rfl ((Tryz.ixFits HTL.out))) ?_; simp only [setL]
    refine WH.two 3 6 _ _ rfl rfl (by kernel_rfl) rfl rfl (fun K hK => ?_) (fun K hK => ?_)
    · refine ow_build_own _ _ _ rfl Tryz.underlying50 (.int .i64 0) 8 Tryz.intInfo F4 rfl ?_
      apply Stop.go; intro va wa Hga Hva
      have hSn := And.intro (hSn.1.ext Hga.out.1) (And.intro (hSn.2.1.ext Hga.out.1) (hSn.2.2.ext Hga.out.1)); refine hK _ _ hSn ?_; clear hK; clear K; simp only [setL]
      refine WH.only 6 _ rfl (by kernel_rfl) rfl (fun K hK => ?_)
      go_simp; refine (HBu.out _).mono ?_; rintro e wb ⟨vb, rfl, hvb, hbb⟩; go_simp
      have HOw := Lib.hid (show OwnC wb wS.heap.size 3 va (ivals [F4]) from Hva.out.ext hbb)
      have HDw := Lib.hid (bt Hga.out.1 hbb)
      obtain ⟨Ad, cd, rfl, hcd, hmd, hrd⟩ := hvb.ints
      have HRd := Lib.hid hrd
      obtain ⟨q, Hq⟩ : ∃ q, Hid (bk.length = q) := ⟨_, Lib.hid rfl⟩
      rw [Hq.out] at HBl ⊢
      clear hvb hcd hmd hrd Hva Hga
      have hSn := And.intro (hSn.1.ext hbb) (And.intro (hSn.2.1.ext hbb) (hSn.2.2.ext hbb)); refine hK _ _ hSn ?_; clear hK; clear K; simp only [setL]
      clear hbb
      refine WH.only 7 _ rfl (by kernel_rfl) rfl (fun K hK => ?_)
      refine ow_append_many _ _ _ _ rfl Tryz.underlying50 (.int .i64 0) 8 Tryz.intInfo rfl wS.heap.size _ _ rfl HOw.out Ad q cd (ivals bk) rfl (by rw [ivals_len]; exact Hq.out) HRd.out (ivals_one _) HDw.out.size (by rw [ivals_len]; unfold maxLen; have := HBl.out; simp only [List.length_cons, List.length_nil]; omega) (by rw [ivals_len]; have := HBl.out; simp only [List.length_cons, List.length_nil]; omega) ?_
      apply Stop.go
      intro v9 w9 Hv9 Ha9
      have D9 := Lib.hid (HDw.out.grown Ha9.out HDw.out.size fun k hk => (HOw.out.lt k hk).1)
      have HO9 := Lib.hid (show OwnC w9 wS.heap.size 3 v9 (ivals tl) by
        have h := Hv9.out
        rw [ivals_apf, HT1.out] at h
        exact h)
      have hSn := And.intro (HVS.out.ext D9.out) (And.intro (HXS.out.ext D9.out) (HRS.out.ext D9.out)); refine hK _ _ hSn ?_; clear hK; clear K; simp only [setL]
      refine WH.tk 8 ?_; simp only [setL]
      refine WH.done (by kernel_rfl) ?_
      go_wp2_with fail
      go_ret
      exact ⟨_, rfl, HO9.out.low ES.out.size, bt ES.out D9.out⟩
    · go_simp; refine (HBu.out _).mono ?_; rintro e wb ⟨vb, rfl, hvb, hbb⟩; go_simp
      obtain ⟨Ad, cd, rfl, hcd, hmd, hrd⟩ := hvb.ints
      have HRb := Lib.hid hrd
      obtain ⟨q, Hq⟩ : ∃ q, Hid (bk.length = q) := ⟨_, Lib.hid rfl⟩
      rw [Hq.out] at HBl ⊢
      clear hvb hcd hmd hrd
      have hSn := And.intro (hSn.1.ext hbb) (And.intro (hSn.2.1.ext hbb) (hSn.2.2.ext hbb)); refine hK _ _ hSn ?_; clear hK; clear K; simp only [setL]
      refine WH.only 3 _ rfl (by kernel_rfl) rfl (fun K hK => ?_)
      refine ow_build_own _ _ _ rfl Tryz.underlying50 (.int .i64 0) 8 Tryz.intInfo F4 rfl ?_
      apply Stop.go; intro va wa Hga Hva
      have HRd := Lib.hid (HRb.out.below Hga.out.1)
      have HOw := Lib.hid (show OwnC wa wS.heap.size 3 va (ivals [F4]) from OwnC.low Hva.out hbb.size)
      have HDw := Lib.hid (bt hbb Hga.out.1)
      have hSn := And.intro (hSn.1.ext Hga.out.1) (And.intro (hSn.2.1.ext Hga.out.1) (hSn.2.2.ext Hga.out.1)); refine hK _ _ hSn ?_; clear hK; clear K; simp only [setL]
      clear hbb Hga Hva HRb
      refine WH.only 7 _ rfl (by kernel_rfl) rfl (fun K hK => ?_)
      refine ow_append_many _ _ _ _ rfl Tryz.underlying50 (.int .i64 0) 8 Tryz.intInfo rfl wS.heap.size _ _ rfl HOw.out Ad q cd (ivals bk) rfl (by rw [ivals_len]; exact Hq.out) HRd.out (ivals_one _) HDw.out.size (by rw [ivals_len]; unfold maxLen; have := HBl.out; simp only [List.length_cons, List.length_nil]; omega) (by rw [ivals_len]; have := HBl.out; simp only [List.length_cons, List.length_nil]; omega) ?_
      apply Stop.go
      intro v9 w9 Hv9 Ha9
      have D9 := Lib.hid (HDw.out.grown Ha9.out HDw.out.size fun k hk => (HOw.out.lt k hk).1)
      have HO9 := Lib.hid (show OwnC w9 wS.heap.size 3 v9 (ivals tl) by
        have h := Hv9.out
        rw [ivals_apf, HT1.out] at h
        exact h)
      have hSn := And.intro (HVS.out.ext D9.out) (And.intro (HXS.out.ext D9.out) (HRS.out.ext D9.out)); refine hK _ _ hSn ?_; clear hK; clear K; simp only [setL]
      refine WH.tk 8 ?_; simp only [setL]
      refine WH.done (by kernel_rfl) ?_
      go_wp2_with fail
      go_ret
      exact ⟨_, rfl, HO9.out.low ES.out.size, bt ES.out D9.out⟩

set_option maxHeartbeats 1600000 in
theorem fowns_any (l : Lay14) (f : Value) (T : Int → List UInt8) (hT : ∀ no, (T no).length = 256) (X : List Int) (hX : X.length = 11) (w : World) (hf : FV w l f T) :
    Calls Tryz.prog 14 #[.agg (vval l f), .agg (icells X)] w (RetL w (ownF l T X)) := by
  have HF := Lib.hid hf
  have HXL := Lib.hid hX
  obtain ⟨K, HK⟩ : ∃ K, Hid (fld X 0 = K) := ⟨_, Lib.hid rfl⟩
  have HFi := Lib.hid (fun (h : K = 1) w hf => fownf_any l f T hT X hX (by rw [HK.out]; exact h) w hf)
  have HDi := Lib.hid (fun (h : K = 2) w hf => fownd_any l f T hT X hX (by rw [HK.out]; exact h) w hf)
  have HNo := Lib.hid (fun (h1 : K ≠ 1) (h2 : K ≠ 2) => show ownF l T X = [] from own_other (by rw [HK.out]; exact h1) (by rw [HK.out]; exact h2))
  generalize ownF l T X = tl at *
  clear hf hX hT
  go_enter Tryz.func14, Tryz.ntmps14
  go_wp2_with (refine wpList_box_row rfl _ _ rfl _ rfl ?_)
  apply Stop.go; intro w1 Hg1 Hb1
  go_wp2_with (refine wpList_box_row rfl _ _ rfl _ rfl ?_)
  apply Stop.go; intro w2 Hg2 Hb2
  have HV2 := Lib.hid (Hb1.out.ext Hg2.out.1)
  have E2 := Lib.hid (bt Hg1.out.1 Hg2.out.1)
  have HF2 := Lib.hid (HF.out.below E2.out)
  generalize w1.heap.size = g1 at *
  clear Hg1 Hb1 Hg2 HF
  have c0 : w2.cell? ⟨g1, 0, none⟩ = some (.int .i64 K) := by rw [← HK.out]; exact Hb2.out.fld 0 (by rw [HXL.out]; omega)
  by_cases h1 : K = 1
  · have q1 : (K == 1) = true := by simpa using h1
    have HFi := Lib.hid (HFi.out h1)
    clear h1 HDi HNo
    go_wp2_with (first | refine wpList_load_blk rfl _ _ rfl _ rfl _ _ HV2.out _ Tryz.underlying29 rfl Tryz.viewSize ?_ | refine wpList_load_blk rfl _ _ rfl _ rfl _ _ Hb2.out _ Tryz.underlying39 rfl (Tryz.inoFits HXL.out) ?_)
    refine (HFi.out _ HF2.out).mono ?_; rintro e w3 ⟨v3, rfl, hv3, hb3⟩
    go_wp2_with fail
    go_ret
    exact ⟨_, rfl, hv3.low E2.out.size, bt E2.out hb3⟩
  · have q1 : (K == 1) = false := by simpa using h1
    by_cases h2 : K = 2
    · have q2 : (K == 2) = true := by simpa using h2
      have HDi := Lib.hid (HDi.out h2)
      clear h1 h2 HFi HNo
      go_wp2_with (first | refine wpList_load_blk rfl _ _ rfl _ rfl _ _ HV2.out _ Tryz.underlying29 rfl Tryz.viewSize ?_ | refine wpList_load_blk rfl _ _ rfl _ rfl _ _ Hb2.out _ Tryz.underlying39 rfl (Tryz.inoFits HXL.out) ?_)
      refine (HDi.out _ HF2.out).mono ?_; rintro e w3 ⟨v3, rfl, hv3, hb3⟩
      go_wp2_with fail
      go_ret
      exact ⟨_, rfl, hv3.low E2.out.size, bt E2.out hb3⟩
    · have q2 : (K == 2) = false := by simpa using h2
      obtain rfl := HNo.out h1 h2
      clear h1 h2 HFi HDi HNo
      go_wp2_with fail
      go_ret
      exact ⟨_, rfl, OwnC.nil_ _ _ _, E2.out⟩

/-- The contracts. -/
theorem fc : FC where
  blocks l f T hT X hX _ w hf := fblocks_any l f T hT X hX w hf
  owns l f T hT X hX _ w hf := fowns_any l f T hT X hX w hf
  beyond l f T hT X hX _ w hf := fbeyond_any l f T hT X hX w hf
theorem fcd : FCd where
  index l f T hT X hX _ w hf := findex_any l f T hT X hX w hf
  buckets l f T hT X hX _ w hf := fbuckets_any l f T hT X hX w hf

end Go.Proofs.YtcdbligdcikphaaGreat
