/-
  Contracts of package fmap: Index, buckets, Buckets, ownsAsFile, ownsAsDir, Owns; the contracts as one.
-/
import Derived.Test.YtkakihbfhmiabaaGreatGrAQ
import Derived.Test.YtkakihbfhmiabaaGreatGrAR
import Derived.Test.YtkakihbfhmiabaaGreatGrAV
import Derived.Test.YtkakihbfhmiabaaGreatGrAS
namespace Go.Proofs.YtkakihbfhmiabaaGreat
open Go.RowKit
set_option maxRecDepth 10000

theorem ivals_apf (s t : List Int) : ivals s ++ ivals t = ivals (s ++ t) := by unfold ivals; rw [List.map_append]
theorem buk_any (l : Lay14) (T : Int → List UInt8) (X : List Int) : dataF l (buckK (ixT l T X) (2 ^ dpN (ixD l T X))) = bukF l T X := by
  have hz : dataF l (buckK zeroT (2 ^ dpN 0)) = [] := by
    have e : buckK zeroT (2 ^ dpN 0) = [] := by decide
    rw [e]
    rfl
  unfold bukF
  cases hi : isF l T X
  · have e : ixD l T X = 0 ∧ ixT l T X = zeroT := by
      by_cases h : fld X 0 = 2 ∧ l.isD (fld X 4) = true
      · have := ix_on (T := T) h.1 h.2
        rw [this.1] at hi
        rw [this.2.1, this.2.2]
        unfold getD_ getT_
        rw [hi]
        exact ⟨rfl, rfl⟩
      · have := ix_off (l := l) (T := T) (X := X) (by
          by_cases h2 : fld X 0 = 2
          · right
            cases hd : l.isD (fld X 4)
            · rfl
            · exact absurd ⟨h2, hd⟩ h
          · exact Or.inl h2)
        exact this.2
    rw [e.1, e.2, hz]
    rfl
  · rfl
theorem dirF_in (X : List Int) : (dirF X).length ≤ 6 := by unfold dirF; rw [List.length_take]; omega

set_option maxHeartbeats 3200000 in
theorem findex_any (l : Lay14) (f : Value) (T : Int → List UInt8) (hT : ∀ no, (T no).length = 256) (X : List Int) (hX : X.length = 11) (w : World) (hf : FV w l f T) :
    Calls Tryz.prog 157 #[.agg (vval l f), .agg (icells X)] w fun e w' => e = .returned (.tuple #[.agg (icells (ixD l T X :: ixT l T X)), .bool (isF l T X)]) ∧ Below w.heap.size w w' := by
  have HF := Lib.hid hf
  have HXL := Lib.hid hX
  obtain ⟨K, HK⟩ : ∃ K, Hid (fld X 0 = K) := ⟨_, Lib.hid rfl⟩
  obtain ⟨I, HI⟩ : ∃ I, Hid (fld X 4 = I) := ⟨_, Lib.hid rfl⟩
  have HBk := Lib.hid (fun w h => vblock_any l f T hT I w h)
  have HBL := Lib.hid (vBk_len (l := l) hT I)
  obtain ⟨RD, HRD⟩ : ∃ RD, Hid (ixD l T X = RD) := ⟨_, Lib.hid rfl⟩
  obtain ⟨RT, HRT⟩ : ∃ RT, Hid (ixT l T X = RT) := ⟨_, Lib.hid rfl⟩
  obtain ⟨rb, HRB⟩ : ∃ rb, Hid (isF l T X = rb) := ⟨_, Lib.hid rfl⟩
  have HOff := Lib.hid (fun h : K ≠ 2 ∨ l.isD I = false => show rb = false ∧ RD = 0 ∧ RT = zeroT by
    rw [← HRD.out, ← HRT.out, ← HRB.out]
    exact ix_off (by rw [HK.out, HI.out]; exact h))
  have HOn := Lib.hid (fun (h : K = 2) (hd : l.isD I = true) => show getB (vBk l T I) = rb ∧ getD_ (vBk l T I) = RD ∧ getT_ (vBk l T I) = RT by
    have e := ix_on (l := l) (T := T) (X := X) (by rw [HK.out]; exact h) (by rw [HI.out]; exact hd)
    rw [HI.out, HRD.out, HRT.out, HRB.out] at e
    exact ⟨e.1.symm, e.2.1.symm, e.2.2.symm⟩)
  have HzL := Lib.hid zeroT_len
  have HTL := Lib.hid (show RT.length = 32 by rw [← HRT.out]; exact ixT_len)
  rw [HRD.out, HRT.out, HRB.out]
  clear hT hf hX HRD HRT HRB
  go_enter Tryz.func157, Tryz.ntmps157
  go_wp2_with (refine wpList_box_row rfl _ _ rfl _ rfl ?_)
  apply Stop.go; intro w1 Hg1 Hb1
  go_wp2_with (refine wpList_box_row rfl _ _ rfl _ rfl ?_)
  apply Stop.go; intro w2 Hg2 Hb2
  have HL2 := Lib.hid (Hb1.out.ext Hg2.out.1)
  have E2 := Lib.hid (bt Hg1.out.1 Hg2.out.1)
  have z2 := Lib.hid (show w.heap.size < w1.heap.size ∧ w1.heap.size < w2.heap.size by have := Hg1.out.2; have := Hg2.out.2; omega)
  generalize w1.heap.size = g5 at *
  clear Hg1 Hb1 Hg2
  go_wp2_with (refine wpList_alloc_row rfl _ rfl _ Tryz.ixZero ?_)
  apply Stop.go; intro w3 Hg3 Hb3
  have HV3 := Lib.hid (HL2.out.ext Hg3.out.1)
  have HX3 := Lib.hid (Hb2.out.ext Hg3.out.1)
  have E3 := Lib.hid (bt E2.out Hg3.out.1)
  have z3 := Lib.hid (show w.heap.size < w2.heap.size ∧ g5 < w2.heap.size by have := z2.out; omega)
  have zb := Lib.hid Hb3.out.lt
  generalize w2.heap.size = gl at *
  clear Hg3 Hb2 HL2 E2 z2
  have c0 : w3.cell? ⟨g5, 0, none⟩ = some (.int .i64 K) := by rw [← HK.out]; exact HX3.out.fld 0 (by rw [HXL.out]; omega)
  by_cases hK : K = 2
  rotate_left
  · have d0 : (K != 2) = true := by simpa using hK
    obtain ⟨rfl, rfl, rfl⟩ := HOff.out (.inl hK)
    clear hK HOff HOn
    go_upto_region 2 with fail
    go_wp2_with (first | refine wpList_build_nil rfl _ rfl _ Tryz.ixBuilt0 ?_ | refine wpList_store_arr rfl _ _ _ rfl _ _ rfl rfl _ _ Hb3.out (Tryz.ixFits HzL.out) (icells_same HzL.out HzL.out) (oneCell_icells _) ?_)
    apply Stop.go; intro we Hoe Hbe
    go_wp2_with ((with_reducible show bodyPost _ _ _ _ _ _); refine bodyPost_struct_tmp rfl _ rfl _ _ Hbe.out _ Tryz.underlying102 rfl (Tryz.ixFits HzL.out) rfl _ rfl ?_)
    apply Stop.go
    exact bonly E3.out Hoe.out (by have := z3.out; omega)
  · have HOn1 := Lib.hid (HOn.out hK)
    have HOf1 := Lib.hid (fun h => HOff.out (.inr h))
    subst hK
    have d0 : ((2 : Int) != 2) = false := rfl
    clear HOff HOn
    have c4 : w3.cell? ⟨g5, 4, none⟩ = some (.int .i64 I) := by rw [← HI.out]; exact HX3.out.fld 4 (by rw [HXL.out]; omega)
    go_wp2_with (refine wpList_load_cells rfl _ _ rfl ⟨w.heap.size, 0, none⟩ rfl _ Tryz.underlying41 (Lay14.val l).toList Tryz.laySize (vval_cells HV3.out) ?_)
    refine (isdata_any l I _).mono ?_; rintro e w4 ⟨rfl, hb4⟩
    have HV4 := Lib.hid (HV3.out.ext hb4)
    have HX4 := Lib.hid (HX3.out.ext hb4)
    have HR4 := Lib.hid (Hb3.out.ext hb4)
    have E4 := Lib.hid (bt E3.out hb4)
    clear hb4 HV3 HX3 Hb3 E3 c0 c4
    cases hd : l.isD I
    · obtain ⟨rfl, rfl, rfl⟩ := HOf1.out hd
      clear hd HOf1 HOn1
      go_upto_region 2 with fail
      go_wp2_with (first | refine wpList_build_nil rfl _ rfl _ Tryz.ixBuilt0 ?_ | refine wpList_store_arr rfl _ _ _ rfl _ _ rfl rfl _ _ HR4.out (Tryz.ixFits HzL.out) (icells_same HzL.out HzL.out) (oneCell_icells _) ?_)
      apply Stop.go; intro we Hoe Hbe
      go_wp2_with ((with_reducible show bodyPost _ _ _ _ _ _); refine bodyPost_struct_tmp rfl _ rfl _ _ Hbe.out _ Tryz.underlying102 rfl (Tryz.ixFits HzL.out) rfl _ rfl ?_)
      apply Stop.go
      exact bonly E4.out Hoe.out (by have := z3.out; omega)
    · have HN := Lib.hid (HOn1.out hd)
      have c4 : w4.cell? ⟨g5, 4, none⟩ = some (.int .i64 I) := by rw [← HI.out]; exact HX4.out.fld 4 (by rw [HXL.out]; omega)
      clear hd HOf1 HOn1
      go_wp2_with (refine wpList_load_blk rfl _ _ rfl _ rfl _ _ HV4.out _ Tryz.underlying44 rfl Tryz.viewSize ?_)
      refine (HBk.out _ (HF.out.below E4.out)).mono ?_; rintro e w5 ⟨rfl, hb5⟩
      have HR5 := Lib.hid (HR4.out.ext hb5)
      have E5 := Lib.hid (bt E4.out hb5)
      clear hb5 HX4 HR4 E4 c4 HV4
      generalize vBk l T I = b at *
      go_wp2_with fail
      refine (xget_any b HBL.out _).mono ?_; rintro e w6 ⟨rfl, hb6⟩
      rw [HN.out.1, HN.out.2.1, HN.out.2.2]
      have HR6 := Lib.hid (HR5.out.ext hb6)
      have E6 := Lib.hid (bt E5.out hb6)
      clear hb6 HR5 E5
      go_wp2_with (refine wpList_alloc_row rfl _ rfl _ Tryz.ixZero ?_)
      apply Stop.go; intro w7 Hg7 Hb7
      go_wp2_with (refine wpList_store_arr rfl _ _ _ rfl _ _ rfl rfl _ _ Hb7.out (Tryz.ixFits HTL.out) (icells_same HzL.out HTL.out) (oneCell_icells _) ?_)
      apply Stop.go; intro w8 Ho8 Hb8
      have D := Lib.hid (bonly Hg7.out.1 Ho8.out (Nat.le_refl _))
      have HR8 := Lib.hid (HR6.out.ext D.out)
      have E8 := Lib.hid (bt E6.out D.out)
      generalize w6.heap.size = g6 at *
      clear Hg7 Hb7 Ho8 D HR6 E6
      cases rb
      · have eF : formE false = 14 := rfl
        rw [eF]
        go_wp2_with (first | refine wpList_load_blk rfl _ _ rfl _ rfl _ _ Hb8.out _ Tryz.underlying102 rfl (Tryz.ixFits HTL.out) ?_ | refine wpList_store_arr rfl _ _ _ rfl _ _ rfl rfl _ _ HR8.out (Tryz.ixFits HTL.out) (icells_same HzL.out HTL.out) (oneCell_icells _) ?_)
        apply Stop.go; intro we Hoe Hbe
        go_wp2_with ((with_reducible show bodyPost _ _ _ _ _ _); refine bodyPost_struct_tmp rfl _ rfl _ _ Hbe.out _ Tryz.underlying102 rfl (Tryz.ixFits HTL.out) rfl _ rfl ?_)
        apply Stop.go
        exact bonly E8.out Hoe.out (by have := z3.out; omega)
      · have eF : formE true = 0 := rfl
        rw [eF]
        go_wp2_with (first | refine wpList_load_blk rfl _ _ rfl _ rfl _ _ Hb8.out _ Tryz.underlying102 rfl (Tryz.ixFits HTL.out) ?_ | refine wpList_store_arr rfl _ _ _ rfl _ _ rfl rfl _ _ HR8.out (Tryz.ixFits HTL.out) (icells_same HzL.out HTL.out) (oneCell_icells _) ?_)
        apply Stop.go; intro we Hoe Hbe
        go_wp2_with ((with_reducible show bodyPost _ _ _ _ _ _); refine bodyPost_struct_tmp rfl _ rfl _ _ Hbe.out _ Tryz.underlying102 rfl (Tryz.ixFits HTL.out) rfl _ rfl ?_)
        apply Stop.go
        exact bonly E8.out Hoe.out (by have := z3.out; omega)

set_option maxHeartbeats 1600000 in
theorem fbuck_any (l : Lay14) (f : Value) (d : Int) (t : List Int) (ht : t.length = 32) (w : World) :
    Calls Tryz.prog 174 #[.agg (vval l f), .agg (icells (d :: t))] w (RetL w (dataF l (buckK t (2 ^ dpN d)))) := by
  have HTL := Lib.hid ht
  have HBu := Lib.hid (fun w => xbuckets_any d t ht w)
  have HKl := Lib.hid (show (buckK t (2 ^ dpN d)).length ≤ 134 by have := buckK_len t (2 ^ dpN d); have := pow32 (dpN_le d); omega)
  have HKp := Lib.hid (fun A m c bs (hm : bs.length = m) (h : m ≤ 134) w hr => fkeep_any l f A m c bs hm h w hr)
  obtain ⟨bs, HBs⟩ : ∃ bs, Hid (buckK t (2 ^ dpN d) = bs) := ⟨_, Lib.hid rfl⟩
  rw [HBs.out] at HBu HKl ⊢
  clear ht HBs
  go_enter Tryz.func174, Tryz.ntmps174
  go_wp2_with (refine wpList_box_row rfl _ _ rfl _ rfl ?_)
  apply Stop.go; intro w1 Hg1 Hb1
  go_wp2_with (refine wpList_box_row rfl _ _ rfl _ rfl ?_)
  apply Stop.go; intro w2 Hg2 Hb2
  have HV2 := Lib.hid (Hb1.out.ext Hg2.out.1)
  have E2 := Lib.hid (bt Hg1.out.1 Hg2.out.1)
  generalize w1.heap.size = g1 at *
  clear Hg1 Hb1 Hg2
  go_wp2_with fail
  refine WH.start (S := fun w' : World => Blk w' w.heap.size 44 (vval l f) ∧ Blk w' g1 102 (icells (d :: t))) [false, false, false, false, false] 5 rfl rfl (by kernel_rfl) ⟨HV2.out.ext (bdrew w2 1), Hb2.out.ext (bdrew w2 1)⟩ (fun hSn => ?_); obtain ⟨wS, hwS⟩ : ∃ x, (w2).drew = x := ⟨_, rfl⟩; have HE := Lib.hid (show Below (w2).heap.size (w2) wS from hwS ▸ bdrew w2 1); rw [hwS] at hSn ⊢; clear hwS
  refine WH.tv 0 rfl (fun w' hSw => exec_load_blk _ _ rfl _ rfl _ _ (hSw.1) _ (Tryz.underlying44) rfl (Tryz.viewSize)) ?_; simp only [setL]
  refine WH.tv 1 rfl (fun w' hSw => exec_load_blk _ _ rfl _ rfl _ _ (hSw.2) _ (Tryz.underlying102) rfl ((Tryz.ixFits HTL.out))) ?_; simp only [setL]
  refine WH.only 2 _ rfl (by kernel_rfl) rfl (fun K hK => ?_)
  go_simp; refine (HBu.out _).mono ?_; rintro e wa ⟨va, rfl, hva, hba⟩; go_simp
  obtain ⟨Ab, cb, rfl, hcb, hmb, hrb⟩ := hva.ints
  have HRb := Lib.hid hrb
  obtain ⟨m, Hm⟩ : ∃ m, Hid (bs.length = m) := ⟨_, Lib.hid rfl⟩
  rw [Hm.out] at HKl ⊢
  have HE := Lib.hid (bt HE.out hba)
  clear hva hcb hmb hrb
  have hSn := And.intro (hSn.1.ext hba) (hSn.2.ext hba); refine hK _ _ hSn ?_; clear hK; clear K; simp only [setL]
  refine WH.only 3 _ rfl (by kernel_rfl) rfl (fun K hK => ?_)
  go_simp; refine (HKp.out Ab m cb bs Hm.out HKl.out _ HRb.out).mono ?_; rintro e wb ⟨vb, rfl, hvb, hbb⟩; go_simp
  have HO := Lib.hid (hvb.low HE.out.size)
  have HE := Lib.hid (bt HE.out hbb)
  clear hvb
  have hSn := And.intro (hSn.1.ext hbb) (hSn.2.ext hbb); refine hK _ _ hSn ?_; clear hK; clear K; simp only [setL]
  refine WH.tk 4 ?_; simp only [setL]
  refine WH.done (by kernel_rfl) ?_
  go_wp2_with fail
  go_ret
  exact ⟨_, rfl, HO.out.low E2.out.size, bt E2.out HE.out⟩

set_option maxHeartbeats 3200000 in
theorem fbuckets_any (l : Lay14) (f : Value) (T : Int → List UInt8) (hT : ∀ no, (T no).length = 256) (X : List Int) (hX : X.length = 11) (w : World) (hf : FV w l f T) :
    Calls Tryz.prog 158 #[.agg (vval l f), .agg (icells X)] w (RetL w (bukF l T X)) := by
  have HF := Lib.hid hf
  have HXL := Lib.hid hX
  have HIx := Lib.hid (fun w h => findex_any l f T hT X hX w h)
  have HBu := Lib.hid (fun w => fbuck_any l f (ixD l T X) (ixT l T X) ixT_len w)
  obtain ⟨RD, HRD⟩ : ∃ RD, Hid (ixD l T X = RD) := ⟨_, Lib.hid rfl⟩
  obtain ⟨RT, HRT⟩ : ∃ RT, Hid (ixT l T X = RT) := ⟨_, Lib.hid rfl⟩
  obtain ⟨rb, HRB⟩ : ∃ rb, Hid (isF l T X = rb) := ⟨_, Lib.hid rfl⟩
  have HzL := Lib.hid zeroT_len
  have HTL := Lib.hid (show RT.length = 32 by rw [← HRT.out]; exact ixT_len)
  rw [buk_any l T X] at HBu
  rw [HRD.out, HRT.out] at HIx HBu
  rw [HRB.out] at HIx
  generalize bukF l T X = tl at *
  clear hT hX hf HRD HRT HRB
  go_enter Tryz.func158, Tryz.ntmps158
  go_wp2_with (refine wpList_box_row rfl _ _ rfl _ rfl ?_)
  apply Stop.go; intro w1 Hg1 Hb1
  go_wp2_with (refine wpList_box_row rfl _ _ rfl _ rfl ?_)
  apply Stop.go; intro w2 Hg2 Hb2
  have HV2 := Lib.hid (Hb1.out.ext Hg2.out.1)
  have E2 := Lib.hid (bt Hg1.out.1 Hg2.out.1)
  generalize w1.heap.size = g5 at *
  clear Hg1 Hb1 Hg2
  go_wp2_with (first | refine wpList_load_blk rfl _ _ rfl _ rfl _ _ HV2.out _ Tryz.underlying44 rfl Tryz.viewSize ?_ | refine wpList_load_blk rfl _ _ rfl _ rfl _ _ Hb2.out _ Tryz.underlying59 rfl (Tryz.inoFits HXL.out) ?_)
  refine (HIx.out _ (HF.out.below E2.out)).mono ?_; rintro e w3 ⟨rfl, hb3⟩
  have HV3 := Lib.hid (HV2.out.ext hb3)
  have E3 := Lib.hid (bt E2.out hb3)
  clear hb3 HV2 E2 Hb2 HF
  go_wp2_with (refine wpList_alloc_row rfl _ rfl _ Tryz.ixZero ?_)
  apply Stop.go; intro w4 Hg4 Hb4
  go_wp2_with (refine wpList_store_arr rfl _ _ _ rfl _ _ rfl rfl _ _ Hb4.out (Tryz.ixFits HTL.out) (icells_same HzL.out HTL.out) (oneCell_icells _) ?_)
  apply Stop.go; intro w5 Ho5 Hb5
  have D := Lib.hid (bonly Hg4.out.1 Ho5.out (Nat.le_refl _))
  have HV5 := Lib.hid (HV3.out.ext D.out)
  have E5 := Lib.hid (bt E3.out D.out)
  generalize w3.heap.size = gx at *
  clear Hg4 Hb4 Ho5 D HV3 E3
  go_wp2_with (first | refine wpList_load_blk rfl _ _ rfl _ rfl _ _ HV5.out _ Tryz.underlying44 rfl Tryz.viewSize ?_ | refine wpList_load_blk rfl _ _ rfl _ rfl _ _ Hb5.out _ Tryz.underlying102 rfl (Tryz.ixFits HTL.out) ?_)
  refine (HBu.out _).mono ?_; rintro e w6 ⟨v6, rfl, hv6, hb6⟩
  go_wp2_with fail
  go_ret
  exact ⟨_, rfl, hv6.low E5.out.size, bt E5.out hb6⟩




theorem fca : FCa where
  at_ l f T hT X hX _ k hk w hf := fat_any l f T hT X hX k hk w hf
theorem fcd : FCd where
  index l f T hT X hX _ w hf := findex_any l f T hT X hX w hf
  buckets l f T hT X hX _ w hf := fbuckets_any l f T hT X hX w hf

end Go.Proofs.YtkakihbfhmiabaaGreat
