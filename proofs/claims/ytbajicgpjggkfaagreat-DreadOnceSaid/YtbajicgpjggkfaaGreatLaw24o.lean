/-
  Layer 24: the walk of DreadOnce.
-/
import Derived.Test.YtbajicgpjggkfaaGreatLaw24w
import Derived.Test.YtbajicgpjggkfaaGreatDrd5
import Derived.Test.YtbajicgpjggkfaaGreatGrP
import Derived.Test.YtbajicgpjggkfaaGreatFmpC
namespace Go.Proofs.YtbajicgpjggkfaaGreat
open Go.RowKit
set_option maxRecDepth 10000

theorem RN.cell0 {w : World} {g N : Nat} {L : List (List Value)} (h : RN w (some ⟨g, 0, none⟩) N L) {k : Nat} {r : List Value} (hk : L[k]? = some r) (hN : r.length = N) {j : Nat} {v : Value} (hj : r[j]? = some v) : w.cell? ⟨g, k * N + j, none⟩ = some v := by
  obtain ⟨hkl, e⟩ := List.getElem?_eq_some_iff.1 hk
  have hjN : j < N := by rw [← hN]; exact (List.getElem?_eq_some_iff.1 hj).1
  obtain ⟨ad, x, h1, h2, h3⟩ := h k hkl j hjN
  injection h1 with h1
  rw [e, hj] at h2
  injection h2 with h2
  rw [← h1, addr_add0] at h3
  rw [h3, h2]
set_option maxHeartbeats 6400000 in
theorem dreadOnce_any (A : Option Addr) (n cap : Nat) (L : List (List UInt8)) (hn : L.length = n) (hL : Bks L) (hm : n ≤ maxLen) (i : Int) (s : ByteArray) (hs : s.size ≤ maxLen) (w : World) (hr : RK w A L) :
    Calls Tryz.prog 5 #[.slice A n cap, .int .i64 i, .string s] w fun e w' => e = .returned (.bool true) ∧ Below w.heap.size w w' := by
  unfold maxLen at hm
  have Hn := Lib.hid hn
  have Hr := Lib.hid hr
  have HL := Lib.hid hL
  have Hs := Lib.hid hs
  have HfL : Hid (freeI.length = 11) := Lib.hid rfl
  have Hz := Lib.hid (show ([0, 0, 0] : List Int).length = 3 from rfl)
  have hw := fun w => works24_any w
  clear hn hr hL
  by_cases hbig : 60 < n
  · have d0 : decide ((60 : Int) < (n : Int)) = true := by simp; omega
    clear hbig
    go_enter Tryz.func5, Tryz.ntmps5
    go_wp2_with fail
    refine (hw _).mono ?_; rintro e w1 ⟨rfl, hb1⟩
    go_wp2_with fail
    go_ret
    exact ⟨rfl, hb1⟩
  have d0 : decide ((60 : Int) < (n : Int)) = false := by simp; omega
  by_cases hbs : 60 < s.size
  · have d1 : decide ((60 : Int) < (s.size : Int)) = true := by simp; omega
    clear hbig hbs
    go_enter Tryz.func5, Tryz.ntmps5
    go_wp2_with fail
    refine (hw _).mono ?_; rintro e w1 ⟨rfl, hb1⟩
    go_wp2_with fail
    go_ret
    exact ⟨rfl, hb1⟩
  · have d1 : decide ((60 : Int) < (s.size : Int)) = false := by simp; omega
    have hn6 : n ≤ 60 := by omega
    have HM := Lib.hid (show n ≤ maxLen by unfold maxLen; omega)
    have HTL := Lib.hid (fun no => bkV_len HL.out no)
    have HT := Lib.hid (fun (w : World) h => to21_any A n cap L Hn.out HL.out (by omega) w h)
    have HC1 := Lib.hid (fun A c w h => vof_any A n c L Hn.out HL.out (by omega) w h)
    clear hbig hbs
    go_enter Tryz.func5, Tryz.ntmps5
    go_wp2_with fail
    refine (HT.out _ Hr.out).mono ?_; rintro e w1 ⟨v1, rfl, hv1, hb1⟩
    obtain ⟨A1, c1, rfl, hc1, hm1, hr1⟩ := hv1.read
    rw [Hn.out]
    have HR1 := Lib.hid hr1
    have E1 := Lib.hid hb1
    clear hv1 hc1 hm1 hr1 hb1 HT
    go_wp2_with fail
    refine (HC1.out A1 c1 _ HR1.out).mono ?_; rintro e w2 ⟨f, rfl, hb2, hf2⟩
    have HF2 := Lib.hid hf2
    have E2 := Lib.hid (bt E1.out hb2)
    clear hb2 hf2 HR1 E1 HC1
    go_wp2_with (refine wpList_alloc_row rfl _ rfl _ Tryz.viewZero ?_)
    apply Stop.go; intro w3 Hg3 Hb3
    go_wp2_with (refine wpList_store_arr rfl _ _ _ rfl _ (vval (layV L) f) rfl rfl _ _ Hb3.out Tryz.viewSize rfl (FV.one HF2.out) ?_)
    apply Stop.go; intro w4 Ho4 Hb4
    have D4 := Lib.hid (bonly Hg3.out.1 Ho4.out (Nat.le_refl _))
    have HF4 := Lib.hid (HF2.out.below D4.out)
    have E4 := Lib.hid (bt E2.out D4.out)
    generalize w2.heap.size = g2 at *
    clear Hg3 Hb3 Ho4 D4 HF2 E2
    cases hlw : layW L with
    | none =>
      have e13 : okSup (none : Option Lay14).isSome = 13 := rfl
      rw [e13]
      clear e13 hlw HF4 Hb4
      go_wp2_with fail
      refine (hw _).mono ?_; rintro e w8 ⟨rfl, hb8⟩
      go_wp2_with fail
      go_ret
      exact ⟨rfl, bt E4.out hb8⟩
    | some l =>
      have Hlw := Lib.hid hlw
      have Hlv := Lib.hid (layV_some hlw)
      rw [Hlv.out] at HF4 Hb4
      have e13 : okSup (some l).isSome = 0 := rfl
      rw [e13]
      obtain ⟨X, HX⟩ : ∃ X, Hid (vIno l (bkV L) i = X) := ⟨_, Lib.hid rfl⟩
      have HXL := Lib.hid (show X.length = 11 by rw [← HX.out]; exact vIno_len _ _ _)
      have HCN := Lib.hid (fun w h => vinode_any l f (bkV L) HTL.out i w h)
      rw [HX.out] at HCN
      have HLk := Lib.hid (fun s hs w h => dlookup_any l f (bkV L) HTL.out X HXL.out s hs w h)
      have HLi := Lib.hid (fun w h => dlist_any l f (bkV L) HTL.out X HXL.out w h)
      have HLo := Lib.hid (fun w h => dload_any l f (bkV L) HTL.out X HXL.out w h)
      have HSt := Lib.hid (fun w h => dstray_any l f (bkV L) HTL.out X HXL.out w h)
      have HSl := Lib.hid (fun e (h : e ∈ srtE (lisD l (bkV L) X)) => srt_lk h)
      have HSz := Lib.hid (fun e (h : e ∈ srtE (lisD l (bkV L) X)) => show e.name.size ≤ maxLen from by
        rw [srtE_in] at h
        unfold lisD lisE at h
        rw [List.mem_map] at h
        obtain ⟨q, hq, rfl⟩ := h
        obtain ⟨_, _, _, _, he, _⟩ := entsD_in.1 (List.mem_filter.1 hq).1
        exact ent_size he)
      have HUp := Lib.hid (fun k x y (hx : (srtE (lisD l (bkV L) X))[k]? = some x) (hy : (srtE (lisD l (bkV L) X))[k + 1]? = some y) => srt_next hx hy)
      have HFo := Lib.hid (found_any (l := l) (T := bkV L) (X := X) s)
      have HLs := Lib.hid (load_sum (l := l) (T := bkV L) (X := X))
      have HM2 := Lib.hid (show (srtE (lisD l (bkV L) X)).length ≤ 224 by rw [srtE_perm lisD_apart]; exact lisD_len)
      have HS2 := Lib.hid (strD_len (l := l) (T := bkV L) (X := X))
      have HL2 := Lib.hid (show (lodL l (bkV L) (bukF l (bkV L) X)).length ≤ 32 by rw [lodL_len]; exact bukF_len)
      have HLx := Lib.hid (fun x (h : x ∈ lodL l (bkV L) (bukF l (bkV L) X)) => lodL_in h)
      have HkL := Lib.hid (lkD_len l (bkV L) X s)
      generalize srtE (lisD l (bkV L) X) = M at *
      generalize strD l (bkV L) X = SD at *
      generalize lodL l (bkV L) (bukF l (bkV L) X) = LD at *
      clear Hlv e13 hlw HX HM Hlw
      go_wp2_with (refine wpList_load_blk rfl _ _ rfl _ rfl _ _ Hb4.out _ Tryz.underlying29 rfl Tryz.viewSize ?_)
      refine (HCN.out _ HF4.out).mono ?_; rintro e w8 ⟨rfl, hb8⟩
      have HF8 := Lib.hid (HF4.out.below hb8)
      have HV8 := Lib.hid (Hb4.out.ext hb8)
      have E8 := Lib.hid (bt E4.out hb8)
      clear hb8 HF4 Hb4 E4 HCN
      go_wp2_with (refine wpList_alloc_row rfl _ rfl _ Tryz.inoZero ?_)
      apply Stop.go; intro w9 Hg9 Hb9
      go_wp2_with (refine wpList_store_arr rfl _ _ _ rfl _ _ rfl rfl _ _ Hb9.out (Tryz.inoFits HXL.out) (by simp only [icells_size, HXL.out, HfL.out]) (oneCell_icells _) ?_)
      apply Stop.go; intro wa Hoa Hba
      have D := Lib.hid (bonly Hg9.out.1 Hoa.out (Nat.le_refl _))
      have HFa := Lib.hid (HF8.out.below D.out)
      have HVa := Lib.hid (HV8.out.ext D.out)
      have Ea := Lib.hid (bt E8.out D.out)
      generalize w8.heap.size = gi at *
      clear Hg9 Hb9 Hoa D HF8 HV8 E8
      go_wp2_with (first | refine wpList_load_blk rfl _ _ rfl _ rfl _ _ HVa.out _ Tryz.underlying29 rfl Tryz.viewSize ?_ | refine wpList_load_blk rfl _ _ rfl _ rfl _ _ Hba.out _ Tryz.underlying39 rfl (Tryz.inoFits HXL.out) ?_)
      refine (HLi.out _ HFa.out).mono ?_; rintro e wb ⟨vb, rfl, hvb, hbb⟩
      have HFb := Lib.hid (HFa.out.below hbb)
      have HVb := Lib.hid (HVa.out.ext hbb)
      have HIb := Lib.hid (Hba.out.ext hbb)
      have Eb := Lib.hid (bt Ea.out hbb)
      have hform : ∀ A c k, vb = .slice A k c → ∀ ad, A = some ad → ∃ gl, ad = ⟨gl, 0, none⟩ := fun A c k h ad had => by
        obtain ⟨_, _, ⟨h1, _⟩ | ⟨g', cap, cur, hv, _⟩⟩ := hvb
        · rw [h1] at h; injection h with h _ _; rw [← h] at had; cases had
        · rw [hv] at h; injection h with h _ _; rw [← h] at had; injection had with had; exact ⟨g', had.symm⟩
      obtain ⟨Al, cl, rfl, _, _, hrb⟩ := hvb.read
      have HRb := Lib.hid hrb
      have HFm := Lib.hid (hform Al cl _ rfl)
      rw [erows_len]
      obtain ⟨m, Hm⟩ : ∃ m, Hid (M.length = m) := ⟨_, Lib.hid rfl⟩
      rw [Hm.out] at HM2 ⊢
      have hm2 := HM2.out
      clear hform hvb hbb hrb HFa HVa Hba Ea HLi
      go_wp2_with fail
      go_loopw [11, 12] (fun b z wr => ∃ k : Nat, k ≤ m ∧ z = .int .i64 k ∧ b = .bool (anyE (M.take k) s) ∧ Hid (Below w.heap.size w wr) ∧ Hid (FV wr l f (bkV L)) ∧ Hid (Blk wr g2 29 (vval l f)) ∧ Hid (Blk wr gi 39 (icells X)) ∧ Hid (RN wr Al 2 (erows M))) (fun _ z _ => m - (intOf z).toNat)
      case atStart => exact ⟨0, Nat.zero_le _, rfl, rfl, Eb, HFb, HVb, HIb, HRb⟩
      case round =>
        obtain ⟨k, hk, rfl, rfl, E, HF, HV, HI, HR⟩ := hrel
        by_cases hlt : k < m
        · have hkl : k < M.length := by rw [Hm.out]; exact hlt
          have d2 : decide ((k : Int) < (m : Int)) = true := by simp; omega
          have p0 : (0 : Int) ≤ (k : Int) := by omega
          have p1 : (k : Int) < (m : Int) := by omega
          obtain ⟨ad, rfl⟩ := HR.out.adr (k := k) (by rw [erows_len]; exact hkl) (by decide)
          obtain ⟨gl, rfl⟩ := HFm.out ad rfl
          have HNx := Lib.hid (anyE_next hkl s)
          have hmem := List.getElem_mem hkl
          obtain ⟨pa, pb, hpk⟩ := HSl.out _ hmem
          have hxz := HSz.out _ hmem
          have hrow : (erows M)[k]? = some (erow M[k]) := erow_at (List.getElem?_eq_getElem hkl)
          have hgk := List.getElem?_eq_getElem hkl
          obtain ⟨x, hx⟩ : ∃ x, M[k] = x := ⟨_, rfl⟩
          rw [hx] at HNx hpk hxz hrow hgk
          have HGk := Lib.hid hgk
          have HG := Lib.hid hrow
          have HLx1 := Lib.hid (fun w h => HLk.out x.name hxz w h)
          rw [hpk] at HLx1
          have HLx2 : Hid (∀ w : World, FV w l f (bkV L) → Calls Tryz.prog 11 #[.agg (vval l f), .agg (icells X), .string x.name] w fun e w' => e = .returned (.tuple #[.agg (icells [pa, pb, x.ino]), .bool true]) ∧ Below w.heap.size w w') := HLx1
          have H3 := Lib.hid (show ([pa, pb, x.ino] : List Int).length = 3 from rfl)
          clear hmem hpk hxz hrow HLx1 hgk hx
          go_wp2_with fail
          refine WH.start (S := fun w' : World => Blk w' g2 29 (vval l f) ∧ Blk w' gi 39 (icells X) ∧ RN w' (some ⟨gl, 0, none⟩) 2 (erows M)) [false, false, false, false, false, false, false, false, false, false, false, false, false, false] 14 rfl rfl (by kernel_rfl) ⟨HV.out.ext (bdrew wr 1), HI.out.ext (bdrew wr 1), HR.out.below (bdrew wr 1)⟩ (fun hSn => ?_); obtain ⟨wS, hwS⟩ : ∃ x, (wr).drew = x := ⟨_, rfl⟩; have HE := Lib.hid (show Below (wr).heap.size (wr) wS from hwS ▸ bdrew wr 1); rw [hwS] at hSn ⊢; clear hwS
          refine WH.tv 0 rfl (fun w' hSw => exec_load_blk _ _ rfl _ rfl _ _ (hSw.1) _ (Tryz.underlying29) rfl (Tryz.viewSize)) ?_; simp only [setL]
          refine WH.tv 1 rfl (fun w' hSw => exec_load_blk _ _ rfl _ rfl _ _ (hSw.2.1) _ (Tryz.underlying39) rfl ((Tryz.inoFits HXL.out))) ?_; simp only [setL]
          refine WH.tk 2 ?_; simp only [setL]
          refine WH.tk 3 ?_; simp only [setL]
          refine WH.tk 4 ?_; simp only [setL]
          refine WH.tk 5 ?_; simp only [setL]
          refine WH.tv 6 rfl (fun w' hSw => exec_load_cell _ _ rfl ⟨gl, k * 2, none⟩ rfl _ (hSw.2.2.cell0 HG.out rfl (j := 0) rfl) _ Tryz.underlying9 rfl) ?_; simp only [setL]
          refine WH.two 7 11 _ _ rfl rfl (by kernel_rfl) rfl rfl (fun K hK => ?_) (fun K hK => ?_)
          focus
            go_simp; refine (HLx2.out _ (HF.out.below HE.out)).mono ?_; rintro e wT ⟨rfl, hbT⟩; go_simp
            have HE := Lib.hid (bt HE.out hbT)
            have hT := And.intro (hSn.1.ext hbT) (And.intro (hSn.2.1.ext hbT) (hSn.2.2.below hbT))
            have hSn := hT; refine hK _ _ hSn ?_; clear hK; clear K; simp only [setL]
            refine WH.tk 8 ?_; simp only [setL]
            refine WH.tk 9 ?_; simp only [setL]
            refine WH.tk 10 ?_; simp only [setL]
            refine WH.only 11 _ rfl (by kernel_rfl) rfl (fun K hK => ?_)
            refine ow_alloc _ rfl _ Tryz.plZero ?_
            apply Stop.go; intro wU Hgu Hbu
            have hSn := And.intro (hT.1.ext Hgu.out.1) (And.intro (hT.2.1.ext Hgu.out.1) (hT.2.2.below Hgu.out.1)); refine hK _ _ hSn ?_; clear hK; clear K; simp only [setL]
            refine WH.only 12 _ rfl (by kernel_rfl) rfl (fun K hK => ?_)
            refine ow_store _ _ _ rfl _ _ rfl rfl _ _ Hbu.out (Tryz.plFits H3.out) (icells_sizes Hz.out H3.out) (oneCell_icells _) ?_
            apply Stop.go; intro wZ Hoz HPz
            have D := Lib.hid (bonly Hgu.out.1 Hoz.out (Nat.le_refl _))
            have HE := Lib.hid (bt HE.out D.out)
            have hZ := And.intro (hT.1.ext D.out) (And.intro (hT.2.1.ext D.out) (hT.2.2.below D.out))
            generalize wT.heap.size = gp at *
            have hSn := hZ; refine hK _ _ hSn ?_; clear hK; clear K; simp only [setL]
            refine WH.tk 13 ?_; simp only [setL]
            refine WH.done (by kernel_rfl) ?_
            clear hT Hgu Hbu Hoz D hZ hbT
          rotate_left
          focus
            refine ow_alloc _ rfl _ Tryz.plZero ?_
            apply Stop.go; intro wT Hgu Hbu
            have hT := hSn
            have hSn := And.intro (hT.1.ext Hgu.out.1) (And.intro (hT.2.1.ext Hgu.out.1) (hT.2.2.below Hgu.out.1)); refine hK _ _ hSn ?_; clear hK; clear K; simp only [setL]
            refine WH.only 7 _ rfl (by kernel_rfl) rfl (fun K hK => ?_)
            go_simp; refine (HLx2.out _ (HF.out.below (bt HE.out Hgu.out.1))).mono ?_; rintro e wU ⟨rfl, hbU⟩; go_simp
            have hd := bt Hgu.out.1 hbU
            have Hbu := Lib.hid (Hbu.out.ext hbU)
            have hSn := And.intro (hT.1.ext hd) (And.intro (hT.2.1.ext hd) (hT.2.2.below hd)); refine hK _ _ hSn ?_; clear hK; clear K; simp only [setL]
            refine WH.tk 8 ?_; simp only [setL]
            refine WH.tk 9 ?_; simp only [setL]
            refine WH.tk 10 ?_; simp only [setL]
            refine WH.only 12 _ rfl (by kernel_rfl) rfl (fun K hK => ?_)
            refine ow_store _ _ _ rfl _ _ rfl rfl _ _ Hbu.out (Tryz.plFits H3.out) (icells_sizes Hz.out H3.out) (oneCell_icells _) ?_
            apply Stop.go; intro wZ Hoz HPz
            have D := Lib.hid (bonly hd Hoz.out (Nat.le_refl _))
            have HE := Lib.hid (bt HE.out D.out)
            have hZ := And.intro (hT.1.ext D.out) (And.intro (hT.2.1.ext D.out) (hT.2.2.below D.out))
            generalize wS.heap.size = gp at *
            have hSn := hZ; refine hK _ _ hSn ?_; clear hK; clear K; simp only [setL]
            refine WH.tk 13 ?_; simp only [setL]
            refine WH.done (by kernel_rfl) ?_
            clear hT Hgu Hbu Hoz D hZ hd hbU
          all_goals
            have HVz := Lib.hid hSn.1
            have HIz := Lib.hid hSn.2.1
            have HRz := Lib.hid hSn.2.2
            have Ez := Lib.hid (bt E.out HE.out)
            have HFz := Lib.hid (HF.out.below HE.out)
            clear hSn HE E HF HV HI HR HLx2
            have c2 : wZ.cell? ⟨gp, 2, none⟩ = some (.int .i64 x.ino) := HPz.out.fld 2 (by rw [H3.out]; omega)
            have cx1 : wZ.cell? ⟨gl, k * 2 + 1, none⟩ = some (.int .i64 x.ino) := HRz.out.cell0 HG.out rfl (j := 1) rfl
            have cx0 : wZ.cell? ⟨gl, k * 2, none⟩ = some (.string x.name) := HRz.out.cell0 HG.out rfl (j := 0) rfl
            have un : (x.ino != x.ino) = false := by simp
            clear HG
            rcases Nat.eq_zero_or_pos k with hk0 | hk0
            focus
              have dk : decide ((0 : Int) < (k : Int)) = false := by simp; omega
              have dkn : decide (0 < k) = false := by simp; omega
              clear hk0
              go_wp2_with fail
              go_quiet (fail)
              clear dk dkn
            rotate_left
            focus
              obtain ⟨j, hj⟩ : ∃ j, k = j + 1 := ⟨k - 1, by omega⟩
              have dk : decide ((0 : Int) < (k : Int)) = true := by simp; omega
              have dkn : decide (0 < k) = true := by simp; omega
              have ej : (k : Int) - 1 = (j : Int) := by omega
              have pj0 : (0 : Int) ≤ (j : Int) := by omega
              have pj1 : (j : Int) < (m : Int) := by omega
              have hjl : j < M.length := by rw [Hm.out]; omega
              obtain ⟨y, hy⟩ : ∃ y, M[j]? = some y := ⟨_, List.getElem?_eq_getElem hjl⟩
              have hly : ltS y.name x.name = true := HUp.out j y x hy (by rw [← hj]; exact HGk.out)
              unfold ltS at hly
              have cy0 : wZ.cell? ⟨gl, j * 2, none⟩ = some (.string y.name) := HRz.out.cell0 (erow_at hy) rfl (j := 0) rfl
              clear hjl hy hj hk0
              go_wp2_with fail
              go_quiet (fail)
              clear dk dkn ej pj0 pj1 hly cy0
            all_goals
              obtain ⟨wq, hwq⟩ : ∃ x, wZ.drewN nq = x := ⟨_, rfl⟩
              have Dq := bdrew wZ nq
              rw [hwq] at Dq ⊢
              have HVq := Lib.hid (HVz.out.ext Dq)
              have HIq := Lib.hid (HIz.out.ext Dq)
              have HRq := Lib.hid (HRz.out.below Dq)
              have HFq := Lib.hid (HFz.out.below Dq)
              have Eq := Lib.hid (bt Ez.out Dq)
              have c0q : wq.cell? ⟨gl, k * 2, none⟩ = some (.string x.name) := (Dq.cell (block_lt_of_cell cx0)).trans cx0
              clear hwq Dq HVz HIz HRz HFz Ez cx0 cx1 c2 un HPz
              obtain ⟨r, hr⟩ : ∃ r, anyE (M.take k) s = r := ⟨_, rfl⟩
              rw [hr] at HNx ⊢
              obtain ⟨q, hq⟩ : ∃ q, (x.name.toList == s.toList) = q := ⟨_, rfl⟩
              have HNz := Lib.hid (show anyE (M.take (k + 1)) s = (r || q) by rw [HNx.out, ← text_eq, hq])
              clear HNx hr
              cases r
              · go_wp2_with fail
                go_roundw
                case rel => exact ⟨k + 1, by omega, by go_num, by rw [HNz.out]; rfl, Eq, HFq, HVq, HIq, HRq⟩
                case measure => simp [intOf]; omega
              · go_wp2_with fail
                go_roundw
                case rel => exact ⟨k + 1, by omega, by go_num, by rw [HNz.out]; rfl, Eq, HFq, HVq, HIq, HRq⟩
                case measure => simp [intOf]; omega
        · obtain rfl : k = m := by omega
          have d2 : decide ((k : Int) < (k : Int)) = false := by simp
          have HTk := Lib.hid (show M.take k = M by rw [← Hm.out, List.take_length])
          rw [HTk.out, ← HFo.out]
          have HLn := Lib.hid (fun w h => HLk.out s Hs.out w h)
          generalize orZ (lkD l (bkV L) X s) = lp at *
          generalize (lkD l (bkV L) X s).isSome = lb at *
          clear HTk HLk HSl HSz HUp HFo HR
          go_wp2_with (first | refine wpList_load_blk rfl _ _ rfl _ rfl _ _ HV.out _ Tryz.underlying29 rfl Tryz.viewSize ?_ | refine wpList_load_blk rfl _ _ rfl _ rfl _ _ HI.out _ Tryz.underlying39 rfl (Tryz.inoFits HXL.out) ?_)
          refine (HLn.out _ HF.out).mono ?_; rintro e wc ⟨rfl, hbc⟩
          have HFc := Lib.hid (HF.out.below hbc)
          have HVc := Lib.hid (HV.out.ext hbc)
          have HIc := Lib.hid (HI.out.ext hbc)
          have Ec := Lib.hid (bt E.out hbc)
          clear hbc HF HV HI E HLn
          go_wp2_with (refine wpList_alloc_row rfl _ rfl _ Tryz.plZero ?_)
          apply Stop.go; intro wd Hgd Hbd
          go_wp2_with (refine wpList_store_arr rfl _ _ _ rfl _ _ rfl rfl _ _ Hbd.out (Tryz.plFits HkL.out) (icells_sizes Hz.out HkL.out) (oneCell_icells _) ?_)
          apply Stop.go; intro we Hoe Hbe
          have D := Lib.hid (bonly Hgd.out.1 Hoe.out (Nat.le_refl _))
          have HFe := Lib.hid (HFc.out.below D.out)
          have HVe := Lib.hid (HVc.out.ext D.out)
          have HIe := Lib.hid (HIc.out.ext D.out)
          have Ee := Lib.hid (bt Ec.out D.out)
          generalize wc.heap.size = gp at *
          clear Hgd Hbd Hoe Hbe D HFc HVc HIc Ec
          go_wp2_with (first | refine wpList_load_blk rfl _ _ rfl _ rfl _ _ HVe.out _ Tryz.underlying29 rfl Tryz.viewSize ?_ | refine wpList_load_blk rfl _ _ rfl _ rfl _ _ HIe.out _ Tryz.underlying39 rfl (Tryz.inoFits HXL.out) ?_)
          refine (HLo.out _ HFe.out).mono ?_; rintro e wf ⟨vf, rfl, hvf, hbf⟩
          have HFf := Lib.hid (HFe.out.below hbf)
          have HVf := Lib.hid (HVe.out.ext hbf)
          have HIf := Lib.hid (HIe.out.ext hbf)
          have Ef := Lib.hid (bt Ee.out hbf)
          obtain ⟨Af, cf, rfl, _, _, hrf⟩ := hvf.ints
          have HRf := Lib.hid hrf
          obtain ⟨q, Hq⟩ : ∃ q, Hid (LD.length = q) := ⟨_, Lib.hid rfl⟩
          rw [Hq.out] at HL2 ⊢
          have hq32 := HL2.out
          obtain ⟨ns, Hns⟩ : ∃ q, Hid (SD.length = q) := ⟨_, Lib.hid rfl⟩
          rw [Hns.out] at HLs HS2
          have hs224 := HS2.out
          rw [Hm.out] at HLs
          have HPre := Lib.hid (fun j => show 0 ≤ (LD.take j).sum ∧ (LD.take j).sum ≤ 224 by
            have h := sum_small (t := LD.take j) fun x hx => HLx.out x (List.mem_of_mem_take hx)
            rw [List.length_take] at h
            have := Hq.out
            omega)
          clear hvf hbf hrf HFe HVe HIe Ee HLo
          go_wp2_with fail
          go_loopw [17, 19] (fun a z wr => ∃ j : Nat, j ≤ q ∧ z = .int .i64 j ∧ a = .int .i64 (LD.take j).sum ∧ wr = wf) (fun _ z _ => q - (intOf z).toNat)
          case atStart => exact ⟨0, Nat.zero_le _, rfl, rfl, rfl⟩
          case round =>
            obtain ⟨j, hj, rfl, rfl, rfl⟩ := hrel
            by_cases hlj : j < q
            · have hjl : j < LD.length := by rw [Hq.out]; exact hlj
              have d3 : decide ((j : Int) < (q : Int)) = true := by simp; omega
              have q0 : (0 : Int) ≤ (j : Int) := by omega
              have q1 : (j : Int) < (q : Int) := by omega
              obtain ⟨ad, rfl, hc⟩ := HRf.out.int j hjl
              rw [ints_at hjl] at hc
              have HSn := Lib.hid (sum_take hjl)
              have hx1 := HLx.out (fld LD j) (by rw [← ints_at hjl]; exact List.getElem_mem hjl)
              have hs1 := HPre.out j
              obtain ⟨hx2, hx3⟩ := hx1
              obtain ⟨hs2, hs3⟩ := hs1
              generalize fld LD j = x at *
              obtain ⟨S, hS⟩ : ∃ S, (LD.take j).sum = S := ⟨_, rfl⟩
              rw [hS] at HSn hs2 hs3 ⊢
              clear hS hjl
              go_wp2_with fail
              go_roundw
              case rel => exact ⟨j + 1, by omega, by go_num, by rw [HSn.out], by first | trivial | rfl⟩
              case measure => simp [intOf]; omega
            · obtain rfl : j = q := by omega
              have d3 : decide ((j : Int) < (j : Int)) = false := by simp
              have HTj := Lib.hid (show LD.take j = LD by rw [← Hq.out, List.take_length])
              rw [HTj.out, HLs.out]
              have u1 : (lb == lb) = true := by simp
              have u2 : (((k : Int) + (ns : Int)) == ((k : Int) + (ns : Int))) = true := by simp
              clear HTj HRf HPre HLx
              go_wp2_with (first | refine wpList_load_blk rfl _ _ rfl _ rfl _ _ HVf.out _ Tryz.underlying29 rfl Tryz.viewSize ?_ | refine wpList_load_blk rfl _ _ rfl _ rfl _ _ HIf.out _ Tryz.underlying39 rfl (Tryz.inoFits HXL.out) ?_)
              refine (HSt.out _ HFf.out).mono ?_; rintro e wg ⟨vg, rfl, hvg, hbg⟩
              obtain ⟨Ag, cg, rfl, _, _, _⟩ := hvg.read
              rw [irows_len, Hns.out]
              have Eg := Lib.hid (bt Ef.out hbg)
              clear hvg hbg HFf HVf HIf Ef HSt
              go_wp2_with fail
              refine (hw _).mono ?_; rintro e wh ⟨rfl, hbh⟩
              go_wp2_with fail
              go_ret
              exact ⟨rfl, bt Eg.out hbh⟩

end Go.Proofs.YtbajicgpjggkfaaGreat
