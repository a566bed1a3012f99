/-
  Layer 18: the walk of BucketPatches.
-/
import Derived.Test.YtmojappbgghpbaaLaw18
import Derived.Test.YtmojappbgghpbaaBck4
import Derived.Test.YtmojappbgghpbaaBckO
namespace Go.Proofs.Ytmojappbgghpbaa
open Go.RowKit

set_option maxRecDepth 100000 in
set_option maxHeartbeats 6400000 in
theorem bucketPatches_any (k : Int) (e : En) (he : EnOK e) (w : World) :
    Calls Try.prog 5 #[.int .i64 k, .agg (ecells e)] w fun x w' => x = .returned (.bool true) ∧ Below w.heap.size w w' := by
  have Hs := Lib.hid he.1
  have HPa := Lib.hid (fun w => bput_any k e he.1 w)
  have HCa := Lib.hid (fun w => bclear_any k w)
  have HQa := Lib.hid (fun w => bpoint_any k e.ino w)
  have HMa := Lib.hid (fun w => rmay18_any e he.1 w)
  have HBa := Lib.hid (fun (h : mayE e = true) w => rbytes18_any e h w)
  have HBl := Lib.hid (fun (h : mayE e = true) => bytesE_len h)
  have HMi := Lib.hid (fun (h : mayE e = true) => (mayE_iff.1 h).2)
  obtain ⟨a1, D1, hp1⟩ : ∃ a D, putT k e = ⟨a, D⟩ := ⟨_, _, rfl⟩
  obtain ⟨a2, D2, hp2⟩ : ∃ a D, clrT k = ⟨a, D⟩ := ⟨_, _, rfl⟩
  obtain ⟨a3, D3, hp3⟩ : ∃ a D, poiT k e.ino = ⟨a, D⟩ := ⟨_, _, rfl⟩
  obtain ⟨r1, hr1⟩ : ∃ r, putC k e = r := ⟨_, rfl⟩
  obtain ⟨r2, hr2⟩ : ∃ r, clrC k = r := ⟨_, rfl⟩
  obtain ⟨r3, hr3⟩ : ∃ r, poiC k e.ino = r := ⟨_, rfl⟩
  rw [hp1, hr1] at HPa
  rw [hp2, hr2] at HCa
  rw [hp3, hr3] at HQa
  have Hp := Lib.hid (show (putT k e = ⟨a1, D1⟩ ∧ putC k e = r1) ∧ (clrT k = ⟨a2, D2⟩ ∧ clrC k = r2) ∧ (poiT k e.ino = ⟨a3, D3⟩ ∧ poiC k e.ino = r3) from ⟨⟨hp1, hr1⟩, ⟨hp2, hr2⟩, hp3, hr3⟩)
  obtain ⟨s, i⟩ := e
  have Hi := Lib.hid (show -9223372036854775808 ≤ i ∧ i < 9223372036854775808 from he.2)
  clear hp1 hp2 hp3 hr1 hr2 hr3 he
  have Hs : Hid (s.size ≤ maxLen) := Hs
  by_cases h60 : 60 < s.size
  · have d0 : decide ((60 : Int) < (s.size : Int)) = true := by simp; omega
    have d1 : decide (60 < s.size) = true := decide_eq_true h60
    clear h60
    go_enter Try.func5, Try.ntmps5
    go_wp2_with (refine wpList_box_row rfl _ _ rfl _ rfl ?_)
    apply Stop.go; intro w1 Hg1 Hb1
    have c0 : w1.cell? ⟨w.heap.size, 0, none⟩ = some (.string s) := Hb1.out.cell 0
    go_wp2_with fail
    refine (works18_any _).mono ?_; rintro e w2 ⟨rfl, hb2⟩
    go_wp2_with fail
    go_ret
    exact ⟨rfl, bt Hg1.out.1 hb2⟩
  · have d0 : decide ((60 : Int) < (s.size : Int)) = false := by simp; omega
    have d1 : decide (60 < s.size) = false := decide_eq_false h60
    clear h60
    go_enter Try.func5, Try.ntmps5
    go_wp2_with (refine wpList_box_row rfl _ _ rfl _ rfl ?_)
    apply Stop.go; intro w1 Hg1 Hb1
    have c0 : w1.cell? ⟨w.heap.size, 0, none⟩ = some (.string s) := Hb1.out.cell 0
    have E1 := Lib.hid Hg1.out.1
    clear Hg1
    go_wp2_with (refine wpList_load_blk rfl _ _ rfl _ rfl _ _ Hb1.out _ Try.underlying39 rfl Try.entSize ?_)
    refine (HPa.out _).mono ?_; rintro e w2 ⟨A1, n1, c1, rfl, hp2, hb2⟩
    have HE2 := Lib.hid (Hb1.out.ext hb2)
    have HP2 := Lib.hid hp2
    have E2 := Lib.hid (bt E1.out hb2)
    have z2 := Lib.hid (show w.heap.size < w2.heap.size from HE2.out.lt)
    clear hb2 hp2 Hb1 E1 c0 HPa
    go_wp2_with (refine wpList_alloc_row rfl _ rfl _ Try.patchZero ?_)
    apply Stop.go; intro w3 Hg3 Hb3
    go_wp2_with (refine wpList_store_arr rfl _ _ _ rfl _ #[.int .i64 a1, .slice A1 n1 c1] rfl rfl _ _ Hb3.out Try.patchSize rfl (by simp [Value.oneCell']) ?_)
    apply Stop.go; intro w4 Ho4 Hb4
    have D4 := Lib.hid (bonly Hg3.out.1 Ho4.out (Nat.le_refl _))
    have HE4 := Lib.hid (HE2.out.ext D4.out)
    have HP4 := Lib.hid (HP2.out.below D4.out)
    have E4 := Lib.hid (bt E2.out D4.out)
    generalize w2.heap.size = g1 at *
    clear Hg3 Hb3 Ho4 D4 HE2 HP2 E2
    go_wp2_with fail
    refine (HCa.out _).mono ?_; rintro e w5 ⟨A2, n2, c2, rfl, hp5, hb5⟩
    have HE5 := Lib.hid (HE4.out.ext hb5)
    have HX5 := Lib.hid (Hb4.out.ext hb5)
    have HP5 := Lib.hid (HP4.out.below hb5)
    have HC5 := Lib.hid hp5
    have E5 := Lib.hid (bt E4.out hb5)
    have z5 := Lib.hid (show w.heap.size < g1 ∧ g1 < w5.heap.size from ⟨z2.out, HX5.out.lt⟩)
    clear hb5 hp5 HE4 Hb4 HP4 E4 z2 HCa
    go_wp2_with (refine wpList_alloc_row rfl _ rfl _ Try.patchZero ?_)
    apply Stop.go; intro w6 Hg6 Hb6
    go_wp2_with (refine wpList_store_arr rfl _ _ _ rfl _ #[.int .i64 a2, .slice A2 n2 c2] rfl rfl _ _ Hb6.out Try.patchSize rfl (by simp [Value.oneCell']) ?_)
    apply Stop.go; intro w7 Ho7 Hb7
    have D7 := Lib.hid (bonly Hg6.out.1 Ho7.out (Nat.le_refl _))
    have HE7 := Lib.hid (HE5.out.ext D7.out)
    have HX7 := Lib.hid (HX5.out.ext D7.out)
    have HP7 := Lib.hid (HP5.out.below D7.out)
    have HC7 := Lib.hid (HC5.out.below D7.out)
    have E7 := Lib.hid (bt E5.out D7.out)
    generalize w5.heap.size = g2 at *
    clear Hg6 Hb6 Ho7 D7 HE5 HX5 HP5 HC5 E5
    have c1 : w7.cell? ⟨w.heap.size, 1, none⟩ = some (.int .i64 i) := HE7.out.cell 1
    go_wp2_with fail
    refine (HQa.out _).mono ?_; rintro e w8 ⟨A3, n3, c3, rfl, hp8, hb8⟩
    have HE8 := Lib.hid (HE7.out.ext hb8)
    have HX8 := Lib.hid (HX7.out.ext hb8)
    have HY8 := Lib.hid (Hb7.out.ext hb8)
    have HP8 := Lib.hid (HP7.out.below hb8)
    have HC8 := Lib.hid (HC7.out.below hb8)
    have HQ8 := Lib.hid hp8
    have E8 := Lib.hid (bt E7.out hb8)
    clear hb8 hp8 HE7 HX7 Hb7 HP7 HC7 E7 c1 HQa
    go_wp2_with (refine wpList_alloc_row rfl _ rfl _ Try.patchZero ?_)
    apply Stop.go; intro w9 Hg9 Hb9
    go_wp2_with (refine wpList_store_arr rfl _ _ _ rfl _ #[.int .i64 a3, .slice A3 n3 c3] rfl rfl _ _ Hb9.out Try.patchSize rfl (by simp [Value.oneCell']) ?_)
    apply Stop.go; intro wa Hoa HZa
    have Da := Lib.hid (bonly Hg9.out.1 Hoa.out (Nat.le_refl _))
    have HEa := Lib.hid (show Blk wa w.heap.size 39 #[.string s, .int .i64 i] from HE8.out.ext Da.out)
    have HXa := Lib.hid (HX8.out.ext Da.out)
    have HYa := Lib.hid (HY8.out.ext Da.out)
    have HPp := Lib.hid (HP8.out.below Da.out)
    have HPc := Lib.hid (HC8.out.below Da.out)
    have HPq := Lib.hid (HQ8.out.below Da.out)
    have Ea := Lib.hid (bt E8.out Da.out)
    generalize w8.heap.size = g3 at *
    clear Hg9 Hb9 Hoa Da HE8 HX8 HY8 HP8 HC8 HQ8 E8 z5
    cases hsl : slotB k
    · have h1 := putT_no ⟨s, i⟩ hsl
      have h2 := clrT_no hsl
      have h3 := poiT_no i hsl
      obtain ⟨⟨q1, q2⟩, ⟨q3, q4⟩, q5, q6⟩ := Hp.out
      rw [h1.1] at q1
      rw [h1.2] at q2
      rw [h2.1] at q3
      rw [h2.2] at q4
      rw [h3.1] at q5
      rw [h3.2] at q6
      injection q1 with q1 q1'
      injection q3 with q3 q3'
      injection q5 with q5 q5'
      subst q1; subst q1'; subst q2; subst q3; subst q3'; subst q4; subst q5; subst q5'; subst q6
      obtain rfl : n1 = 0 := HPp.out.len.symm
      obtain rfl : n2 = 0 := HPc.out.len.symm
      obtain rfl : n3 = 0 := HPq.out.len.symm
      have x0 : wa.cell? ⟨g1, 0, none⟩ = some (.int .i64 0) := HXa.out.cell 0
      have x1 : wa.cell? ⟨g1, 1, none⟩ = some (.slice A1 0 c1) := HXa.out.cell 1
      have y0 : wa.cell? ⟨g2, 0, none⟩ = some (.int .i64 0) := HYa.out.cell 0
      have y1 : wa.cell? ⟨g2, 1, none⟩ = some (.slice A2 0 c2) := HYa.out.cell 1
      have z0 : wa.cell? ⟨g3, 0, none⟩ = some (.int .i64 0) := HZa.out.cell 0
      have z1 : wa.cell? ⟨g3, 1, none⟩ = some (.slice A3 0 c3) := HZa.out.cell 1
      clear h1 h2 h3 Hp HPp HPc HPq HXa HYa HZa HEa HMa HBa HBl HMi
      rcases slotB_false hsl with h | h
      focus (
        have d2 : decide (k < 0) = true := by simpa using h)
      rotate_left
      focus (
        have d2 : decide (k < 0) = false := by simp; omega
        have d3 : decide (6 < k) = true := by simp; omega)
      rotate_left
      all_goals
        clear hsl h
        go_wp2_with fail
        refine (works18_any _).mono ?_; rintro e wb ⟨rfl, hbb⟩
        go_wp2_with fail
        go_ret
        exact ⟨rfl, bt Ea.out hbb⟩
    · obtain ⟨q, hq, rfl⟩ := slotB_true hsl
      have h2 := clrT_yes hsl
      have hps := fun h => putT_yes (k := (q : Int)) (e := ⟨s, i⟩) hsl h
      have hpn := fun h => putT_not (k := (q : Int)) (e := ⟨s, i⟩) hsl h
      have hqs := fun h => poiT_yes (k := (q : Int)) (i := i) hsl h
      have hqn := fun h => poiT_not (k := (q : Int)) (i := i) hsl h
      have hw1 : IntKind.i64.wrap (32 * (q : Int)) = 32 * (q : Int) := IntWalk.i64_in _ (by omega)
      obtain ⟨o, ho⟩ : ∃ o : Int, 32 + 32 * (q : Int) = o := ⟨_, rfl⟩
      have hw3 : IntKind.i64.wrap (32 + 32 * (q : Int)) = o := by
        rw [ho]
        exact IntWalk.i64_in _ (by omega)
      rw [ho] at h2 hps hqs
      have HPs := Lib.hid hps
      have HPn := Lib.hid hpn
      have HQs := Lib.hid hqs
      have HQn := Lib.hid hqn
      obtain ⟨⟨q1, q2⟩, ⟨q3, q4⟩, q5, q6⟩ := Hp.out
      rw [h2.1] at q3
      rw [h2.2] at q4
      injection q3 with q3 q3'
      subst q3; subst q3'; subst q4
      have Hp1 := Lib.hid (And.intro q1 q2)
      have Hp3 := Lib.hid (And.intro q5 q6)
      obtain rfl : n2 = 32 := HPc.out.len.symm.trans (zeros_len 32)
      have d2 : decide ((q : Int) < 0) = false := decide_eq_false (by omega)
      have d3 : decide (6 < (q : Int)) = false := decide_eq_false (by omega)
      have d4 : decide (6 < q) = false := decide_eq_false (by omega)
      have d5 : (o != o) = false := by simp
      have HzL : Hid ((zeros 32).length = 32) := Lib.hid (zeros_len _)
      obtain ⟨Z, hZ⟩ : ∃ Z, zeros 32 = Z := ⟨_, rfl⟩
      rw [hZ] at HzL HPc
      have HZ := Lib.hid hZ
      clear hsl h2 hps hpn hqs hqn ho Hp q1 q2 q5 q6 hZ
      go_wp2_with fail
      refine WH.start (S := fun w' : World => Blk w' g2 55 #[.int .i64 o, .slice A2 32 c2]) [false, false, false, false, false, false, false, false, false, false, false, false, false, false, false, false, false] 17 rfl rfl (by kernel_rfl) (HYa.out.ext (bdrew wa 1)) (fun hSn => ?_); obtain ⟨wS, hwS⟩ : ∃ x, (wa).drew = x := ⟨_, rfl⟩; have HE := Lib.hid (show Below (wa).heap.size (wa) wS from hwS ▸ bdrew wa 1); rw [hwS] at hSn ⊢; clear hwS
      refine WH.tk 0 ?_; simp only [setL]
      refine WH.tk 1 ?_; simp only [setL]
      refine WH.tk 2 ?_; simp only [setL]
      refine WH.tk 3 ?_; simp only [setL]
      refine WH.tv 4 rfl (fun w' hSw => exec_load_cell _ _ rfl _ rfl (.int .i64 o) (hSw.cell 0) _ Try.underlying3 rfl) ?_; simp only [setL]
      refine WH.tk 5 ?_; simp only [setL]
      refine WH.tk 6 ?_; simp only [setL]
      refine WH.tk 7 ?_; simp only [setL]
      refine WH.tk 8 ?_; simp only [setL]
      refine WH.tk 9 ?_; simp only [setL]
      refine WH.tk 10 ?_; simp only [setL]
      refine WH.tk 11 ?_; simp only [setL]
      refine WH.tv 12 rfl (fun w' hSw => exec_load_cell _ _ rfl _ rfl (.slice A2 32 c2) (hSw.cell 1) _ Try.underlying30 rfl) ?_; simp only [setL]
      refine WH.only 13 _ rfl (by kernel_rfl) rfl (fun K hK => ?_)
      refine ow_make_bytes _ _ _ _ rfl Try.underlying30 Try.byteInfo .i64 .i64 _ _ 32 rfl rfl rfl rfl (by decide) ?_
      apply Stop.go; intro wb Hgb Hbb
      rw [HZ.out] at Hbb
      have HE := Lib.hid (bt HE.out Hgb.out.1)
      have HPb := Lib.hid (HPc.out.below HE.out)
      have hSn := hSn.ext Hgb.out.1; refine hK _ _ hSn ?_; clear hK; clear K; simp only [setL]
      refine WH.only 14 _ rfl (by kernel_rfl) rfl (fun K hK => ?_)
      go_simp; refine (same_any _ 32 _ Z HzL.out _ 32 _ Z HzL.out (by unfold maxLen; omega) (by unfold maxLen; omega) _ HPb.out.read (RB.of_blk0 Hbb.out)).mono ?_; rintro e wc ⟨rfl, kc, rfl⟩; go_simp
      have HE := Lib.hid (bt HE.out (bdrew wb kc))
      have hSn := hSn.ext (bdrew wb kc); refine hK _ _ hSn ?_; clear hK; clear K; simp only [setL]
      refine WH.tk 15 ?_; simp only [setL]
      refine WH.tk 16 ?_; simp only [setL]
      refine WH.done (by kernel_rfl) ?_
      have HEb := Lib.hid (HEa.out.ext HE.out)
      have HXb := Lib.hid (HXa.out.ext HE.out)
      have HZb := Lib.hid (HZa.out.ext HE.out)
      have HPr := Lib.hid (HPp.out.below HE.out)
      have HQr := Lib.hid (HPq.out.below HE.out)
      have Eb := Lib.hid (bt Ea.out HE.out)
      clear HE hSn HPb Hbb Hgb HEa HXa HYa HZa HPp HPc HPq Ea HZ HzL
      generalize wb.drewN kc = wd at *
      go_wp2_with fail
      cases hm : mayE ⟨s, i⟩
      · have hpy := HPn.out hm
        obtain ⟨q1, q2⟩ := Hp1.out
        rw [hpy.1] at q1
        rw [hpy.2] at q2
        injection q1 with q1 q1'
        subst q1; subst q1'; subst q2
        obtain rfl : n1 = 0 := HPr.out.len.symm
        rw [hm] at HMa
        clear hpy hm Hp1 HPs HPn HPr HBa HBl HMi
        refine WH.start (S := fun w' : World => Blk w' w.heap.size 39 #[.string s, .int .i64 i] ∧ Blk w' g1 55 #[.int .i64 0, .slice A1 0 c1]) [false, false, false, false, false, false, false, false, false, false, false, false, false, false, false, false, false, false, false, false, false, false, false, false, false, false, false, false, false, false, false, false, false, false, false, false, false, false, false, false, false, false, false] 43 rfl rfl (by kernel_rfl) ⟨HEb.out.ext (bdrew wd 1), HXb.out.ext (bdrew wd 1)⟩ (fun hSn => ?_); obtain ⟨wS2, hwS⟩ : ∃ x, (wd).drew = x := ⟨_, rfl⟩; have HE := Lib.hid (show Below (wd).heap.size (wd) wS2 from hwS ▸ bdrew wd 1); rw [hwS] at hSn ⊢; clear hwS
        refine WH.tv 0 rfl (fun w' hSw => exec_load_blk _ _ rfl _ rfl _ _ (hSw.1) _ (Try.underlying39) rfl (Try.entSize)) ?_; simp only [setL]
        refine WH.tk 2 ?_; simp only [setL]
        refine WH.tk 3 ?_; simp only [setL]
        refine WH.only 1 _ rfl (by kernel_rfl) rfl (fun K hK => ?_)
        go_simp; refine (HMa.out _).mono ?_; rintro e we ⟨rfl, hbe⟩; go_simp
        have HE := Lib.hid (bt HE.out hbe)
        have hSn := And.intro (hSn.1.ext hbe) (hSn.2.ext hbe); refine hK _ _ hSn ?_; clear hK; clear K; simp only [setL]
        refine WH.tk 4 ?_; simp only [setL]
        refine WH.tk 5 ?_; simp only [setL]
        refine WH.tv 6 rfl (fun w' hSw => exec_load_blk _ _ rfl _ rfl _ _ (hSw.1) _ (Try.underlying39) rfl (Try.entSize)) ?_; simp only [setL]
        refine WH.only 7 _ rfl (by kernel_rfl) rfl (fun K hK => ?_)
        go_simp; refine (HMa.out _).mono ?_; rintro e wf ⟨rfl, hbf⟩; go_simp
        have HE := Lib.hid (bt HE.out hbf)
        have hSn := And.intro (hSn.1.ext hbf) (hSn.2.ext hbf); refine hK _ _ hSn ?_; clear hK; clear K; simp only [setL]
        refine WH.tk 8 ?_; simp only [setL]
        refine WH.skip 9 _ rfl (by kernel_rfl) (fun _ _ _ h => h) rfl (by assumption) ?_; simp only [setL]
        refine WH.skip 10 _ rfl (by kernel_rfl) (fun _ _ _ h => h) rfl (by assumption) ?_; simp only [setL]
        refine WH.skip 11 _ rfl (by kernel_rfl) (fun _ _ _ h => h) rfl (by assumption) ?_; simp only [setL]
        refine WH.skip 12 _ rfl (by kernel_rfl) (fun _ _ _ h => h) rfl (by assumption) ?_; simp only [setL]
        refine WH.skip 13 _ rfl (by kernel_rfl) (fun _ _ _ h => h) rfl (by assumption) ?_; simp only [setL]
        refine WH.skip 14 _ rfl (by kernel_rfl) (fun _ _ _ h => h) rfl (by assumption) ?_; simp only [setL]
        refine WH.skip 15 _ rfl (by kernel_rfl) (fun _ _ _ h => h) rfl (by assumption) ?_; simp only [setL]
        refine WH.skip 16 _ rfl (by kernel_rfl) (fun _ _ _ h => h) rfl (by assumption) ?_; simp only [setL]
        refine WH.skip 17 _ rfl (by kernel_rfl) (fun _ _ _ h => h) rfl (by assumption) ?_; simp only [setL]
        refine WH.skip 18 _ rfl (by kernel_rfl) (fun _ _ _ h => h) rfl (by assumption) ?_; simp only [setL]
        refine WH.onlySkip 19 _ rfl (by kernel_rfl) rfl (by assumption) ?_; simp only [setL]
        refine WH.onlySkip 20 _ rfl (by kernel_rfl) rfl (by assumption) ?_; simp only [setL]
        refine WH.skip 21 _ rfl (by kernel_rfl) (fun _ _ _ h => h) rfl (by assumption) ?_; simp only [setL]
        refine WH.skip 22 _ rfl (by kernel_rfl) (fun _ _ _ h => h) rfl (by assumption) ?_; simp only [setL]
        refine WH.tk 23 ?_; simp only [setL]
        refine WH.tk 24 ?_; simp only [setL]
        refine WH.tk 25 ?_; simp only [setL]
        refine WH.tv 26 rfl (fun w' hSw => exec_load_blk _ _ rfl _ rfl _ _ (hSw.1) _ (Try.underlying39) rfl (Try.entSize)) ?_; simp only [setL]
        refine WH.only 27 _ rfl (by kernel_rfl) rfl (fun K hK => ?_)
        go_simp; refine (HMa.out _).mono ?_; rintro e wg ⟨rfl, hbg⟩; go_simp
        have HE := Lib.hid (bt HE.out hbg)
        have hSn := And.intro (hSn.1.ext hbg) (hSn.2.ext hbg); refine hK _ _ hSn ?_; clear hK; clear K; simp only [setL]
        refine WH.tk 28 ?_; simp only [setL]
        refine WH.tk 29 ?_; simp only [setL]
        refine WH.tk 30 ?_; simp only [setL]
        refine WH.tk 31 ?_; simp only [setL]
        refine WH.tk 32 ?_; simp only [setL]
        refine WH.tk 33 ?_; simp only [setL]
        refine WH.tv 34 rfl (fun w' hSw => exec_load_cell _ _ rfl _ rfl (.slice A1 0 c1) (hSw.2.cell 1) _ Try.underlying30 rfl) ?_; simp only [setL]
        refine WH.tk 35 ?_; simp only [setL]
        refine WH.tk 36 ?_; simp only [setL]
        refine WH.tv 37 rfl (fun w' hSw => exec_load_cell _ _ rfl _ rfl (.int .i64 0) (hSw.2.cell 0) _ Try.underlying3 rfl) ?_; simp only [setL]
        refine WH.tk 38 ?_; simp only [setL]
        refine WH.tk 39 ?_; simp only [setL]
        refine WH.tk 40 ?_; simp only [setL]
        refine WH.tk 41 ?_; simp only [setL]
        refine WH.tk 42 ?_; simp only [setL]
        refine WH.done (by kernel_rfl) ?_
        have HEc := Lib.hid hSn.1
        have HZc := Lib.hid (HZb.out.ext HE.out)
        have HQc := Lib.hid (HQr.out.below HE.out)
        have Ec := Lib.hid (bt Eb.out HE.out)
        clear HE hSn hbe hbf hbg HEb HXb HZb HQr Eb HMa
        generalize wg = wz at *
        cases hi : inoB i
        · skip
          have hqy := HQn.out hi
          obtain ⟨q5, q6⟩ := Hp3.out
          rw [hqy.1] at q5
          rw [hqy.2] at q6
          injection q5 with q5 q5'
          subst q5; subst q5'; subst q6
          obtain rfl : n3 = 0 := HQc.out.len.symm
          have c1 : wz.cell? ⟨w.heap.size, 1, none⟩ = some (.int .i64 i) := HEc.out.cell 1
          have z0 : wz.cell? ⟨g3, 0, none⟩ = some (.int .i64 0) := HZc.out.cell 0
          have z1 : wz.cell? ⟨g3, 1, none⟩ = some (.slice A3 0 c3) := HZc.out.cell 1
          have hI : i < 1 ∨ 128 < i := by unfold inoB at hi; have := of_decide_eq_false hi; omega
          clear hqy Hp3 HQs HQn hi
          rcases hI with h | h
          focus (
            have f1 : decide (i < 1) = true := by simpa using h)
          rotate_left
          focus (
            have f1 : decide (i < 1) = false := by simp; omega
            have f2 : decide (128 < i) = true := by simpa using h)
          rotate_left
          all_goals
            clear h
            go_wp2_with fail
            refine (works18_any _).mono ?_; rintro e wb ⟨rfl, hbb⟩
            go_wp2_with fail
            go_ret
            exact ⟨rfl, bt Ec.out hbb⟩
        · skip
          have hqy := HQs.out hi
          have hI : 1 ≤ i ∧ i ≤ 128 := by unfold inoB at hi; exact of_decide_eq_true hi
          obtain ⟨q5, q6⟩ := Hp3.out
          rw [hqy.1] at q5
          rw [hqy.2] at q6
          injection q5 with q5 q5'
          subst q5; subst q5'; subst q6
          have HIb := Lib.hid (show i.toNat < 18446744073709551616 by omega)
          have hU : IntKind.u64.wrap i = (i.toNat : Nat) := by
            rw [Int.toNat_of_nonneg (by omega)]
            exact IntWalk.u64_in _ (by omega)
          have HVL := Lib.hid (leBytes_len 2 i.toNat)
          obtain ⟨v, hv⟩ : ∃ v, i.toNat = v := ⟨_, rfl⟩
          rw [hv] at HIb hU HVL HQc
          obtain ⟨V, hV⟩ : ∃ V, leBytes 2 v = V := ⟨_, rfl⟩
          rw [hV] at HVL HQc
          have HBy := Lib.hid (fun w => bytes_any 2 v (by omega) HIb.out w)
          rw [hV] at HBy
          obtain rfl : n3 = 2 := HQc.out.len.symm.trans HVL.out
          have f1 : decide (i < 1) = false := by simp; omega
          have f2 : decide (128 < i) = false := by simp; omega
          have d6 : (o == o) = true := by simp
          have c1 : wz.cell? ⟨w.heap.size, 1, none⟩ = some (.int .i64 i) := HEc.out.cell 1
          clear hqy hI hi hv hV Hp3 HIb HQs HQn
          go_wp2_with fail
          refine WH.start (S := fun w' : World => Blk w' w.heap.size 39 #[.string s, .int .i64 i] ∧ Blk w' g3 55 #[.int .i64 o, .slice A3 2 c3]) [false, false, false, false, false, false, false, false, false, false, false, false, false, false, false, false, false, false, false, false, false, false, false] 23 rfl rfl (by kernel_rfl) ⟨HEc.out.ext (bdrew wz 1), HZc.out.ext (bdrew wz 1)⟩ (fun hSn => ?_); obtain ⟨wT, hwS⟩ : ∃ x, (wz).drew = x := ⟨_, rfl⟩; have HE := Lib.hid (show Below (wz).heap.size (wz) wT from hwS ▸ bdrew wz 1); rw [hwS] at hSn ⊢; clear hwS
          refine WH.tk 0 ?_; simp only [setL]
          refine WH.tk 1 ?_; simp only [setL]
          refine WH.tk 2 ?_; simp only [setL]
          refine WH.tk 3 ?_; simp only [setL]
          refine WH.tv 4 rfl (fun w' hSw => exec_load_cell _ _ rfl _ rfl (.int .i64 o) (hSw.2.cell 0) _ Try.underlying3 rfl) ?_; simp only [setL]
          refine WH.tk 5 ?_; simp only [setL]
          refine WH.tk 6 ?_; simp only [setL]
          refine WH.tk 7 ?_; simp only [setL]
          refine WH.tk 8 ?_; simp only [setL]
          refine WH.tk 9 ?_; simp only [setL]
          refine WH.tk 10 ?_; simp only [setL]
          refine WH.tk 11 ?_; simp only [setL]
          refine WH.tv 12 rfl (fun w' hSw => exec_load_cell _ _ rfl _ rfl (.slice A3 2 c3) (hSw.2.cell 1) _ Try.underlying30 rfl) ?_; simp only [setL]
          refine WH.tk 13 ?_; simp only [setL]
          refine WH.tv 14 rfl (fun w' hSw => exec_load_cell _ _ rfl _ rfl (.int .i64 i) (hSw.1.cell 1) _ Try.underlying3 rfl) ?_; simp only [setL]
          refine WH.tk 15 ?_; simp only [setL]
          refine WH.only 16 _ rfl (by kernel_rfl) rfl (fun K hK => ?_)
          go_simp; refine (HBy.out _).mono ?_; rintro e wk ⟨A8, n8, c8, rfl, hl8, hc8, hm8, hr8, hb8⟩; go_simp
          obtain rfl : n8 = 2 := by rw [← hl8, HVL.out]
          have HE := Lib.hid (bt HE.out hb8)
          have HR8 := Lib.hid hr8
          have HQk := Lib.hid (HQc.out.below HE.out)
          clear hl8 hc8 hm8 hr8
          have hSn := And.intro (hSn.1.ext hb8) (hSn.2.ext hb8); refine hK _ _ hSn ?_; clear hK; clear K; simp only [setL]
          refine WH.only 17 _ rfl (by kernel_rfl) rfl (fun K hK => ?_)
          go_simp; refine (same_any _ 2 _ V HVL.out _ 2 _ V HVL.out (by unfold maxLen; omega) (by unfold maxLen; omega) _ HQk.out.read HR8.out).mono ?_; rintro e wl ⟨rfl, kl, rfl⟩; go_simp
          have HE := Lib.hid (bt HE.out (bdrew wk kl))
          have hSn := And.intro (hSn.1.ext (bdrew wk kl)) (hSn.2.ext (bdrew wk kl)); refine hK _ _ hSn ?_; clear hK; clear K; simp only [setL]
          refine WH.tk 18 ?_; simp only [setL]
          refine WH.tk 19 ?_; simp only [setL]
          refine WH.only 20 _ rfl (by kernel_rfl) rfl (fun K hK => ?_)
          go_simp; refine (works18_any _).mono ?_; rintro e wm ⟨rfl, hbm⟩; go_simp
          have HE := Lib.hid (bt HE.out hbm)
          have hSn := And.intro (hSn.1.ext hbm) (hSn.2.ext hbm); refine hK _ _ hSn ?_; clear hK; clear K; simp only [setL]
          refine WH.tk 21 ?_; simp only [setL]
          refine WH.tk 22 ?_; simp only [setL]
          refine WH.done (by kernel_rfl) ?_
          go_wp2_with fail
          go_ret
          exact ⟨rfl, bt Ec.out HE.out⟩
      · have hpy := HPs.out hm
        obtain ⟨q1, q2⟩ := Hp1.out
        rw [hpy.1] at q1
        rw [hpy.2] at q2
        injection q1 with q1 q1'
        subst q1; subst q1'; subst q2
        have HYL := Lib.hid (HBl.out hm)
        have HBy := Lib.hid (HBa.out hm)
        have hi : inoB i = true := decide_eq_true (HMi.out hm)
        obtain ⟨Y, hY⟩ : ∃ Y, bytesE ⟨s, i⟩ = Y := ⟨_, rfl⟩
        rw [hY] at HYL HBy HPr
        obtain rfl : n1 = 32 := HPr.out.len.symm.trans HYL.out
        rw [hm] at HMa
        have Hi2 := Lib.hid hi
        clear hpy hm Hp1 HPs HPn HBa HBl HMi hY hi
        refine WH.start (S := fun w' : World => Blk w' w.heap.size 39 #[.string s, .int .i64 i] ∧ Blk w' g1 55 #[.int .i64 o, .slice A1 32 c1]) [false, false, false, false, false, false, false, false, false, false, false, false, false, false, false, false, false, false, false, false, false, false, false, false, false, false, false, false, false, false, false, false, false, false, false, false, false, false, false, false, false, false, false] 43 rfl rfl (by kernel_rfl) ⟨HEb.out.ext (bdrew wd 1), HXb.out.ext (bdrew wd 1)⟩ (fun hSn => ?_); obtain ⟨wS2, hwS⟩ : ∃ x, (wd).drew = x := ⟨_, rfl⟩; have HE := Lib.hid (show Below (wd).heap.size (wd) wS2 from hwS ▸ bdrew wd 1); rw [hwS] at hSn ⊢; clear hwS
        refine WH.tv 0 rfl (fun w' hSw => exec_load_blk _ _ rfl _ rfl _ _ (hSw.1) _ (Try.underlying39) rfl (Try.entSize)) ?_; simp only [setL]
        refine WH.tk 2 ?_; simp only [setL]
        refine WH.tk 3 ?_; simp only [setL]
        refine WH.only 1 _ rfl (by kernel_rfl) rfl (fun K hK => ?_)
        go_simp; refine (HMa.out _).mono ?_; rintro e we ⟨rfl, hbe⟩; go_simp
        have HE := Lib.hid (bt HE.out hbe)
        have hSn := And.intro (hSn.1.ext hbe) (hSn.2.ext hbe); refine hK _ _ hSn ?_; clear hK; clear K; simp only [setL]
        refine WH.tk 4 ?_; simp only [setL]
        refine WH.tk 5 ?_; simp only [setL]
        refine WH.tv 6 rfl (fun w' hSw => exec_load_blk _ _ rfl _ rfl _ _ (hSw.1) _ (Try.underlying39) rfl (Try.entSize)) ?_; simp only [setL]
        refine WH.only 7 _ rfl (by kernel_rfl) rfl (fun K hK => ?_)
        go_simp; refine (HMa.out _).mono ?_; rintro e wf ⟨rfl, hbf⟩; go_simp
        have HE := Lib.hid (bt HE.out hbf)
        have hSn := And.intro (hSn.1.ext hbf) (hSn.2.ext hbf); refine hK _ _ hSn ?_; clear hK; clear K; simp only [setL]
        refine WH.tk 8 ?_; simp only [setL]
        refine WH.tk 9 ?_; simp only [setL]
        refine WH.tv 10 rfl (fun w' hSw => exec_load_cell _ _ rfl _ rfl (.int .i64 o) (hSw.2.cell 0) _ Try.underlying3 rfl) ?_; simp only [setL]
        refine WH.tk 11 ?_; simp only [setL]
        refine WH.tk 12 ?_; simp only [setL]
        refine WH.tk 13 ?_; simp only [setL]
        refine WH.tk 14 ?_; simp only [setL]
        refine WH.tk 15 ?_; simp only [setL]
        refine WH.tk 16 ?_; simp only [setL]
        refine WH.tv 17 rfl (fun w' hSw => exec_load_cell _ _ rfl _ rfl (.slice A1 32 c1) (hSw.2.cell 1) _ Try.underlying30 rfl) ?_; simp only [setL]
        refine WH.tv 18 rfl (fun w' hSw => exec_load_blk _ _ rfl _ rfl _ _ (hSw.1) _ (Try.underlying39) rfl (Try.entSize)) ?_; simp only [setL]
        refine WH.only 19 _ rfl (by kernel_rfl) rfl (fun K hK => ?_)
        go_simp; refine (HBy.out _).mono ?_; rintro e wh ⟨A8, n8, c8, rfl, hl8, hc8, hm8, hr8, hb8⟩; go_simp
        obtain rfl : n8 = 32 := by rw [← hl8, HYL.out]
        have HE := Lib.hid (bt HE.out hb8)
        have HR8 := Lib.hid hr8
        have HPh := Lib.hid (HPr.out.below HE.out)
        clear hl8 hc8 hm8 hr8
        have hSn := And.intro (hSn.1.ext hb8) (hSn.2.ext hb8); refine hK _ _ hSn ?_; clear hK; clear K; simp only [setL]
        refine WH.only 20 _ rfl (by kernel_rfl) rfl (fun K hK => ?_)
        go_simp; refine (same_any _ 32 _ Y HYL.out _ 32 _ Y HYL.out (by unfold maxLen; omega) (by unfold maxLen; omega) _ HPh.out.read HR8.out).mono ?_; rintro e wi ⟨rfl, ki, rfl⟩; go_simp
        have HE := Lib.hid (bt HE.out (bdrew wh ki))
        have hSn := And.intro (hSn.1.ext (bdrew wh ki)) (hSn.2.ext (bdrew wh ki)); refine hK _ _ hSn ?_; clear hK; clear K; simp only [setL]
        refine WH.tk 21 ?_; simp only [setL]
        refine WH.tk 22 ?_; simp only [setL]
        refine WH.tk 23 ?_; simp only [setL]
        refine WH.tk 24 ?_; simp only [setL]
        refine WH.tk 25 ?_; simp only [setL]
        refine WH.tv 26 rfl (fun w' hSw => exec_load_blk _ _ rfl _ rfl _ _ (hSw.1) _ (Try.underlying39) rfl (Try.entSize)) ?_; simp only [setL]
        refine WH.only 27 _ rfl (by kernel_rfl) rfl (fun K hK => ?_)
        go_simp; refine (HMa.out _).mono ?_; rintro e wg ⟨rfl, hbg⟩; go_simp
        have HE := Lib.hid (bt HE.out hbg)
        have hSn := And.intro (hSn.1.ext hbg) (hSn.2.ext hbg); refine hK _ _ hSn ?_; clear hK; clear K; simp only [setL]
        refine WH.tk 28 ?_; simp only [setL]
        refine WH.tk 29 ?_; simp only [setL]
        refine WH.skip 30 _ rfl (by kernel_rfl) (fun _ _ _ h => h) rfl (by assumption) ?_; simp only [setL]
        refine WH.skip 31 _ rfl (by kernel_rfl) (fun _ _ _ h => h) rfl (by assumption) ?_; simp only [setL]
        refine WH.skip 32 _ rfl (by kernel_rfl) (fun _ _ _ h => h) rfl (by assumption) ?_; simp only [setL]
        refine WH.skip 33 _ rfl (by kernel_rfl) (fun _ _ _ h => h) rfl (by assumption) ?_; simp only [setL]
        refine WH.skip 34 _ rfl (by kernel_rfl) (fun _ _ _ h => h) rfl (by assumption) ?_; simp only [setL]
        refine WH.skip 35 _ rfl (by kernel_rfl) (fun _ _ _ h => h) rfl (by assumption) ?_; simp only [setL]
        refine WH.skip 36 _ rfl (by kernel_rfl) (fun _ _ _ h => h) rfl (by assumption) ?_; simp only [setL]
        refine WH.skip 37 _ rfl (by kernel_rfl) (fun _ _ _ h => h) rfl (by assumption) ?_; simp only [setL]
        refine WH.skip 38 _ rfl (by kernel_rfl) (fun _ _ _ h => h) rfl (by assumption) ?_; simp only [setL]
        refine WH.skip 39 _ rfl (by kernel_rfl) (fun _ _ _ h => h) rfl (by assumption) ?_; simp only [setL]
        refine WH.skip 40 _ rfl (by kernel_rfl) (fun _ _ _ h => h) rfl (by assumption) ?_; simp only [setL]
        refine WH.tk 41 ?_; simp only [setL]
        refine WH.tk 42 ?_; simp only [setL]
        refine WH.done (by kernel_rfl) ?_
        have HEc := Lib.hid hSn.1
        have HZc := Lib.hid (HZb.out.ext HE.out)
        have HQc := Lib.hid (HQr.out.below HE.out)
        have Ec := Lib.hid (bt Eb.out HE.out)
        have hi := Hi2.out
        clear HE hSn hbe hbf hbg hb8 HEb HXb HZb HQr Eb HMa HPh HR8 HYL HBy HPr Hi2
        generalize wg = wz at *
        have hqy := HQs.out hi
        have hI : 1 ≤ i ∧ i ≤ 128 := by unfold inoB at hi; exact of_decide_eq_true hi
        obtain ⟨q5, q6⟩ := Hp3.out
        rw [hqy.1] at q5
        rw [hqy.2] at q6
        injection q5 with q5 q5'
        subst q5; subst q5'; subst q6
        have HIb := Lib.hid (show i.toNat < 18446744073709551616 by omega)
        have hU : IntKind.u64.wrap i = (i.toNat : Nat) := by
          rw [Int.toNat_of_nonneg (by omega)]
          exact IntWalk.u64_in _ (by omega)
        have HVL := Lib.hid (leBytes_len 2 i.toNat)
        obtain ⟨v, hv⟩ : ∃ v, i.toNat = v := ⟨_, rfl⟩
        rw [hv] at HIb hU HVL HQc
        obtain ⟨V, hV⟩ : ∃ V, leBytes 2 v = V := ⟨_, rfl⟩
        rw [hV] at HVL HQc
        have HBy := Lib.hid (fun w => bytes_any 2 v (by omega) HIb.out w)
        rw [hV] at HBy
        obtain rfl : n3 = 2 := HQc.out.len.symm.trans HVL.out
        have f1 : decide (i < 1) = false := by simp; omega
        have f2 : decide (128 < i) = false := by simp; omega
        have d6 : (o == o) = true := by simp
        have c1 : wz.cell? ⟨w.heap.size, 1, none⟩ = some (.int .i64 i) := HEc.out.cell 1
        clear hqy hI hi hv hV Hp3 HIb HQs HQn
        go_wp2_with fail
        refine WH.start (S := fun w' : World => Blk w' w.heap.size 39 #[.string s, .int .i64 i] ∧ Blk w' g3 55 #[.int .i64 o, .slice A3 2 c3]) [false, false, false, false, false, false, false, false, false, false, false, false, false, false, false, false, false, false, false, false, false, false, false] 23 rfl rfl (by kernel_rfl) ⟨HEc.out.ext (bdrew wz 1), HZc.out.ext (bdrew wz 1)⟩ (fun hSn => ?_); obtain ⟨wT, hwS⟩ : ∃ x, (wz).drew = x := ⟨_, rfl⟩; have HE := Lib.hid (show Below (wz).heap.size (wz) wT from hwS ▸ bdrew wz 1); rw [hwS] at hSn ⊢; clear hwS
        refine WH.tk 0 ?_; simp only [setL]
        refine WH.tk 1 ?_; simp only [setL]
        refine WH.tk 2 ?_; simp only [setL]
        refine WH.tk 3 ?_; simp only [setL]
        refine WH.tv 4 rfl (fun w' hSw => exec_load_cell _ _ rfl _ rfl (.int .i64 o) (hSw.2.cell 0) _ Try.underlying3 rfl) ?_; simp only [setL]
        refine WH.tk 5 ?_; simp only [setL]
        refine WH.tk 6 ?_; simp only [setL]
        refine WH.tk 7 ?_; simp only [setL]
        refine WH.tk 8 ?_; simp only [setL]
        refine WH.tk 9 ?_; simp only [setL]
        refine WH.tk 10 ?_; simp only [setL]
        refine WH.tk 11 ?_; simp only [setL]
        refine WH.tv 12 rfl (fun w' hSw => exec_load_cell _ _ rfl _ rfl (.slice A3 2 c3) (hSw.2.cell 1) _ Try.underlying30 rfl) ?_; simp only [setL]
        refine WH.tk 13 ?_; simp only [setL]
        refine WH.tv 14 rfl (fun w' hSw => exec_load_cell _ _ rfl _ rfl (.int .i64 i) (hSw.1.cell 1) _ Try.underlying3 rfl) ?_; simp only [setL]
        refine WH.tk 15 ?_; simp only [setL]
        refine WH.only 16 _ rfl (by kernel_rfl) rfl (fun K hK => ?_)
        go_simp; refine (HBy.out _).mono ?_; rintro e wk ⟨A8, n8, c8, rfl, hl8, hc8, hm8, hr8, hb8⟩; go_simp
        obtain rfl : n8 = 2 := by rw [← hl8, HVL.out]
        have HE := Lib.hid (bt HE.out hb8)
        have HR8 := Lib.hid hr8
        have HQk := Lib.hid (HQc.out.below HE.out)
        clear hl8 hc8 hm8 hr8
        have hSn := And.intro (hSn.1.ext hb8) (hSn.2.ext hb8); refine hK _ _ hSn ?_; clear hK; clear K; simp only [setL]
        refine WH.only 17 _ rfl (by kernel_rfl) rfl (fun K hK => ?_)
        go_simp; refine (same_any _ 2 _ V HVL.out _ 2 _ V HVL.out (by unfold maxLen; omega) (by unfold maxLen; omega) _ HQk.out.read HR8.out).mono ?_; rintro e wl ⟨rfl, kl, rfl⟩; go_simp
        have HE := Lib.hid (bt HE.out (bdrew wk kl))
        have hSn := And.intro (hSn.1.ext (bdrew wk kl)) (hSn.2.ext (bdrew wk kl)); refine hK _ _ hSn ?_; clear hK; clear K; simp only [setL]
        refine WH.tk 18 ?_; simp only [setL]
        refine WH.tk 19 ?_; simp only [setL]
        refine WH.only 20 _ rfl (by kernel_rfl) rfl (fun K hK => ?_)
        go_simp; refine (works18_any _).mono ?_; rintro e wm ⟨rfl, hbm⟩; go_simp
        have HE := Lib.hid (bt HE.out hbm)
        have hSn := And.intro (hSn.1.ext hbm) (hSn.2.ext hbm); refine hK _ _ hSn ?_; clear hK; clear K; simp only [setL]
        refine WH.tk 21 ?_; simp only [setL]
        refine WH.tk 22 ?_; simp only [setL]
        refine WH.done (by kernel_rfl) ?_
        go_wp2_with fail
        go_ret
        exact ⟨rfl, bt Ec.out HE.out⟩

end Go.Proofs.Ytmojappbgghpbaa
