/-
  Texts of this claim joined: Law12z, Law12lz.
-/
import Derived.Test.YtknbjdldmednlaaGreatLaw12y
import Derived.Deep.CutRange
import Derived.Test.YtknbjdldmednlaaGreatGrF
import Derived.Test.YtknbjdldmednlaaGreatGrC
import Derived.ChangeMaps5

/-
  The walk of CacheSteps.
-/
namespace Go.Proofs.YtknbjdldmednlaaGreat
open Go.RowKit

theorem Tryz.stepInfoZ : (Tryz.prog.info? 42).map (·.size) = some 5 := by kernel_rfl
set_option maxRecDepth 100000 in
set_option maxHeartbeats 16000000 in
theorem cacheSteps_any (A : Option Addr) (n cap : Nat) (l : List Cg) (hn : l.length = n) (hcap : n ≤ cap) (hm : cap ≤ maxLen) (w : World) (hr : RdL RdC w A 5 l) :
    Calls Tryz.prog 3 #[.slice A n cap] w fun e w' => e = .returned (.bool true) ∧ Below w.heap.size w w' := by
  have Hn := Lib.hid hn
  have Hr := Lib.hid hr
  have HM := Lib.hid (much12_any 20 (by decide) A n cap l hn (Nat.le_trans hcap hm) w hr)
  clear hn hr
  go_enter Tryz.func3, Tryz.ntmps3
  go_wp2_with fail
  refine (HM.out).mono ?_; rintro e w1 ⟨rfl, rfl⟩
  cases hmu : muchS l 20
  rotate_left
  · clear hmu
    go_wp2_with fail
    refine (works12_any _).mono ?_; rintro e w2 ⟨rfl, hb2⟩
    have B2 := Lib.hid hb2
    clear hb2
    go_wp2_with fail
    go_ret
    exact ⟨rfl, B2.out⟩
  · obtain ⟨hl20, hsz⟩ := muchS_no hmu
    have HSZ := Lib.hid hsz
    rw [Hn.out] at hl20
    clear hmu hsz
    go_wp2_with fail
    refine (dnew_any 16 (by omega) (by omega) _).mono ?_; rintro e w2 ⟨b, g, rfl, hb2, hg2, hd2, hbw2⟩
    have D2 := Lib.hid hd2
    have B2 := Lib.hid hbw2
    have L2 := Lib.hid (And.intro hb2 hg2)
    clear hb2 hg2 hd2 hbw2
    go_wp2_with fail
    refine (c_new b g w2 D2.out).mono ?_; rintro e w3 ⟨ro3, c, rfl, hc3, ht3⟩
    have lo : Std w w2 (roD b g) := ⟨B2.out, fun k r hk => by
      unfold roD at hk
      by_cases e : k = b ∨ k = g
      · have := L2.out; omega
      · rw [if_neg e] at hk; cases hk⟩
    have C3 := Lib.hid hc3
    have S3 := Lib.hid (lo.tr ht3)
    clear hc3 ht3 lo D2 B2
    go_wp2_with fail
    refine (new12_any (fun q => ro3 q = none) w3 (fun q hq => C3.out.none_ge hq)).mono ?_; rintro e w4 ⟨Ab0, nb0, cb0, Al0, nl0, cl0, Ak0, nk0, ck0, rfl, hv4, hb4⟩
    have C4 := Lib.hid (C3.out.ext hb4)
    have S4 := Lib.hid (S3.out.ext hb4)
    have V4 := Lib.hid hv4
    have E4 := Lib.hid (show (DC.new 16).base.length = 16 ∧ (DC.new 16).fuse < 9223372036854775808 from ⟨List.length_replicate, by decide⟩)
    obtain ⟨x4, hx4⟩ : ∃ x, DC.new 16 = x := ⟨_, rfl⟩
    rw [hx4] at C4 V4 E4 ⊢
    clear hv4 hb4 C3 S3 hx4
    go_wp2_with (refine wpList_alloc_row rfl _ rfl _ Tryz.dcZero ?_)
    apply Stop.go; intro w5 Hg5 Hb5
    obtain ⟨gx, hgx⟩ : ∃ q, q = w4.heap.size := ⟨_, rfl⟩
    have NX := Lib.hid (show ro3 gx = none ∧ w.heap.size ≤ gx from by rw [hgx]; exact ⟨C4.out.none_ge (Nat.le_refl _), S4.out.bel.size⟩)
    have V5 := Lib.hid ((V4.out.mono (p' := fun q => q ≠ gx ∧ ro3 q = none) (fun q hq h => ⟨by omega, h⟩)).below Hg5.out.1)
    have C5 := Lib.hid (C4.out.ext Hg5.out.1)
    have S5 := Lib.hid (S4.out.ext Hg5.out.1)
    rw [← hgx] at Hb5 ⊢
    clear hgx V4 C4 S4 Hg5
    go_wp2_with (refine wpList_store_arr rfl _ _ _ rfl _ #[.slice Ab0 nb0 cb0, .slice Al0 nl0 cl0, .int .i64 ((x4).last : Int), .int .i64 (x4).fuse, .bool (x4).off, .int .i64 ((x4).wrote : Int), .slice Ak0 nk0 ck0] rfl rfl _ _ Hb5.out Tryz.dcSize rfl (by simp [Value.oneCell']) ?_)
    apply Stop.go; intro w6 Ho6 Hb6
    have V6 := Lib.hid (V5.out.only Ho6.out (fun h => h.1 rfl))
    have C6 := Lib.hid (C5.out.only_none Ho6.out NX.out.1)
    have S6 := Lib.hid (S5.out.only Ho6.out NX.out.2)
    clear V5 C5 S5 Ho6 Hb5
    go_wp2_with fail
    go_loopw [6] (fun i wr => ∃ (k : Nat) (ro : Nat → Option Rl) (x : DC) (Ab1 : Option Addr) (nb1 cb1 : Nat) (Al1 : Option Addr) (nl1 cl1 : Nat) (Ak1 : Option Addr) (nk1 ck1 : Nat), k ≤ n ∧ i = .int .i64 k ∧ Cch wr ro c b g x k ∧ Std w wr ro ∧ Blk wr gx 33 #[.slice Ab1 nb1 cb1, .slice Al1 nl1 cl1, .int .i64 ((x).last : Int), .int .i64 (x).fuse, .bool (x).off, .int .i64 ((x).wrote : Int), .slice Ak1 nk1 ck1] ∧ DCQ (fun q => q ≠ gx ∧ ro q = none) wr x Ab1 nb1 cb1 Al1 nl1 cl1 Ak1 nk1 ck1 ∧ x.base.length = 16 ∧ x.fuse < 9223372036854775808 ∧ ro gx = none) (fun i _ => n - (intOf i).toNat)
    case atStart => exact ⟨0, ro3, x4, _, _, _, _, _, _, _, _, _, Nat.zero_le _, rfl, C6.out, S6.out, Hb6.out, V6.out, E4.out.1, E4.out.2, NX.out.1⟩
    case round =>
      obtain ⟨k, ro, x, Ab1, nb1, cb1, Al1, nl1, cl1, Ak1, nk1, ck1, hk, rfl, hc, hst, hbx, hq, hbl, hfu, hno⟩ := hrel
      have C := Lib.hid hc
      have S := Lib.hid hst
      have X := Lib.hid hbx
      have Q := Lib.hid hq
      have BL := Lib.hid hbl
      have FU := Lib.hid hfu
      have NO := Lib.hid hno
      clear hc hst hbx hq hbl hfu hno C6 S6 V6 Hb6 E4
      by_cases hlt : k < n
      · have d1 : decide ((k : Int) < (n : Int)) = true := by simpa using hlt
        have z1 : (k : Int) < n := by omega
        have hkl : k < l.length := by rw [Hn.out]; exact hlt
        have HSK := Lib.hid (HSZ.out _ (List.getElem_mem hkl))
        obtain ⟨ad, Ad, nd, cd, An, nn, cn, rfl, hcv, g0, g1, g2, g3, g4⟩ := Hr.out.cg hkl
        have CV0 := Lib.hid hcv
        rw [hcv.p.len, hcv.len] at HSK
        generalize l[k] = s at *
        have FN := Lib.hid (fun (hz : 0 < nn) (ad : Addr) (e : An = some ad) => S.out.none (needs_low hcv hz ad e))
        have FD := Lib.hid (fun (hz : 0 < nd) (ad : Addr) (e : Ad = some ad) => (show ad.block ≠ gx ∧ ro ad.block = none from ⟨by have h1 := bytes_low hcv hz ad e; have h2 := NX.out.2; omega, S.out.none (bytes_low hcv hz ad e)⟩))
        have G0 := Lib.hid g0
        have G1 := Lib.hid g1
        have G2 := Lib.hid g2
        have G3 := Lib.hid g3
        have G4 := Lib.hid g4
        clear hkl hcv g0 g1 g2 g3 g4
        have CG := fun (p' : Nat → Prop) (w' : World) (hb : Below wr.heap.size wr w') (hp' : ∀ q, w'.heap.size ≤ q → p' q) (hm : ∀ q, q < wr.heap.size → (q ≠ gx ∧ ro q = none) → p' q) (hd : ∀ q, q < w.heap.size → (q ≠ gx ∧ ro q = none) → p' q) => (show Calls Tryz.prog 9 #[.agg #[.slice Ab1 nb1 cb1, .slice Al1 nl1 cl1, .int .i64 ((x).last : Int), .int .i64 (x).fuse, .bool (x).off, .int .i64 ((x).wrote : Int), .slice Ak1 nk1 ck1], .agg #[.int .i64 s.id, .int .i64 s.block, .int .i64 s.p.at_, .slice Ad nd cd, .slice An nn cn]] w' (RetDNE p' w' (x.go (stOf s)).1 (x.go (stOf s)).2.1 (x.go (stOf s)).2.2) from rgo12_any p' x Ab1 nb1 cb1 Al1 nl1 cl1 Ak1 nk1 ck1 s Ad nd cd An nn cn w' hp' ((Q.out.mono hm).below hb) (CV0.out.below (bt S.out.bel hb)) (fun h0 ad e => hd _ (bytes_low CV0.out h0 ad e) (FD.out h0 ad e)) HSK.out.1 HSK.out.2 C.out.ok (by have := C.out.last; omega) FU.out)
        have CG2 := fun (w' : World) (hc : Cch w' ro c b g x k) (hv : CV w' s Ad nd cd An nn cn) => go12_any hc (by omega) s Ad nd cd An nn cn hv HSK.out.1 HSK.out.2 FN.out
        have LG := Lib.hid (show (x.go (stOf s)).1.base.length = 16 by rw [DC.go_blen]; exact BL.out)
        have FG := Lib.hid (DC.go_fuse (x := x) (s := stOf s) FU.out CV0.out.hi1)
        obtain ⟨y, hy⟩ : ∃ y, (x.go (stOf s)).1 = y := ⟨_, rfl⟩
        obtain ⟨zn, hzn⟩ : ∃ z, (x.go (stOf s)).2.1 = z := ⟨_, rfl⟩
        obtain ⟨ze, hze⟩ : ∃ z, (x.go (stOf s)).2.2 = z := ⟨_, rfl⟩
        rw [hy, hzn, hze] at CG CG2
        rw [hy] at LG FG
        have CG := Lib.hid CG
        have CG2 := Lib.hid CG2
        clear hy hzn hze
        go_upto_region 11 with fail
        go_cut [7, 8, 9] from 29 to 38 (fun v7 v8 v9 wx => ∃ (g7 : Nat) (Ab2 : Option Addr) (nb2 cb2 : Nat) (Al2 : Option Addr) (nl2 cl2 : Nat) (Ak2 : Option Addr) (nk2 ck2 : Nat), v7 = .pointer (some ⟨g7, 0, none⟩) ∧ v8 = .int .i64 zn ∧ v9 = .int .i64 ze ∧ Blk wx g7 33 #[.slice Ab2 nb2 cb2, .slice Al2 nl2 cl2, .int .i64 ((y).last : Int), .int .i64 (y).fuse, .bool (y).off, .int .i64 ((y).wrote : Int), .slice Ak2 nk2 ck2] ∧ DCQ (fun q => q ≠ gx ∧ ro q = none) wx y Ab2 nb2 cb2 Al2 nl2 cl2 Ak2 nk2 ck2 ∧ Below wr.heap.size wr wx)
        case first =>
          refine WH.start (S := fun w' : World => Below wr.heap.size wr w') [false, false, false, false, false, false, false, false, false, false, false, false, false, false] 14 rfl rfl (by kernel_rfl) (bdrew wr 1) (fun hSn => ?_)
          obtain ⟨wS, hwS⟩ : ∃ q, wr.drew = q := ⟨_, rfl⟩
          rw [hwS] at hSn ⊢
          have BS := Lib.hid hSn
          clear hwS
          refine WH.take 0 _ _ rfl (by kernel_rfl) (fun _ _ _ h => h) rfl (by assumption) (fun w' hSw => exec_load_blk _ _ rfl _ rfl _ _ (X.out.ext hSw) _ (Tryz.underlying33) rfl (Tryz.dcSize)) ?_; simp only [Act.put, List.setIfInBounds_toArray, List.set_cons_zero, List.set_cons_succ]
          refine WH.take 1 _ ?_ rfl (by kernel_rfl) (fun _ _ _ h => h) rfl (by assumption) ?_ ?_; rotate_left; (focus (intro w hSw; (try dsimp only at hSw); (first | (go_simp; done) | (go_simp; with_reducible rfl)))); simp only [Act.put, List.setIfInBounds_toArray, List.set_cons_zero, List.set_cons_succ]
          refine WH.take 2 _ ?_ rfl (by kernel_rfl) (fun _ _ _ h => h) rfl (by assumption) ?_ ?_; rotate_left; (focus (intro w hSw; (try dsimp only at hSw); (first | (go_simp; done) | (go_simp; with_reducible rfl)))); simp only [Act.put, List.setIfInBounds_toArray, List.set_cons_zero, List.set_cons_succ]
          refine WH.take 3 _ ?_ rfl (by kernel_rfl) (fun _ _ _ h => h) rfl (by assumption) ?_ ?_; rotate_left; (focus (intro w hSw; (try dsimp only at hSw); (first | (go_simp; done) | (go_simp; with_reducible rfl)))); simp only [Act.put, List.setIfInBounds_toArray, List.set_cons_zero, List.set_cons_succ]
          refine WH.take 4 _ _ rfl (by kernel_rfl) (fun _ _ _ h => h) rfl (by assumption) (fun w' hSw => exec_load_five _ _ rfl (ad.add (k * 5)) rfl _ _ _ _ _ (cell_ext (bt S.out.bel hSw) G0.out) (cell_ext (bt S.out.bel hSw) G1.out) (cell_ext (bt S.out.bel hSw) G2.out) (cell_ext (bt S.out.bel hSw) G3.out) (cell_ext (bt S.out.bel hSw) G4.out) _ Tryz.underlying42 Tryz.stepInfoZ) ?_; simp only [Act.put, List.setIfInBounds_toArray, List.set_cons_zero, List.set_cons_succ]
          have PN := Lib.hid (show ∀ q, wr.heap.size ≤ q → q ≠ gx ∧ ro q = none from fun q hq => ⟨by have := X.out.lt; omega, C.out.none_ge hq⟩)
          refine WH.two 5 10 _ _ rfl rfl (by kernel_rfl) rfl rfl (fun K hK => ?_) (fun K hK => ?_)
          focus (
            go_simp; refine (CG.out (fun q => q ≠ gx ∧ ro q = none) wS BS.out (fun q hq => PN.out q (Nat.le_trans BS.out.size hq)) (fun _ _ h => h) (fun _ _ h => h)).mono ?_; rintro e w5 ⟨Ab2, nb2, cb2, Al2, nl2, cl2, Ak2, nk2, ck2, rfl, hv5, hb5⟩; go_simp
            have V5 := Lib.hid hv5
            have B5 := Lib.hid (bt BS.out hb5)
            clear hv5 hb5 CG
            have hSn := B5.out; refine hK _ _ hSn ?_; clear hK; clear K; simp only [List.set_cons_zero, List.set_cons_succ]
            refine WH.take 6 _ ?_ rfl (by kernel_rfl) (fun _ _ _ h => h) rfl (by assumption) ?_ ?_; rotate_left; (focus (intro w hSw; (try dsimp only at hSw); (first | (go_simp; done) | (go_simp; with_reducible rfl)))); simp only [Act.put, List.setIfInBounds_toArray, List.set_cons_zero, List.set_cons_succ]
            refine WH.take 7 _ ?_ rfl (by kernel_rfl) (fun _ _ _ h => h) rfl (by assumption) ?_ ?_; rotate_left; (focus (intro w hSw; (try dsimp only at hSw); (first | (go_simp; done) | (go_simp; with_reducible rfl)))); simp only [Act.put, List.setIfInBounds_toArray, List.set_cons_zero, List.set_cons_succ]
            refine WH.take 8 _ ?_ rfl (by kernel_rfl) (fun _ _ _ h => h) rfl (by assumption) ?_ ?_; rotate_left; (focus (intro w hSw; (try dsimp only at hSw); (first | (go_simp; done) | (go_simp; with_reducible rfl)))); simp only [Act.put, List.setIfInBounds_toArray, List.set_cons_zero, List.set_cons_succ]
            refine WH.take 9 _ ?_ rfl (by kernel_rfl) (fun _ _ _ h => h) rfl (by assumption) ?_ ?_; rotate_left; (focus (intro w hSw; (try dsimp only at hSw); (first | (go_simp; done) | (go_simp; with_reducible rfl)))); simp only [Act.put, List.setIfInBounds_toArray, List.set_cons_zero, List.set_cons_succ]
            refine WH.only 10 _ rfl (by kernel_rfl) rfl (fun K hK => ?_)
            refine ow_alloc _ rfl _ Tryz.dcZero ?_
            apply Stop.go; intro w6 Hg6 Hb6
            have B6 := Lib.hid (bt B5.out Hg6.out.1)
            have hSn := B6.out; refine hK _ _ hSn ?_; clear hK; clear K; simp only [Act.put, List.set_cons_zero, List.set_cons_succ]
            refine WH.only 11 _ rfl (by kernel_rfl) rfl (fun K hK => ?_)
            refine ow_store _ _ _ rfl _ #[.slice Ab2 nb2 cb2, .slice Al2 nl2 cl2, .int .i64 ((y).last : Int), .int .i64 (y).fuse, .bool (y).off, .int .i64 ((y).wrote : Int), .slice Ak2 nk2 ck2] rfl rfl _ _ Hb6.out Tryz.dcSize rfl (by simp [Value.oneCell']) ?_
            apply Stop.go; intro w7 Ho7 Hb7
            have B57 := Lib.hid (bonly (bt (Below.refl _ w5) Hg6.out.1) Ho7.out (Nat.le_refl _))
            have B7 := Lib.hid (bt B5.out B57.out)
            have V7 := Lib.hid (V5.out.below B57.out)
            have hSn := B7.out; refine hK _ _ hSn ?_; clear hK; clear K; simp only [Act.put, List.set_cons_zero, List.set_cons_succ]
            refine WH.take 12 _ ?_ rfl (by kernel_rfl) (fun _ _ _ h => h) rfl (by assumption) ?_ ?_; rotate_left; (focus (intro w hSw; (try dsimp only at hSw); (first | (go_simp; done) | (go_simp; with_reducible rfl)))); simp only [Act.put, List.setIfInBounds_toArray, List.set_cons_zero, List.set_cons_succ]
            refine WH.take 13 _ ?_ rfl (by kernel_rfl) (fun _ _ _ h => h) rfl (by assumption) ?_ ?_; rotate_left; (focus (intro w hSw; (try dsimp only at hSw); (first | (go_simp; done) | (go_simp; with_reducible rfl)))); simp only [Act.put, List.setIfInBounds_toArray, List.set_cons_zero, List.set_cons_succ]
            refine WH.done (by kernel_rfl) ?_
            clear B6 Hg6 Hb6 Ho7 B57 V5 B5
            obtain ⟨g7, hg7⟩ : ∃ q, q = w5.heap.size := ⟨_, rfl⟩
            rw [← hg7] at Hb7 ⊢
            clear hg7)
          rotate_left
          focus (
            refine ow_alloc _ rfl _ Tryz.dcZero ?_
            apply Stop.go; intro w5 Hg5 Hb5
            have B5 := Lib.hid (bt BS.out Hg5.out.1)
            have hSn := B5.out; refine hK _ _ hSn ?_; clear hK; clear K; simp only [Act.put, List.set_cons_zero, List.set_cons_succ]
            have N5 := Lib.hid (show w5.heap.size = wS.heap.size + 1 ∧ wr.heap.size ≤ wS.heap.size ∧ w.heap.size ≤ wr.heap.size from ⟨Hg5.out.2, BS.out.size, S.out.bel.size⟩)
            refine WH.only 5 _ rfl (by kernel_rfl) rfl (fun K hK => ?_); go_simp; refine (CG.out (fun q => (q ≠ gx ∧ ro q = none) ∧ q ≠ wS.heap.size) w5 B5.out (fun q hq => ⟨PN.out q (by have := N5.out; omega), by have := N5.out; omega⟩) (fun q hq h => ⟨h, by have := N5.out; omega⟩) (fun q hq h => ⟨h, by have := N5.out; omega⟩)).mono ?_; rintro e w6 ⟨Ab2, nb2, cb2, Al2, nl2, cl2, Ak2, nk2, ck2, rfl, hv6, hb6⟩; go_simp
            have V6 := Lib.hid hv6
            have B6 := Lib.hid (bt B5.out hb6)
            have Hb6 := Lib.hid (Hb5.out.ext hb6)
            clear hv6 hb6 CG Hb5 Hg5
            have hSn := B6.out; refine hK _ _ hSn ?_; clear hK; clear K; simp only [List.set_cons_zero, List.set_cons_succ]
            refine WH.take 6 _ ?_ rfl (by kernel_rfl) (fun _ _ _ h => h) rfl (by assumption) ?_ ?_; rotate_left; (focus (intro w hSw; (try dsimp only at hSw); (first | (go_simp; done) | (go_simp; with_reducible rfl)))); simp only [Act.put, List.setIfInBounds_toArray, List.set_cons_zero, List.set_cons_succ]
            refine WH.take 7 _ ?_ rfl (by kernel_rfl) (fun _ _ _ h => h) rfl (by assumption) ?_ ?_; rotate_left; (focus (intro w hSw; (try dsimp only at hSw); (first | (go_simp; done) | (go_simp; with_reducible rfl)))); simp only [Act.put, List.setIfInBounds_toArray, List.set_cons_zero, List.set_cons_succ]
            refine WH.take 8 _ ?_ rfl (by kernel_rfl) (fun _ _ _ h => h) rfl (by assumption) ?_ ?_; rotate_left; (focus (intro w hSw; (try dsimp only at hSw); (first | (go_simp; done) | (go_simp; with_reducible rfl)))); simp only [Act.put, List.setIfInBounds_toArray, List.set_cons_zero, List.set_cons_succ]
            refine WH.take 9 _ ?_ rfl (by kernel_rfl) (fun _ _ _ h => h) rfl (by assumption) ?_ ?_; rotate_left; (focus (intro w hSw; (try dsimp only at hSw); (first | (go_simp; done) | (go_simp; with_reducible rfl)))); simp only [Act.put, List.setIfInBounds_toArray, List.set_cons_zero, List.set_cons_succ]
            refine WH.only 11 _ rfl (by kernel_rfl) rfl (fun K hK => ?_)
            refine ow_store _ _ _ rfl _ #[.slice Ab2 nb2 cb2, .slice Al2 nl2 cl2, .int .i64 ((y).last : Int), .int .i64 (y).fuse, .bool (y).off, .int .i64 ((y).wrote : Int), .slice Ak2 nk2 ck2] rfl rfl _ _ Hb6.out Tryz.dcSize rfl (by simp [Value.oneCell']) ?_
            apply Stop.go; intro w7 Ho7 Hb7
            have B7 := Lib.hid (bonly B6.out Ho7.out N5.out.2.1)
            have V7 := Lib.hid ((V6.out.only Ho7.out (fun h => h.2 rfl)).mono (p' := fun q => q ≠ gx ∧ ro q = none) (fun q _ h => h.1))
            have hSn := B7.out; refine hK _ _ hSn ?_; clear hK; clear K; simp only [Act.put, List.set_cons_zero, List.set_cons_succ]
            refine WH.take 12 _ ?_ rfl (by kernel_rfl) (fun _ _ _ h => h) rfl (by assumption) ?_ ?_; rotate_left; (focus (intro w hSw; (try dsimp only at hSw); (first | (go_simp; done) | (go_simp; with_reducible rfl)))); simp only [Act.put, List.setIfInBounds_toArray, List.set_cons_zero, List.set_cons_succ]
            refine WH.take 13 _ ?_ rfl (by kernel_rfl) (fun _ _ _ h => h) rfl (by assumption) ?_ ?_; rotate_left; (focus (intro w hSw; (try dsimp only at hSw); (first | (go_simp; done) | (go_simp; with_reducible rfl)))); simp only [Act.put, List.setIfInBounds_toArray, List.set_cons_zero, List.set_cons_succ]
            refine WH.done (by kernel_rfl) ?_
            clear B6 Hb6 Ho7 V6 B5 N5
            obtain ⟨g7, hg7⟩ : ∃ q, q = wS.heap.size := ⟨_, rfl⟩
            rw [← hg7] at Hb7 ⊢
            clear hg7)
          all_goals
            go_wp2_with fail
            go_meet
            exact ⟨g7, _, _, _, _, _, _, _, _, _, rfl, rfl, rfl, Hb7.out, V7.out, B7.out⟩
        case rest =>
          obtain ⟨g7, Ab2, nb2, cb2, Al2, nl2, cl2, Ak2, nk2, ck2, rfl, rfl, rfl, hb7, hv7, hbw7⟩ := hcut
          have Hb7 := Lib.hid hb7
          have V7 := Lib.hid hv7
          have B7 := Lib.hid hbw7
          clear hb7 hv7 hbw7 CG
          have C7 := Lib.hid (C.out.ext B7.out)
          have S7 := Lib.hid (S.out.ext B7.out)
          have X7 := Lib.hid (X.out.ext B7.out)
          clear C S X Q B7
          go_wp2_with (first | refine wpList_load_blk rfl _ _ rfl _ rfl _ _ Hb7.out _ Tryz.underlying33 rfl Tryz.dcSize ?_ | refine wpList_store_arr rfl _ _ _ rfl _ #[.slice Ab2 nb2 cb2, .slice Al2 nl2 cl2, .int .i64 ((y).last : Int), .int .i64 (y).fuse, .bool (y).off, .int .i64 ((y).wrote : Int), .slice Ak2 nk2 ck2] rfl rfl _ _ X7.out Tryz.dcSize rfl (by simp [Value.oneCell']) ?_); apply Stop.go; intro w8 Ho8 Hb8
          have V8 := Lib.hid (V7.out.only Ho8.out (fun h => h.1 rfl))
          have C8 := Lib.hid (C7.out.only_none Ho8.out NO.out)
          have S8 := Lib.hid (S7.out.only Ho8.out NX.out.2)
          clear Ho8 V7 C7 S7 X7 Hb7
          have h0 := cell_ext S8.out.bel G0.out
          have h1 := cell_ext S8.out.bel G1.out
          have h2 := cell_ext S8.out.bel G2.out
          have h3 := cell_ext S8.out.bel G3.out
          have h4 := cell_ext S8.out.bel G4.out
          go_wp2_with (refine wpList_load_five rfl _ _ rfl (ad.add (k * 5)) rfl _ _ _ _ _ h0 h1 h2 h3 h4 _ Tryz.underlying42 Tryz.stepInfoZ ?_)
          refine (CG2.out w8 C8.out (CV0.out.below S8.out.bel)).mono ?_; rintro e w9 ⟨rfl, ro9, hc9, ht9⟩
          have C9 := Lib.hid hc9
          have S9 := Lib.hid (S8.out.tr ht9)
          have X9 := Lib.hid (Hb8.out.tr ht9 NO.out)
          have N9 := Lib.hid (ht9.keep gx Hb8.out.lt NO.out).1
          have V9 := Lib.hid (V8.out.tr (p' := fun q => q ≠ gx ∧ ro9 q = none) ht9 (fun q h => h.2) (fun q h h2 => ⟨h.1, h2⟩))
          clear hc9 ht9 C8 S8 V8 Hb8 CG2 h0 h1 h2 h3 h4 NO
          go_wp2_with fail
          have YL := Lib.hid (show y.list.length ≤ 21 ∧ k + 1 ≤ 900 from by have h1 := C9.out.ok.wrote; have h2 := C9.out.last; omega)
          have SB := Lib.hid (And.intro CV0.out.lo1 CV0.out.hi1)
          refine WH.start (S := fun w' : World => Below w9.heap.size w9 w') (List.replicate 64 false) 64 rfl rfl (by kernel_rfl) (bdrew w9 1) (fun hSn => ?_)
          simp only [List.replicate]
          obtain ⟨wS, hwS⟩ : ∃ q, w9.drew = q := ⟨_, rfl⟩
          rw [hwS] at hSn ⊢
          have BS := Lib.hid hSn
          clear hwS
          refine WH.take 0 _ ?_ rfl (by kernel_rfl) (fun _ _ _ h => h) rfl (by assumption) ?_ ?_; rotate_left; (focus (intro w hSw; (try dsimp only at hSw); (first | (go_simp; done) | (go_simp; with_reducible rfl)))); simp only [Act.put, List.setIfInBounds_toArray, List.set_cons_zero, List.set_cons_succ]
          refine WH.take 1 _ ?_ rfl (by kernel_rfl) (fun _ _ _ h => h) rfl (by assumption) ?_ ?_; rotate_left; (focus (intro w hSw; (try dsimp only at hSw); (first | (go_simp; done) | (go_simp; with_reducible rfl)))); simp only [Act.put, List.setIfInBounds_toArray, List.set_cons_zero, List.set_cons_succ]
          refine WH.take 2 _ ?_ rfl (by kernel_rfl) (fun _ _ _ h => h) rfl (by assumption) ?_ ?_; rotate_left; (focus (intro w hSw; (try dsimp only at hSw); (first | (go_simp; done) | (go_simp; with_reducible rfl)))); simp only [Act.put, List.setIfInBounds_toArray, List.set_cons_zero, List.set_cons_succ]
          refine WH.take 3 _ ?_ rfl (by kernel_rfl) (fun _ _ _ h => h) rfl (by assumption) ?_ ?_; rotate_left; (focus (intro w hSw; (try dsimp only at hSw); (first | (go_simp; done) | (go_simp; with_reducible rfl)))); simp only [Act.put, List.setIfInBounds_toArray, List.set_cons_zero, List.set_cons_succ]
          refine WH.take 4 _ ?_ rfl (by kernel_rfl) (fun _ _ _ h => h) rfl (by assumption) ?_ ?_; rotate_left; (focus (intro w hSw; (try dsimp only at hSw); (first | (go_simp; done) | (go_simp; with_reducible rfl)))); simp only [Act.put, List.setIfInBounds_toArray, List.set_cons_zero, List.set_cons_succ]
          refine WH.take 5 _ ?_ rfl (by kernel_rfl) (fun _ _ _ h => h) rfl (by assumption) ?_ ?_; rotate_left; (focus (intro w hSw; (try dsimp only at hSw); (first | (go_simp; done) | (go_simp; with_reducible rfl)))); simp only [Act.put, List.setIfInBounds_toArray, List.set_cons_zero, List.set_cons_succ]
          refine WH.take 6 _ ?_ rfl (by kernel_rfl) (fun _ _ _ h => h) rfl (by assumption) ?_ ?_; rotate_left; (focus (intro w hSw; (try dsimp only at hSw); (first | (go_simp; done) | (go_simp; with_reducible rfl)))); simp only [Act.put, List.setIfInBounds_toArray, List.set_cons_zero, List.set_cons_succ]
          refine WH.take 7 _ ?_ rfl (by kernel_rfl) (fun _ _ _ h => h) rfl (by assumption) ?_ ?_; rotate_left; (focus (intro w hSw; (try dsimp only at hSw); (first | (go_simp; done) | (go_simp; with_reducible rfl)))); simp only [Act.put, List.setIfInBounds_toArray, List.set_cons_zero, List.set_cons_succ]
          refine WH.take 8 _ ?_ rfl (by kernel_rfl) (fun _ _ _ h => h) rfl (by assumption) ?_ ?_; rotate_left; (focus (intro w hSw; (try dsimp only at hSw); (first | (go_simp; done) | (go_simp; with_reducible rfl)))); simp only [Act.put, List.setIfInBounds_toArray, List.set_cons_zero, List.set_cons_succ]
          refine WH.take 9 _ ?_ rfl (by kernel_rfl) (fun _ _ _ h => h) rfl (by assumption) ?_ ?_; rotate_left; (focus (intro w hSw; (try dsimp only at hSw); (first | (go_simp; done) | (go_simp; with_reducible rfl)))); simp only [Act.put, List.setIfInBounds_toArray, List.set_cons_zero, List.set_cons_succ]
          refine WH.take 11 _ ?_ rfl (by kernel_rfl) (fun _ _ _ h => h) rfl (by assumption) ?_ ?_; rotate_left; (focus (intro w hSw; (try dsimp only at hSw); (first | (go_simp; done) | (go_simp; with_reducible rfl)))); simp only [Act.put, List.setIfInBounds_toArray, List.set_cons_zero, List.set_cons_succ]
          refine WH.take 12 _ _ rfl (by kernel_rfl) (fun _ _ _ h => h) rfl (by assumption) (fun w' hSw => exec_load_cell _ _ rfl _ rfl (.int .i64 (y.last : Int)) (X9.out.ext hSw).seven.2.2.1 _ Tryz.underlying3 rfl) ?_; simp only [Act.put, List.setIfInBounds_toArray, List.set_cons_zero, List.set_cons_succ]
          refine WH.only 10 _ rfl (by kernel_rfl) rfl (fun K hK => ?_); go_simp; refine (c_last (C9.out.ext BS.out)).mono ?_; rintro e wa ⟨rfl, rfl⟩; go_simp
          have hSn := BS.out; refine hK _ _ hSn ?_; clear hK; clear K; simp only [List.set_cons_zero, List.set_cons_succ]
          refine WH.take 13 _ ?_ rfl (by kernel_rfl) (fun _ _ _ h => h) rfl (by assumption) ?_ ?_; rotate_left; (focus (intro w hSw; (try dsimp only at hSw); (first | (go_simp; done) | (go_simp; with_reducible rfl)))); simp only [Act.put, List.setIfInBounds_toArray, List.set_cons_zero, List.set_cons_succ]
          refine WH.take 14 _ ?_ rfl (by kernel_rfl) (fun _ _ _ h => h) rfl (by assumption) ?_ ?_; rotate_left; (focus (intro w hSw; (try dsimp only at hSw); (first | (go_simp; done) | (go_simp; with_reducible rfl)))); simp only [Act.put, List.setIfInBounds_toArray, List.set_cons_zero, List.set_cons_succ]
          refine WH.take 15 _ ?_ rfl (by kernel_rfl) (fun _ _ _ h => h) rfl (by assumption) ?_ ?_; rotate_left; (focus (intro w hSw; (try dsimp only at hSw); (first | (go_simp; done) | (go_simp; with_reducible rfl)))); simp only [Act.put, List.setIfInBounds_toArray, List.set_cons_zero, List.set_cons_succ]
          refine WH.take 16 _ ?_ rfl (by kernel_rfl) (fun _ _ _ h => h) rfl (by assumption) ?_ ?_; rotate_left; (focus (intro w hSw; (try dsimp only at hSw); (first | (go_simp; done) | (go_simp; with_reducible rfl)))); simp only [Act.put, List.setIfInBounds_toArray, List.set_cons_zero, List.set_cons_succ]
          refine WH.take 18 _ ?_ rfl (by kernel_rfl) (fun _ _ _ h => h) rfl (by assumption) ?_ ?_; rotate_left; (focus (intro w hSw; (try dsimp only at hSw); (first | (go_simp; done) | (go_simp; with_reducible rfl)))); simp only [Act.put, List.setIfInBounds_toArray, List.set_cons_zero, List.set_cons_succ]
          refine WH.take 19 _ _ rfl (by kernel_rfl) (fun _ _ _ h => h) rfl (by assumption) (fun w' hSw => exec_load_cell _ _ rfl _ rfl (.int .i64 (y.wrote : Int)) (X9.out.ext hSw).seven.2.2.2.2.2.1 _ Tryz.underlying3 rfl) ?_; simp only [Act.put, List.setIfInBounds_toArray, List.set_cons_zero, List.set_cons_succ]
          refine WH.only 17 _ rfl (by kernel_rfl) rfl (fun K hK => ?_); go_simp; refine (c_writes (C9.out.ext BS.out)).mono ?_; rintro e wb ⟨rfl, rfl⟩; go_simp
          have hSn := BS.out; refine hK _ _ hSn ?_; clear hK; clear K; simp only [List.set_cons_zero, List.set_cons_succ]
          refine WH.take 20 _ ?_ rfl (by kernel_rfl) (fun _ _ _ h => h) rfl (by assumption) ?_ ?_; rotate_left; (focus (intro w hSw; (try dsimp only at hSw); (first | (go_simp; done) | (go_simp; with_reducible rfl)))); simp only [Act.put, List.setIfInBounds_toArray, List.set_cons_zero, List.set_cons_succ]
          refine WH.take 21 _ ?_ rfl (by kernel_rfl) (fun _ _ _ h => h) rfl (by assumption) ?_ ?_; rotate_left; (focus (intro w hSw; (try dsimp only at hSw); (first | (go_simp; done) | (go_simp; with_reducible rfl)))); simp only [Act.put, List.setIfInBounds_toArray, List.set_cons_zero, List.set_cons_succ]
          refine WH.take 22 _ ?_ rfl (by kernel_rfl) (fun _ _ _ h => h) rfl (by assumption) ?_ ?_; rotate_left; (focus (intro w hSw; (try dsimp only at hSw); (first | (go_simp; done) | (go_simp; with_reducible rfl)))); simp only [Act.put, List.setIfInBounds_toArray, List.set_cons_zero, List.set_cons_succ]
          refine WH.take 23 _ ?_ rfl (by kernel_rfl) (fun _ _ _ h => h) rfl (by assumption) ?_ ?_; rotate_left; (focus (intro w hSw; (try dsimp only at hSw); (first | (go_simp; done) | (go_simp; with_reducible rfl)))); simp only [Act.put, List.setIfInBounds_toArray, List.set_cons_zero, List.set_cons_succ]
          refine WH.take 25 _ ?_ rfl (by kernel_rfl) (fun _ _ _ h => h) rfl (by assumption) ?_ ?_; rotate_left; (focus (intro w hSw; (try dsimp only at hSw); (first | (go_simp; done) | (go_simp; with_reducible rfl)))); simp only [Act.put, List.setIfInBounds_toArray, List.set_cons_zero, List.set_cons_succ]
          refine WH.take 26 _ _ rfl (by kernel_rfl) (fun _ _ _ h => h) rfl (by assumption) (fun w' hSw => exec_load_cell _ _ rfl _ rfl (.bool y.off) (X9.out.ext hSw).seven.2.2.2.2.1 _ Tryz.underlying4 rfl) ?_; simp only [Act.put, List.setIfInBounds_toArray, List.set_cons_zero, List.set_cons_succ]
          refine WH.only 24 _ rfl (by kernel_rfl) rfl (fun K hK => ?_); go_simp; refine (c_down (C9.out.ext BS.out)).mono ?_; rintro e wc ⟨rfl, rfl⟩; go_simp
          have hSn := BS.out; refine hK _ _ hSn ?_; clear hK; clear K; simp only [List.set_cons_zero, List.set_cons_succ]
          refine WH.take 27 _ ?_ rfl (by kernel_rfl) (fun _ _ _ h => h) rfl (by assumption) ?_ ?_; rotate_left; (focus (intro w hSw; (try dsimp only at hSw); (first | (go_simp; done) | (go_simp; with_reducible rfl)))); simp only [Act.put, List.setIfInBounds_toArray, List.set_cons_zero, List.set_cons_succ]
          refine WH.take 28 _ ?_ rfl (by kernel_rfl) (fun _ _ _ h => h) rfl (by assumption) ?_ ?_; rotate_left; (focus (intro w hSw; (try dsimp only at hSw); (first | (go_simp; done) | (go_simp; with_reducible rfl)))); simp only [Act.put, List.setIfInBounds_toArray, List.set_cons_zero, List.set_cons_succ]
          refine WH.take 29 _ ?_ rfl (by kernel_rfl) (fun _ _ _ h => h) rfl (by assumption) ?_ ?_; rotate_left; (focus (intro w hSw; (try dsimp only at hSw); (first | (go_simp; done) | (go_simp; with_reducible rfl)))); simp only [Act.put, List.setIfInBounds_toArray, List.set_cons_zero, List.set_cons_succ]
          refine WH.take 30 _ ?_ rfl (by kernel_rfl) (fun _ _ _ h => h) rfl (by assumption) ?_ ?_; rotate_left; (focus (intro w hSw; (try dsimp only at hSw); (first | (go_simp; done) | (go_simp; with_reducible rfl)))); simp only [Act.put, List.setIfInBounds_toArray, List.set_cons_zero, List.set_cons_succ]
          refine WH.take 33 _ ?_ rfl (by kernel_rfl) (fun _ _ _ h => h) rfl (by assumption) ?_ ?_; rotate_left; (focus (intro w hSw; (try dsimp only at hSw); (first | (go_simp; done) | (go_simp; with_reducible rfl)))); simp only [Act.put, List.setIfInBounds_toArray, List.set_cons_zero, List.set_cons_succ]
          refine WH.take 34 _ _ rfl (by kernel_rfl) (fun _ _ _ h => h) rfl (by assumption) (fun w' hSw => exec_load_cell _ _ rfl _ rfl (.slice Al2 nl2 cl2) (X9.out.ext hSw).seven.2.1 _ Tryz.underlying30 rfl) ?_; simp only [Act.put, List.setIfInBounds_toArray, List.set_cons_zero, List.set_cons_succ]
          have CL := (c_left (C9.out.ext BS.out) (by have := YL.out; omega)).mono (fun _ _ h => RetCH.plain h)
          refine WH.only 31 _ rfl (by kernel_rfl) rfl (fun K hK => ?_); go_simp; refine (CL).mono ?_; rintro e wd ⟨A1, n1, c1, rfl, q1, q2, q3, hr1, hb1⟩; go_simp
          have BS := Lib.hid (bt BS.out hb1)
          have R1 := Lib.hid hr1
          clear hr1 hb1 CL
          have hSn := BS.out; refine hK _ _ hSn ?_; clear hK; clear K; simp only [List.set_cons_zero, List.set_cons_succ]
          have CO := of9_any A1 n1 c1 y.list q1 (by have := YL.out; omega) wd R1.out
          refine WH.only 32 _ rfl (by kernel_rfl) rfl (fun K hK => ?_); go_simp; refine (CO).mono ?_; rintro e wf ⟨A3, n3, c3, rfl, q4, q5, q6, hr3, hb3⟩; go_simp
          have BS := Lib.hid (bt BS.out hb3)
          have R3 := Lib.hid hr3
          clear hr3 hb3 CO R1 q1 q2 q3 q5 q6
          have hSn := BS.out; refine hK _ _ hSn ?_; clear hK; clear K; simp only [List.set_cons_zero, List.set_cons_succ]
          have VL := Lib.hid V9.out.v.hnl
          have e3 : n3 = nl2 := q4.symm.trans VL.out
          subst e3
          have CS := rsameAll9_any A3 n3 c3 Al2 cl2 y.list q4 (by have := YL.out; omega) wf R3.out (V9.out.v.list.below BS.out)
          refine WH.only 35 _ rfl (by kernel_rfl) rfl (fun K hK => ?_); go_simp; refine (CS).mono ?_; rintro e wg ⟨rfl, hb4⟩; go_simp
          have BS := Lib.hid (bt BS.out hb4)
          clear hb4 CS R3
          have hSn := BS.out; refine hK _ _ hSn ?_; clear hK; clear K; simp only [List.set_cons_zero, List.set_cons_succ]
          refine WH.take 36 _ ?_ rfl (by kernel_rfl) (fun _ _ _ h => h) rfl (by assumption) ?_ ?_; rotate_left; (focus (intro w hSw; (try dsimp only at hSw); (first | (go_simp; done) | (go_simp; with_reducible rfl)))); simp only [Act.put, List.setIfInBounds_toArray, List.set_cons_zero, List.set_cons_succ]
          refine WH.take 37 _ ?_ rfl (by kernel_rfl) (fun _ _ _ h => h) rfl (by assumption) ?_ ?_; rotate_left; (focus (intro w hSw; (try dsimp only at hSw); (first | (go_simp; done) | (go_simp; with_reducible rfl)))); simp only [Act.put, List.setIfInBounds_toArray, List.set_cons_zero, List.set_cons_succ]
          refine WH.take 38 _ ?_ rfl (by kernel_rfl) (fun _ _ _ h => h) rfl (by assumption) ?_ ?_; rotate_left; (focus (intro w hSw; (try dsimp only at hSw); (first | (go_simp; done) | (go_simp; with_reducible rfl)))); simp only [Act.put, List.setIfInBounds_toArray, List.set_cons_zero, List.set_cons_succ]
          refine WH.take 39 _ ?_ rfl (by kernel_rfl) (fun _ _ _ h => h) rfl (by assumption) ?_ ?_; rotate_left; (focus (intro w hSw; (try dsimp only at hSw); (first | (go_simp; done) | (go_simp; with_reducible rfl)))); simp only [Act.put, List.setIfInBounds_toArray, List.set_cons_zero, List.set_cons_succ]
          refine WH.take 41 _ ?_ rfl (by kernel_rfl) (fun _ _ _ h => h) rfl (by assumption) ?_ ?_; rotate_left; (focus (intro w hSw; (try dsimp only at hSw); (first | (go_simp; done) | (go_simp; with_reducible rfl)))); simp only [Act.put, List.setIfInBounds_toArray, List.set_cons_zero, List.set_cons_succ]
          refine WH.take 42 _ _ rfl (by kernel_rfl) (fun _ _ _ h => h) rfl (by assumption) (fun w' hSw => exec_load_cell _ _ rfl _ rfl (.slice Al2 n3 cl2) (X9.out.ext hSw).seven.2.1 _ Tryz.underlying30 rfl) ?_; simp only [Act.put, List.setIfInBounds_toArray, List.set_cons_zero, List.set_cons_succ]
          obtain ⟨nB, hnB⟩ : ∃ m, (blocksC y.list).length = m := ⟨_, rfl⟩
          have HNB := Lib.hid hnB
          have BK := Lib.hid (show nB ≤ 21 from by have h1 := blocksC_len y.list; have h2 := YL.out; omega)
          have HQ4 := Lib.hid q4
          clear hnB q4
          have CD := c_dirty (C9.out.ext BS.out) (by have := YL.out; omega)
          refine WH.only 40 _ rfl (by kernel_rfl) rfl (fun K hK => ?_); go_simp; refine (CD).mono ?_; rintro e wh ⟨v5, rfl, hoi, hb5⟩; go_simp
          have BS := Lib.hid (bt BS.out hb5)
          obtain ⟨A5, c5, e5, -, -, hr5⟩ := hoi.ints
          rw [HNB.out] at e5
          subst e5
          have R5 := Lib.hid hr5
          clear hr5 hb5 hoi CD
          have hSn := BS.out; refine hK _ _ hSn ?_; clear hK; clear K; simp only [List.set_cons_zero, List.set_cons_succ]
          have CB := rblocks9_any Al2 n3 cl2 y.list HQ4.out (by have h1 := YL.out; have h2 := HQ4.out; omega) wh (V9.out.v.list.below BS.out)
          refine WH.only 43 _ rfl (by kernel_rfl) rfl (fun K hK => ?_); go_simp; refine (CB).mono ?_; rintro e wi ⟨A6, n6, c6, rfl, q9, -, -, hr6, hb6⟩; go_simp
          have R5 := Lib.hid (R5.out.below hb6)
          have R6 := Lib.hid hr6
          have e6 : n6 = nB := q9.symm.trans HNB.out
          clear q9
          subst e6
          have BS := Lib.hid (bt BS.out hb6)
          clear hr6 hb6 CB
          have hSn := BS.out; refine hK _ _ hSn ?_; clear hK; clear K; simp only [List.set_cons_zero, List.set_cons_succ]
          have CI : Calls Tryz.prog 17 #[.slice A5 n6 c5, .slice A6 n6 c6] wi fun e w' => e = .returned (.bool true) ∧ Below wi.heap.size wi w' := (ints_any A5 n6 c5 (blocksC y.list) HNB.out A6 n6 c6 (blocksC y.list) HNB.out (by have h1 := BK.out; unfold maxLen; omega) (by have h1 := BK.out; unfold maxLen; omega) wi R5.out R6.out).mono (fun e w' h => by
            obtain ⟨rfl, m, rfl⟩ := h
            exact ⟨by simp, bdrew _ m⟩)
          refine WH.only 44 _ rfl (by kernel_rfl) rfl (fun K hK => ?_); go_simp; refine (CI).mono ?_; rintro e wj ⟨rfl, hb7⟩; go_simp
          have BS := Lib.hid (bt BS.out hb7)
          clear hb7 CI R5 R6 BK
          have hSn := BS.out; refine hK _ _ hSn ?_; clear hK; clear K; simp only [List.set_cons_zero, List.set_cons_succ]
          refine WH.take 45 _ ?_ rfl (by kernel_rfl) (fun _ _ _ h => h) rfl (by assumption) ?_ ?_; rotate_left; (focus (intro w hSw; (try dsimp only at hSw); (first | (go_simp; done) | (go_simp; with_reducible rfl)))); simp only [Act.put, List.setIfInBounds_toArray, List.set_cons_zero, List.set_cons_succ]
          refine WH.take 46 _ ?_ rfl (by kernel_rfl) (fun _ _ _ h => h) rfl (by assumption) ?_ ?_; rotate_left; (focus (intro w hSw; (try dsimp only at hSw); (first | (go_simp; done) | (go_simp; with_reducible rfl)))); simp only [Act.put, List.setIfInBounds_toArray, List.set_cons_zero, List.set_cons_succ]
          refine WH.take 47 _ ?_ rfl (by kernel_rfl) (fun _ _ _ h => h) rfl (by assumption) ?_ ?_; rotate_left; (focus (intro w hSw; (try dsimp only at hSw); (first | (go_simp; done) | (go_simp; with_reducible rfl)))); simp only [Act.put, List.setIfInBounds_toArray, List.set_cons_zero, List.set_cons_succ]
          refine WH.take 48 _ ?_ rfl (by kernel_rfl) (fun _ _ _ h => h) rfl (by assumption) ?_ ?_; rotate_left; (focus (intro w hSw; (try dsimp only at hSw); (first | (go_simp; done) | (go_simp; with_reducible rfl)))); simp only [Act.put, List.setIfInBounds_toArray, List.set_cons_zero, List.set_cons_succ]
          refine WH.take 49 _ ?_ rfl (by kernel_rfl) (fun _ _ _ h => h) rfl (by assumption) ?_ ?_; rotate_left; (focus (intro w hSw; (try dsimp only at hSw); (first | (go_simp; done) | (go_simp; with_reducible rfl)))); simp only [Act.put, List.setIfInBounds_toArray, List.set_cons_zero, List.set_cons_succ]
          refine WH.take 50 _ ?_ rfl (by kernel_rfl) (fun _ _ _ h => h) rfl (by assumption) ?_ ?_; rotate_left; (focus (intro w hSw; (try dsimp only at hSw); (first | (go_simp; done) | (go_simp; with_reducible rfl)))); simp only [Act.put, List.setIfInBounds_toArray, List.set_cons_zero, List.set_cons_succ]
          refine WH.take 51 _ ?_ rfl (by kernel_rfl) (fun _ _ _ h => h) rfl (by assumption) ?_ ?_; rotate_left; (focus (intro w hSw; (try dsimp only at hSw); (first | (go_simp; done) | (go_simp; with_reducible rfl)))); simp only [Act.put, List.setIfInBounds_toArray, List.set_cons_zero, List.set_cons_succ]
          refine WH.take 52 _ ?_ rfl (by kernel_rfl) (fun _ _ _ h => h) rfl (by assumption) ?_ ?_; rotate_left; (focus (intro w hSw; (try dsimp only at hSw); (first | (go_simp; done) | (go_simp; with_reducible rfl)))); simp only [Act.put, List.setIfInBounds_toArray, List.set_cons_zero, List.set_cons_succ]
          refine WH.take 53 _ _ rfl (by kernel_rfl) (fun _ _ _ h => h) rfl (by assumption) (fun w' hSw => exec_load_cell _ _ rfl _ rfl (.int .i64 s.block) (cell_fld (cell_ext (bt S9.out.bel hSw) G0.out) (cell_ext (bt S9.out.bel hSw) G1.out)) _ Tryz.underlying3 rfl) ?_; simp only [Act.put, List.setIfInBounds_toArray, List.set_cons_zero, List.set_cons_succ]
          refine WH.take 55 _ _ rfl (by kernel_rfl) (fun _ _ _ h => h) rfl (by assumption) (fun w' hSw => exec_load_blk _ _ rfl _ rfl _ _ (X9.out.ext hSw) _ (Tryz.underlying33) rfl (Tryz.dcSize)) ?_; simp only [Act.put, List.setIfInBounds_toArray, List.set_cons_zero, List.set_cons_succ]
          refine WH.take 56 _ ?_ rfl (by kernel_rfl) (fun _ _ _ h => h) rfl (by assumption) ?_ ?_; rotate_left; (focus (intro w hSw; (try dsimp only at hSw); (first | (go_simp; done) | (go_simp; with_reducible rfl)))); simp only [Act.put, List.setIfInBounds_toArray, List.set_cons_zero, List.set_cons_succ]
          refine WH.take 57 _ ?_ rfl (by kernel_rfl) (fun _ _ _ h => h) rfl (by assumption) ?_ ?_; rotate_left; (focus (intro w hSw; (try dsimp only at hSw); (first | (go_simp; done) | (go_simp; with_reducible rfl)))); simp only [Act.put, List.setIfInBounds_toArray, List.set_cons_zero, List.set_cons_succ]
          refine WH.take 58 _ ?_ rfl (by kernel_rfl) (fun _ _ _ h => h) rfl (by assumption) ?_ ?_; rotate_left; (focus (intro w hSw; (try dsimp only at hSw); (first | (go_simp; done) | (go_simp; with_reducible rfl)))); simp only [Act.put, List.setIfInBounds_toArray, List.set_cons_zero, List.set_cons_succ]
          refine WH.take 59 _ ?_ rfl (by kernel_rfl) (fun _ _ _ h => h) rfl (by assumption) ?_ ?_; rotate_left; (focus (intro w hSw; (try dsimp only at hSw); (first | (go_simp; done) | (go_simp; with_reducible rfl)))); simp only [Act.put, List.setIfInBounds_toArray, List.set_cons_zero, List.set_cons_succ]
          refine WH.take 60 _ _ rfl (by kernel_rfl) (fun _ _ _ h => h) rfl (by assumption) (fun w' hSw => exec_load_cell _ _ rfl _ rfl (.int .i64 s.block) (cell_fld (cell_ext (bt S9.out.bel hSw) G0.out) (cell_ext (bt S9.out.bel hSw) G1.out)) _ Tryz.underlying3 rfl) ?_; simp only [Act.put, List.setIfInBounds_toArray, List.set_cons_zero, List.set_cons_succ]
          refine WH.only 54 _ rfl (by kernel_rfl) rfl (fun K hK => ?_); go_simp; refine (c_done (C9.out.ext BS.out) s.block SB.out.1 SB.out.2).mono ?_; rintro e wk ⟨rfl, rfl⟩; go_simp
          have hSn := BS.out; refine hK _ _ hSn ?_; clear hK; clear K; simp only [List.set_cons_zero, List.set_cons_succ]
          have CN := done12_any y Ab2 nb2 cb2 Al2 n3 cl2 Ak2 nk2 ck2 s.block wk (V9.out.v.below BS.out)
          refine WH.only 61 _ rfl (by kernel_rfl) rfl (fun K hK => ?_); go_simp; refine (CN).mono ?_; rintro e wl ⟨rfl, hb8⟩; go_simp
          have BS := Lib.hid (bt BS.out hb8)
          clear hb8 CN
          have hSn := BS.out; refine hK _ _ hSn ?_; clear hK; clear K; simp only [List.set_cons_zero, List.set_cons_succ]
          refine WH.take 62 _ ?_ rfl (by kernel_rfl) (fun _ _ _ h => h) rfl (by assumption) ?_ ?_; rotate_left; (focus (intro w hSw; (try dsimp only at hSw); (first | (go_simp; done) | (go_simp; with_reducible rfl)))); simp only [Act.put, List.setIfInBounds_toArray, List.set_cons_zero, List.set_cons_succ]
          refine WH.take 63 _ ?_ rfl (by kernel_rfl) (fun _ _ _ h => h) rfl (by assumption) ?_ ?_; rotate_left; (focus (intro w hSw; (try dsimp only at hSw); (first | (go_simp; done) | (go_simp; with_reducible rfl)))); simp only [Act.put, List.setIfInBounds_toArray, List.set_cons_zero, List.set_cons_succ]
          refine WH.done (by kernel_rfl) ?_
          go_wp2_with fail
          go_roundw
          case rel => exact ⟨k + 1, ro9, y, _, _, _, _, _, _, _, _, _, by omega, by go_num, C9.out.ext BS.out, S9.out.ext BS.out, X9.out.ext BS.out, V9.out.below BS.out, LG.out, FG.out, N9.out⟩
          case measure => simp [intOf]; omega
      · have d1 : decide ((k : Int) < (n : Int)) = false := by simpa using hlt
        have CI := c_image C.out (by rw [BL.out]; omega)
        rw [BL.out] at CI
        go_wp2_with fail
        refine (CI).mono ?_; rintro e w9 ⟨gi, ci, rfl, hge, hlt9, hrk, hci1, hci2, hb9⟩
        have RI := Lib.hid hrk
        have X9 := Lib.hid (X.out.ext hb9)
        have VB := Lib.hid (Q.out.v.below hb9)
        have W9 := Lib.hid (bt S.out.bel hb9)
        have HB := Lib.hid C.out.ok.bks
        clear hrk hge hlt9 hci1 hci2 hb9 C S X Q CI d1 hlt
        go_wp2_with fail
        go_loopw [13] (fun i wr => ∃ q : Nat, q ≤ 16 ∧ i = .int .i64 q ∧ Below w9.heap.size w9 wr) (fun i _ => 16 - (intOf i).toNat)
        case atStart => exact ⟨0, by omega, rfl, Below.refl _ _⟩
        case round =>
          obtain ⟨q, hq, rfl, hbq⟩ := hrel
          have BQ := Lib.hid hbq
          clear hbq
          by_cases hq16 : q < 16
          · have d3 : decide ((q : Int) < 16) = true := by rw [decide_eq_true_eq]; omega
            have hqI : (q : Int) < 16 := by omega
            have hqX : q < x.base.length := by rw [BL.out]; exact hq16
            have zq : (q : Int) < nb1 := by have := VB.out.hnb; omega
            have h256 : x.base[q].length = 256 := HB.out _ (List.getElem_mem hqX)
            have RR := Lib.hid (RI.out.row HB.out hqX)
            obtain ⟨ad2, B2, c2, hAb, k0, -, hc2, hrb⟩ := VB.out.base.bytes hqX
            rw [h256] at k0
            have H256 := Lib.hid h256
            have K0 := Lib.hid k0
            have RB2 := Lib.hid hrb
            have HC2 := Lib.hid hc2
            subst hAb
            clear k0 hrb hc2 h256
            have CS : ∀ w' : World, Below w9.heap.size w9 w' → Calls Tryz.prog 23 #[.slice (some ⟨gi, q * 256, none⟩) 256 256, .slice B2 256 c2] w' fun e w'' => e = .returned (.bool true) ∧ Below w'.heap.size w' w'' := fun w' hb => (same_any _ 256 256 x.base[q] H256.out B2 256 c2 x.base[q] H256.out (by decide) (by decide) w' (RR.out.below hb) (RB2.out.below hb)).mono (fun e w'' h => by
              obtain ⟨rfl, m, rfl⟩ := h
              exact ⟨by simp, bdrew _ m⟩)
            have CS := Lib.hid CS
            go_wp2_with fail
            refine WH.start (S := fun w' : World => Below w9.heap.size w9 w') [false, false, false, false, false, false, false, false, false, false, false, false, false, false, false, false] 16 rfl rfl (by kernel_rfl) (bt BQ.out (bdrew wr 1)) (fun hSn => ?_)
            obtain ⟨wS, hwS⟩ : ∃ x, wr.drew = x := ⟨_, rfl⟩
            rw [hwS] at hSn ⊢
            have BS := Lib.hid hSn
            clear hwS
            refine WH.take 0 _ ?_ rfl (by kernel_rfl) (fun _ _ _ h => h) rfl (by assumption) ?_ ?_; rotate_left; (focus (intro w hSw; (try dsimp only at hSw); (first | (go_simp; done) | (go_simp; with_reducible rfl)))); simp only [Act.put, List.setIfInBounds_toArray, List.set_cons_zero, List.set_cons_succ]
            refine WH.take 1 _ ?_ rfl (by kernel_rfl) (fun _ _ _ h => h) rfl (by assumption) ?_ ?_; rotate_left; (focus (intro w hSw; (try dsimp only at hSw); (first | (go_simp; done) | (go_simp; with_reducible rfl)))); simp only [Act.put, List.setIfInBounds_toArray, List.set_cons_zero, List.set_cons_succ]
            refine WH.take 2 _ ?_ rfl (by kernel_rfl) (fun _ _ _ h => h) rfl (by assumption) ?_ ?_; rotate_left; (focus (intro w hSw; (try dsimp only at hSw); (first | (go_simp; done) | (go_simp; with_reducible rfl)))); simp only [Act.put, List.setIfInBounds_toArray, List.set_cons_zero, List.set_cons_succ]
            refine WH.take 3 _ ?_ rfl (by kernel_rfl) (fun _ _ _ h => h) rfl (by assumption) ?_ ?_; rotate_left; (focus (intro w hSw; (try dsimp only at hSw); (first | (go_simp; done) | (go_simp; with_reducible rfl)))); simp only [Act.put, List.setIfInBounds_toArray, List.set_cons_zero, List.set_cons_succ]
            refine WH.take 4 _ ?_ rfl (by kernel_rfl) (fun _ _ _ h => h) rfl (by assumption) ?_ ?_; rotate_left; (focus (intro w hSw; (try dsimp only at hSw); (first | (go_simp; done) | (go_simp; with_reducible rfl)))); simp only [Act.put, List.setIfInBounds_toArray, List.set_cons_zero, List.set_cons_succ]
            refine WH.take 5 _ ?_ rfl (by kernel_rfl) (fun _ _ _ h => h) rfl (by assumption) ?_ ?_; rotate_left; (focus (intro w hSw; (try dsimp only at hSw); (first | (go_simp; done) | (go_simp; with_reducible rfl)))); simp only [Act.put, List.setIfInBounds_toArray, List.set_cons_zero, List.set_cons_succ]
            refine WH.take 6 _ ?_ rfl (by kernel_rfl) (fun _ _ _ h => h) rfl (by assumption) ?_ ?_; rotate_left; (focus (intro w hSw; (try dsimp only at hSw); (first | (go_simp; done) | (go_simp; with_reducible rfl)))); simp only [Act.put, List.setIfInBounds_toArray, List.set_cons_zero, List.set_cons_succ]
            refine WH.take 7 _ _ rfl (by kernel_rfl) (fun _ _ _ h => h) rfl (by assumption) (fun w' hSw => exec_slice_off _ _ rfl 256 5 Tryz.underlying59 Tryz.byteSize gi (q * 256) rfl (by decide)) ?_; simp only [Act.put, List.setIfInBounds_toArray, List.set_cons_zero, List.set_cons_succ]
            refine WH.take 8 _ ?_ rfl (by kernel_rfl) (fun _ _ _ h => h) rfl (by assumption) ?_ ?_; rotate_left; (focus (intro w hSw; (try dsimp only at hSw); (first | (go_simp; done) | (go_simp; with_reducible rfl)))); simp only [Act.put, List.setIfInBounds_toArray, List.set_cons_zero, List.set_cons_succ]
            refine WH.take 9 _ _ rfl (by kernel_rfl) (fun _ _ _ h => h) rfl (by assumption) (fun w' hSw => exec_load_cell _ _ rfl _ rfl (.slice (some ad2) nb1 cb1) (X9.out.ext hSw).seven.1 _ Tryz.underlying29 rfl) ?_; simp only [Act.put, List.setIfInBounds_toArray, List.set_cons_zero, List.set_cons_succ]
            refine WH.take 10 _ ?_ rfl (by kernel_rfl) (fun _ _ _ h => h) rfl (by assumption) ?_ ?_; rotate_left; (focus (intro w hSw; (try dsimp only at hSw); (first | (go_simp; done) | (go_simp; with_reducible rfl)))); simp only [Act.put, List.setIfInBounds_toArray, List.set_cons_zero, List.set_cons_succ]
            refine WH.take 11 _ ?_ rfl (by kernel_rfl) (fun _ _ _ h => h) rfl (by assumption) ?_ ?_; rotate_left; (focus (intro w hSw; (try dsimp only at hSw); (first | (go_simp; done) | (go_simp; with_reducible rfl)))); simp only [Act.put, List.setIfInBounds_toArray, List.set_cons_zero, List.set_cons_succ]
            refine WH.take 12 _ _ rfl (by kernel_rfl) (fun _ _ _ h => h) rfl (by assumption) (fun w' hSw => exec_load_cell _ _ rfl _ rfl (.slice B2 256 c2) ((hSw.cell (block_lt_of_cell K0.out)).trans K0.out) _ Tryz.underlying37 rfl) ?_; simp only [Act.put, List.setIfInBounds_toArray, List.set_cons_zero, List.set_cons_succ]
            refine WH.only 13 _ rfl (by kernel_rfl) rfl (fun K hK => ?_); go_simp; refine (CS.out wS BS.out).mono ?_; rintro e wt ⟨rfl, hb9⟩; go_simp
            have BT := Lib.hid (bt BS.out hb9)
            clear hb9 CS
            have hSn := BT.out; refine hK _ _ hSn ?_; clear hK; clear K; simp only [List.set_cons_zero, List.set_cons_succ]
            refine WH.take 14 _ ?_ rfl (by kernel_rfl) (fun _ _ _ h => h) rfl (by assumption) ?_ ?_; rotate_left; (focus (intro w hSw; (try dsimp only at hSw); (first | (go_simp; done) | (go_simp; with_reducible rfl)))); simp only [Act.put, List.setIfInBounds_toArray, List.set_cons_zero, List.set_cons_succ]
            refine WH.take 15 _ ?_ rfl (by kernel_rfl) (fun _ _ _ h => h) rfl (by assumption) ?_ ?_; rotate_left; (focus (intro w hSw; (try dsimp only at hSw); (first | (go_simp; done) | (go_simp; with_reducible rfl)))); simp only [Act.put, List.setIfInBounds_toArray, List.set_cons_zero, List.set_cons_succ]
            refine WH.done (by kernel_rfl) ?_
            go_wp2_with fail
            go_roundw
            case rel => exact ⟨q + 1, by omega, by go_num, BT.out⟩
            case measure => simp [intOf]; omega
          · have d3 : decide ((q : Int) < 16) = false := by rw [decide_eq_false_iff_not]; omega
            go_wp2_with fail
            refine (works12_any _).mono ?_; rintro e wv ⟨rfl, hb10⟩
            have B10 := Lib.hid (bt (bt W9.out BQ.out) hb10)
            clear hb10
            go_wp2_with fail
            go_ret
            exact ⟨rfl, B10.out⟩

end Go.Proofs.YtknbjdldmednlaaGreat

/-
  Whatever the arguments of CacheSteps are, it answers true and leaves them. No condition.
-/
namespace Go.Proofs.YtknbjdldmednlaaGreat
open Go.ChangeShapes Go.WideShapes Go.ChangeAt Go.RowKit Go.ChangeMaps

set_option maxRecDepth 100000 in
theorem cacheSteps_lifted (os : Os) (started : os.Started) (H : Type) (enc : TypeId × Value → H) :
    ReturnsInHanded {} Tryz.checked os 3 .any (Rows.cacheStepsSpec.pre6 enc Tryz.prog Tryz.f3 Rows.cacheStepsRow.domain false) (Rows.cacheStepsSpec.post enc Tryz.prog Tryz.f3 false true false false) := by
  refine returnsInHanded_of_change (C := Tryz.checked) Tryz.own started (by kernel_rfl) Tryz.func3 (ChangeSpec.witness6 (enc := enc) (C := Tryz.checked) false ⟨#[], #[.slice none 0 0], []⟩ 8 (by kernel_rfl) (by kernel_rfl) (by kernel_rfl) (by kernel_rfl)) ?_; intro W base args ds gs before hval0 hW hcnd _; have hval : ∀ (j : Nat) t v, Tryz.f3.params[j]? = some t → args[j]? = some v → Value.okWide Tryz.prog W .any base t v := hval0; have hW' := hW; obtain ⟨p, q, hA0, hV, rfl, hfz, hnd⟩ := hW; have hA : DataW.TrodAll enc Tryz.prog W 0 (fun _ => true) true Tryz.f3.params.toList args.toList ds p := hA0; rw [Tryz.params3] at hA hval; obtain ⟨rfl, rfl⟩ := trodVars_none hV; clear hA0 hval0
  obtain ⟨v0, d0, rfl, rfl, h0⟩ := trodAll_one hA
  obtain ⟨A, n, c, l, rfl, hn, hc, hm, hr⟩ := open_changes Tryz.underlying22 Tryz.underlying42 (by kernel_rfl) Tryz.underlying3 (by kernel_rfl) Tryz.underlying3 (by kernel_rfl) rfl (by kernel_rfl) Tryz.underlying40 (by kernel_rfl) Tryz.underlying3 (by kernel_rfl) Tryz.underlying39 Tryz.underlying3 (by kernel_rfl) Tryz.underlying37 (by kernel_rfl) Tryz.underlying5 (by kernel_rfl) rfl rfl rfl rfl rfl rfl (hval 0 _ v0 rfl rfl) h0
  refine (cacheSteps_any A n c l hn hc hm W hr.rd).mono fun e W' ⟨he, hb⟩ => ?_
  subst he
  exact ⟨_, rfl, law_post Tryz.laidOut (readable_all (by kernel_rfl)) rfl rfl Tryz.underlying4 rfl hW' hb⟩

theorem cacheSteps_holds : Rows.CacheStepsSaid := OpenClaim.holds_of_wide 3 Tryz.f3 rfl rfl rfl rfl rfl rfl rfl ⟨rfl, rfl, rfl, rfl, rfl⟩ rfl rfl rfl rfl rfl (by kernel_rfl) Tryz.func3 (by kernel_rfl) (of_decide_eq_true (by kernel_rfl)) (by unfold Func.isWrapper; first | (rw [if_pos (by decide +kernel)]; kernel_rfl) | (rw [if_neg (by decide +kernel)]; exact ⟨rfl, rfl⟩)) (fun os started H enc _ => cacheSteps_lifted os started H enc)

end Go.Proofs.YtknbjdldmednlaaGreat
