/-
  The contract of the law's Begin (stage 13).
-/
import Derived.Test.YtpmbpklbiocclaaGreatGrBF
import Derived.Deep.CutRange
namespace Go.Proofs.YtpmbpklbiocclaaGreat
open Go.RowKit

section
variable {P : Program} {a : Act} {w : World}
theorem bodyPost_tmp2_struct {R : Ending → World → Prop} {fn : Func} {p q r : Tmp} {t : TypeId} (hf : fn.results = #[ResultVar.tmp q, ResultVar.tmp r, ResultVar.cell p t]) (g : Nat) (hp : a.tmps.getD p undef = .pointer (some ⟨g, 0, none⟩)) (t' : TypeId) (cs : Array Value) (hg : Blk w g t' cs)
    (d : TypeDesc) (hu : P.underlying t = some d) (hd1 : (match d with | .struct _ | .array _ _ => true | _ => false) = true) (hi : (P.info? t).map (·.size) = some cs.size) (hd : a.defers = []) (v : Value) (hq : a.tmps.getD q undef = v) (u : Value) (hr : a.tmps.getD r undef = u) (hR : Stop (R (.returned (.tuple #[v, u, .agg cs])) w)) : bodyPost P fn R .ret a w := by
  refine bodyPost_ret (v := .tuple #[v, u, .agg cs]) ?_ hd hR
  have hp' : a.tmps[p]?.getD undef = .pointer (some ⟨g, 0, none⟩) := by simpa using hp
  have hq' : a.tmps[q]?.getD undef = v := by simpa using hq
  have hr' : a.tmps[r]?.getD undef = u := by simpa using hr
  simp [results, hf, hp', hq', hr', asAddr, run_loadVar_row w g t' t cs (0, 0) _ hg hu hd1 hi]
end
theorem Tryz.stepInfoB : (Tryz.prog.info? 61).map (·.size) = some 5 := by kernel_rfl
def RetBg (w : World) (e : Ending) (w' : World) : Prop := ∃ (ro : Nat → Option Rl) (c b g : Nat) (x : DC) (Ab : Option Addr) (nb cb : Nat) (Al : Option Addr) (nl cl : Nat) (Ak : Option Addr) (nk ck : Nat) (H : List Cg), e = .returned (.tuple #[.pointer (some ⟨c, 0, none⟩), .pointer (some ⟨b, 0, none⟩), .agg #[.slice Ab nb cb, .slice Al nl cl, .int .i64 ((x).last : Int), .int .i64 (x).fuse, .bool (x).off, .int .i64 ((x).wrote : Int), .slice Ak nk ck]]) ∧ Cch w' ro c b g x 16 ∧ Std w w' ro ∧ DCQ (fun q => ro q = none) w' x Ab nb cb Al nl cl Ak nk ck ∧ x.base.length = 16 ∧ x.fuse < 9223372036854775808 ∧ x.Hist H
set_option maxRecDepth 100000 in
set_option maxHeartbeats 16000000 in
theorem begin13_any (A : Option Addr) (n cap : Nat) (l : List Cg) (hn : l.length = n) (hl16 : n ≤ 16) (hsz : ∀ c ∈ l, c.p.data.length ≤ 300 ∧ c.needs.length ≤ 20) (w : World) (hr : RdL RdC w A 5 l) :
    Calls Tryz.prog 8 #[.slice A n cap] w (RetBg w) := by
  have Hn := Lib.hid hn
  have Hr := Lib.hid hr
  have HSZ := Lib.hid hsz
  clear hn hr hsz
  go_enter Tryz.func8, Tryz.ntmps8
  go_wp2_with (refine wpList_alloc_row rfl _ rfl _ Tryz.dcZero ?_)
  apply Stop.go; intro w1 Hg1 Hb1
  obtain ⟨g4, hg4⟩ : ∃ q, q = w.heap.size := ⟨_, rfl⟩
  have Z1 := Lib.hid (show g4 = w.heap.size ∧ g4 < w1.heap.size from ⟨hg4, by have := Hg1.out.2; omega⟩)
  have W1 := Lib.hid Hg1.out.1
  rw [← hg4] at Hb1 ⊢
  clear hg4 Hg1
  go_wp2_with fail
  refine (dnew_any 16 (by omega) (by omega) _).mono ?_; rintro e w2 ⟨b, g, rfl, hb2, hg2, hd2, hbw2⟩
  have D2 := Lib.hid hd2
  have B2 := Lib.hid hbw2
  have L2 := Lib.hid (And.intro hb2 hg2)
  have Zc2 := Lib.hid (Hb1.out.ext hbw2)
  clear hb2 hg2 hd2 hbw2 Hb1
  go_wp2_with fail
  refine (c_new b g w2 D2.out).mono ?_; rintro e w3 ⟨ro3, c, rfl, hc3, ht3⟩
  have lo : Std w1 w2 (roD b g) := ⟨B2.out, fun k r hk => by
    unfold roD at hk
    by_cases e : k = b ∨ k = g
    · have := L2.out; omega
    · rw [if_neg e] at hk; cases hk⟩
  have C3 := Lib.hid hc3
  have S3 := Lib.hid (lo.tr ht3)
  have N4 := Lib.hid (S3.out.none Z1.out.2)
  have Zc3 := Lib.hid (Zc2.out.tr ht3 (lo.none Z1.out.2))
  clear hc3 ht3 lo D2 B2 Zc2
  go_wp2_with fail
  refine (new12_any (fun q => q ≠ g4 ∧ ro3 q = none) w3 (fun q hq => ⟨by have := Z1.out; have := S3.out.bel.size; omega, C3.out.none_ge hq⟩)).mono ?_; rintro e w4 ⟨Ab0, nb0, cb0, Al0, nl0, cl0, Ak0, nk0, ck0, rfl, hv4, hb4⟩
  have C4 := Lib.hid (C3.out.ext hb4)
  have S4 := Lib.hid (S3.out.ext hb4)
  have Zc4 := Lib.hid (Zc3.out.ext hb4)
  have V4 := Lib.hid hv4
  have E4 := Lib.hid (show (DC.new 16).base.length = 16 ∧ (DC.new 16).fuse < 9223372036854775808 ∧ (DC.new 16).Hist [] from ⟨List.length_replicate, by decide, DC.new_hist 16⟩)
  obtain ⟨x4, hx4⟩ : ∃ x, DC.new 16 = x := ⟨_, rfl⟩
  rw [hx4] at C4 V4 E4 ⊢
  clear hv4 hb4 C3 S3 Zc3 hx4
  go_wp2_with (refine wpList_alloc_row rfl _ rfl _ Tryz.dcZero ?_)
  apply Stop.go; intro w5 Hg5 Hb5
  obtain ⟨gx, hgx⟩ : ∃ q, q = w4.heap.size := ⟨_, rfl⟩
  have NX := Lib.hid (show ro3 gx = none ∧ w1.heap.size ≤ gx from by rw [hgx]; exact ⟨C4.out.none_ge (Nat.le_refl _), S4.out.bel.size⟩)
  have V5 := Lib.hid ((V4.out.mono (p' := fun q => q ≠ gx ∧ q ≠ g4 ∧ ro3 q = none) (fun q hq h => ⟨by omega, h⟩)).below Hg5.out.1)
  have C5 := Lib.hid (C4.out.ext Hg5.out.1)
  have S5 := Lib.hid (S4.out.ext Hg5.out.1)
  have Zc5 := Lib.hid (Zc4.out.ext Hg5.out.1)
  rw [← hgx] at Hb5 ⊢
  clear hgx V4 C4 S4 Zc4 Hg5
  go_wp2_with (refine wpList_store_arr rfl _ _ _ rfl _ #[.slice Ab0 nb0 cb0, .slice Al0 nl0 cl0, .int .i64 ((x4).last : Int), .int .i64 (x4).fuse, .bool (x4).off, .int .i64 ((x4).wrote : Int), .slice Ak0 nk0 ck0] rfl rfl _ _ Hb5.out Tryz.dcSize rfl (by simp [Value.oneCell']) ?_)
  apply Stop.go; intro w6 Ho6 Hb6
  have G4 := Lib.hid (show g4 ≠ gx from by have := NX.out.2; have := Z1.out; omega)
  have V6 := Lib.hid (V5.out.only Ho6.out (fun h => h.1 rfl))
  have C6 := Lib.hid (C5.out.only_none Ho6.out NX.out.1)
  have S6 := Lib.hid (S5.out.only Ho6.out NX.out.2)
  have Zc6 := Lib.hid (Zc5.out.only Ho6.out G4.out)
  clear V5 C5 S5 Zc5 Ho6 Hb5
  go_wp2_with fail
  go_loopw [8] (fun i wr => ∃ (k : Nat) (ro : Nat → Option Rl) (x : DC) (Ab1 : Option Addr) (nb1 cb1 : Nat) (Al1 : Option Addr) (nl1 cl1 : Nat) (Ak1 : Option Addr) (nk1 ck1 : Nat) (H : List Cg), k ≤ n ∧ i = .int .i64 k ∧ Cch wr ro c b g x k ∧ Std w1 wr ro ∧ Blk wr gx 32 #[.slice Ab1 nb1 cb1, .slice Al1 nl1 cl1, .int .i64 ((x).last : Int), .int .i64 (x).fuse, .bool (x).off, .int .i64 ((x).wrote : Int), .slice Ak1 nk1 ck1] ∧ Blk wr g4 32 #[.slice none 0 0, .slice none 0 0, .int .i64 0, .int .i64 0, .bool false, .int .i64 0, .slice none 0 0] ∧ DCQ (fun q => q ≠ gx ∧ q ≠ g4 ∧ ro q = none) wr x Ab1 nb1 cb1 Al1 nl1 cl1 Ak1 nk1 ck1 ∧ x.base.length = 16 ∧ x.fuse < 9223372036854775808 ∧ ro gx = none ∧ ro g4 = none ∧ x.Hist H) (fun i _ => n - (intOf i).toNat)
  case atStart => exact ⟨0, ro3, x4, _, _, _, _, _, _, _, _, _, _, Nat.zero_le _, rfl, C6.out, S6.out, Hb6.out, Zc6.out, V6.out, E4.out.1, E4.out.2.1, NX.out.1, N4.out, E4.out.2.2⟩
  case round =>
    obtain ⟨k, ro, x, Ab1, nb1, cb1, Al1, nl1, cl1, Ak1, nk1, ck1, H, hk, rfl, hc, hst, hbx, hz4, hq, hbl, hfu, hno, hn4, hh⟩ := hrel
    have C := Lib.hid hc
    have S := Lib.hid hst
    have X := Lib.hid hbx
    have Z4 := Lib.hid hz4
    have Q := Lib.hid hq
    have BL := Lib.hid hbl
    have FU := Lib.hid hfu
    have NO := Lib.hid hno
    have NF := Lib.hid hn4
    have HH := Lib.hid hh
    clear hc hst hbx hz4 hq hbl hfu hno hn4 hh C6 S6 V6 Hb6 Zc6 E4
    by_cases hlt : k < n
    · have d1 : decide ((k : Int) < (n : Int)) = true := by simpa using hlt
      have z1 : (k : Int) < n := by omega
      have hkl : k < l.length := by rw [Hn.out]; exact hlt
      have HSK := Lib.hid (HSZ.out _ (List.getElem_mem hkl))
      obtain ⟨ad, Ad, nd, cd, An, nn, cn, rfl, hcv, g0, g1, g2, g3, g4'⟩ := Hr.out.cg hkl
      have CV0 := Lib.hid hcv
      rw [hcv.p.len, hcv.len] at HSK
      generalize l[k] = s at *
      have FN := Lib.hid (fun (hz : 0 < nn) (ad : Addr) (e : An = some ad) => S.out.none (Nat.lt_of_lt_of_le (needs_low hcv hz ad e) W1.out.size))
      have FD := Lib.hid (fun (hz : 0 < nd) (ad : Addr) (e : Ad = some ad) => (show ad.block ≠ gx ∧ ad.block ≠ g4 ∧ ad.block < w1.heap.size from ⟨by have h1 := bytes_low hcv hz ad e; have h2 := NX.out.2; have h3 := W1.out.size; omega, by have h1 := bytes_low hcv hz ad e; have h2 := Z1.out; omega, by have h1 := bytes_low hcv hz ad e; have h3 := W1.out.size; omega⟩))
      have G0 := Lib.hid (cell_ext W1.out g0)
      have G1 := Lib.hid (cell_ext W1.out g1)
      have G2 := Lib.hid (cell_ext W1.out g2)
      have G3 := Lib.hid (cell_ext W1.out g3)
      have G4' := Lib.hid (cell_ext W1.out g4')
      have CV1 := Lib.hid (CV0.out.below W1.out)
      clear hkl hcv g0 g1 g2 g3 g4'
      have h0 := cell_ext S.out.bel G0.out
      have h1 := cell_ext S.out.bel G1.out
      have h2 := cell_ext S.out.bel G2.out
      have h3 := cell_ext S.out.bel G3.out
      have h4 := cell_ext S.out.bel G4'.out
      have CG2 := go12_any C.out (by omega) s Ad nd cd An nn cn (CV1.out.below S.out.bel) HSK.out.1 HSK.out.2 FN.out
      have LG := Lib.hid (show (x.go (stOf s)).1.base.length = 16 by rw [DC.go_blen]; exact BL.out)
      have FG := Lib.hid (DC.go_fuse (x := x) (s := stOf s) FU.out CV0.out.hi1)
      have HG := Lib.hid (DC.go_hist HH.out C.out.ok (stOf s))
      have XK := Lib.hid (And.intro C.out.ok (show x.last ≤ 900 from by have := C.out.last; omega))
      generalize (if (stOf s).do_ = 0 ∧ x.putE (stOf s) = 0 then H ++ [x.made (stOf s)] else H) = H2 at HG
      have CG := fun (p' : Nat → Prop) (w' : World) (hp' : ∀ q, w'.heap.size ≤ q → p' q) (hq : DCQ p' w' x Ab1 nb1 cb1 Al1 nl1 cl1 Ak1 nk1 ck1) (hv : CV w' s Ad nd cd An nn cn) (hd : 0 < nd → ∀ ad, Ad = some ad → p' ad.block) => (show Calls Tryz.prog 25 #[.agg #[.slice Ab1 nb1 cb1, .slice Al1 nl1 cl1, .int .i64 ((x).last : Int), .int .i64 (x).fuse, .bool (x).off, .int .i64 ((x).wrote : Int), .slice Ak1 nk1 ck1], .agg #[.int .i64 s.id, .int .i64 s.block, .int .i64 s.p.at_, .slice Ad nd cd, .slice An nn cn]] w' (RetDNE p' w' (x.go (stOf s)).1 (x.go (stOf s)).2.1 (x.go (stOf s)).2.2) from rgo12_any p' x Ab1 nb1 cb1 Al1 nl1 cl1 Ak1 nk1 ck1 s Ad nd cd An nn cn w' hp' hq hv hd HSK.out.1 HSK.out.2 XK.out.1 XK.out.2 FU.out)
      obtain ⟨y, hy⟩ : ∃ y, (x.go (stOf s)).1 = y := ⟨_, rfl⟩
      obtain ⟨zn, hzn⟩ : ∃ z, (x.go (stOf s)).2.1 = z := ⟨_, rfl⟩
      obtain ⟨ze, hze⟩ : ∃ z, (x.go (stOf s)).2.2 = z := ⟨_, rfl⟩
      rw [hy, hzn, hze] at CG CG2
      rw [hy] at LG FG HG
      have CG := Lib.hid CG
      clear hy hzn hze
      go_wp2_with (refine wpList_load_five rfl _ _ rfl (ad.add (k * 5)) rfl _ _ _ _ _ h0 h1 h2 h3 h4 _ Tryz.underlying61 Tryz.stepInfoB ?_)
      refine (CG2).mono ?_; rintro e w7 ⟨rfl, ro7, hc7, ht7⟩
      have C7 := Lib.hid hc7
      have S7 := Lib.hid (S.out.tr ht7)
      have X7 := Lib.hid (X.out.tr ht7 NO.out)
      have Z7 := Lib.hid (Z4.out.tr ht7 NF.out)
      have N7 := Lib.hid (ht7.keep gx X.out.lt NO.out).1
      have M7 := Lib.hid (ht7.keep g4 Z4.out.lt NF.out).1
      have Q7 := Lib.hid (Q.out.tr (p' := fun q => q ≠ gx ∧ q ≠ g4 ∧ ro7 q = none) ht7 (fun q h => h.2.2) (fun q h h2 => ⟨h.1, h.2.1, h2⟩))
      have PN := Lib.hid (show ∀ q, w7.heap.size ≤ q → q ≠ gx ∧ q ≠ g4 ∧ ro7 q = none from fun q hq => ⟨by have := X7.out.lt; omega, by have := Z7.out.lt; omega, C7.out.none_ge hq⟩)
      have FD7 := Lib.hid (fun (hz : 0 < nd) (ad : Addr) (e : Ad = some ad) => (show (ad.block ≠ gx ∧ ad.block ≠ g4 ∧ ro7 ad.block = none) ∧ ad.block < w1.heap.size from ⟨⟨(FD.out hz ad e).1, (FD.out hz ad e).2.1, S7.out.none (FD.out hz ad e).2.2⟩, (FD.out hz ad e).2.2⟩))
      clear hc7 ht7 CG2 C S X Z4 Q NO NF h0 h1 h2 h3 h4
      go_upto_region 8 with fail
      go_cut [9] from 33 to 42 (fun v9 wx => ∃ (g7 : Nat) (Ab2 : Option Addr) (nb2 cb2 : Nat) (Al2 : Option Addr) (nl2 cl2 : Nat) (Ak2 : Option Addr) (nk2 ck2 : Nat), v9 = .pointer (some ⟨g7, 0, none⟩) ∧ Blk wx g7 32 #[.slice Ab2 nb2 cb2, .slice Al2 nl2 cl2, .int .i64 ((y).last : Int), .int .i64 (y).fuse, .bool (y).off, .int .i64 ((y).wrote : Int), .slice Ak2 nk2 ck2] ∧ DCQ (fun q => q ≠ gx ∧ q ≠ g4 ∧ ro7 q = none) wx y Ab2 nb2 cb2 Al2 nl2 cl2 Ak2 nk2 ck2 ∧ Below w7.heap.size w7 wx)
      case first =>
        refine WH.start (S := fun w' : World => Below w7.heap.size w7 w') [false, false, false, false, false, false, false, false, false, false, false, false, false, false] 14 rfl rfl (by kernel_rfl) (bdrew w7 1) (fun hSn => ?_)
        obtain ⟨wS, hwS⟩ : ∃ q, w7.drew = q := ⟨_, rfl⟩
        rw [hwS] at hSn ⊢
        have BS := Lib.hid hSn
        clear hwS
        refine WH.tv 0 rfl (fun w' hSw => exec_load_blk _ _ rfl _ rfl _ _ (X7.out.ext hSw) _ (Tryz.underlying32) rfl (Tryz.dcSize)) ?_; simp only [setL]
        refine WH.tk 1 ?_; simp only [setL]
        refine WH.tk 2 ?_; simp only [setL]
        refine WH.tk 3 ?_; simp only [setL]
        refine WH.tv 4 rfl (fun w' hSw => exec_load_five _ _ rfl (ad.add (k * 5)) rfl _ _ _ _ _ (cell_ext (bt S7.out.bel hSw) G0.out) (cell_ext (bt S7.out.bel hSw) G1.out) (cell_ext (bt S7.out.bel hSw) G2.out) (cell_ext (bt S7.out.bel hSw) G3.out) (cell_ext (bt S7.out.bel hSw) G4'.out) _ Tryz.underlying61 Tryz.stepInfoB) ?_; simp only [setL]
        refine WH.two 5 10 _ _ rfl rfl (by kernel_rfl) rfl rfl (fun K hK => ?_) (fun K hK => ?_)
        focus (
          go_simp; refine (CG.out (fun q => q ≠ gx ∧ q ≠ g4 ∧ ro7 q = none) wS (fun q hq => PN.out q (Nat.le_trans BS.out.size hq)) (Q7.out.below BS.out) (CV1.out.below (bt S7.out.bel BS.out)) (fun hz ad e => (FD7.out hz ad e).1)).mono ?_; rintro e w5 ⟨Ab2, nb2, cb2, Al2, nl2, cl2, Ak2, nk2, ck2, rfl, hv5, hb5⟩; go_simp
          have V5 := Lib.hid hv5
          have B5 := Lib.hid (bt BS.out hb5)
          clear hv5 hb5 CG
          have hSn := B5.out; refine hK _ _ hSn ?_; clear hK; clear K; simp only [setL]
          refine WH.tk 6 ?_; simp only [setL]
          refine WH.tk 7 ?_; simp only [setL]
          refine WH.tk 8 ?_; simp only [setL]
          refine WH.tk 9 ?_; simp only [setL]
          refine WH.only 10 _ rfl (by kernel_rfl) rfl (fun K hK => ?_)
          refine ow_alloc _ rfl _ Tryz.dcZero ?_
          apply Stop.go; intro w6 Hg6 Hb6
          have B6 := Lib.hid (bt B5.out Hg6.out.1)
          have hSn := B6.out; refine hK _ _ hSn ?_; clear hK; clear K; simp only [setL]
          refine WH.only 11 _ rfl (by kernel_rfl) rfl (fun K hK => ?_)
          refine ow_store _ _ _ rfl _ #[.slice Ab2 nb2 cb2, .slice Al2 nl2 cl2, .int .i64 ((y).last : Int), .int .i64 (y).fuse, .bool (y).off, .int .i64 ((y).wrote : Int), .slice Ak2 nk2 ck2] rfl rfl _ _ Hb6.out Tryz.dcSize rfl (by simp [Value.oneCell']) ?_
          apply Stop.go; intro wm Ho7 Hb7
          have B57 := Lib.hid (bonly (bt (Below.refl _ w5) Hg6.out.1) Ho7.out (Nat.le_refl _))
          have BM := Lib.hid (bt B5.out B57.out)
          have VM := Lib.hid (V5.out.below B57.out)
          have hSn := BM.out; refine hK _ _ hSn ?_; clear hK; clear K; simp only [setL]
          refine WH.tk 12 ?_; simp only [setL]
          refine WH.tk 13 ?_; simp only [setL]
          refine WH.done (by kernel_rfl) ?_
          clear B6 Hg6 Hb6 Ho7 B57 V5 B5
          obtain ⟨gy, hgy⟩ : ∃ q, q = w5.heap.size := ⟨_, rfl⟩
          rw [← hgy] at Hb7 ⊢
          clear hgy)
        rotate_left
        focus (
          refine ow_alloc _ rfl _ Tryz.dcZero ?_
          apply Stop.go; intro w5 Hg5 Hb5
          have B5 := Lib.hid (bt BS.out Hg5.out.1)
          have hSn := B5.out; refine hK _ _ hSn ?_; clear hK; clear K; simp only [setL]
          have N5 := Lib.hid (show w5.heap.size = wS.heap.size + 1 ∧ w7.heap.size ≤ wS.heap.size ∧ w1.heap.size ≤ w7.heap.size from ⟨Hg5.out.2, BS.out.size, S7.out.bel.size⟩)
          refine WH.only 5 _ rfl (by kernel_rfl) rfl (fun K hK => ?_); go_simp; refine (CG.out (fun q => (q ≠ gx ∧ q ≠ g4 ∧ ro7 q = none) ∧ q ≠ wS.heap.size) w5 (fun q hq => ⟨PN.out q (by have := N5.out; omega), by have := N5.out; omega⟩) ((Q7.out.mono (fun q hq h => ⟨h, by have := N5.out; omega⟩)).below B5.out) (CV1.out.below (bt S7.out.bel B5.out)) (fun hz ad e => ⟨(FD7.out hz ad e).1, by have h1 := (FD7.out hz ad e).2; have := N5.out; omega⟩)).mono ?_; rintro e w6 ⟨Ab2, nb2, cb2, Al2, nl2, cl2, Ak2, nk2, ck2, rfl, hv6, hb6⟩; go_simp
          have V6 := Lib.hid hv6
          have B6 := Lib.hid (bt B5.out hb6)
          have Hb6 := Lib.hid (Hb5.out.ext hb6)
          clear hv6 hb6 CG Hb5 Hg5
          have hSn := B6.out; refine hK _ _ hSn ?_; clear hK; clear K; simp only [setL]
          refine WH.tk 6 ?_; simp only [setL]
          refine WH.tk 7 ?_; simp only [setL]
          refine WH.tk 8 ?_; simp only [setL]
          refine WH.tk 9 ?_; simp only [setL]
          refine WH.only 11 _ rfl (by kernel_rfl) rfl (fun K hK => ?_)
          refine ow_store _ _ _ rfl _ #[.slice Ab2 nb2 cb2, .slice Al2 nl2 cl2, .int .i64 ((y).last : Int), .int .i64 (y).fuse, .bool (y).off, .int .i64 ((y).wrote : Int), .slice Ak2 nk2 ck2] rfl rfl _ _ Hb6.out Tryz.dcSize rfl (by simp [Value.oneCell']) ?_
          apply Stop.go; intro wm Ho7 Hb7
          have BM := Lib.hid (bonly B6.out Ho7.out N5.out.2.1)
          have VM := Lib.hid ((V6.out.only Ho7.out (fun h => h.2 rfl)).mono (p' := fun q => q ≠ gx ∧ q ≠ g4 ∧ ro7 q = none) (fun q _ h => h.1))
          have hSn := BM.out; refine hK _ _ hSn ?_; clear hK; clear K; simp only [setL]
          refine WH.tk 12 ?_; simp only [setL]
          refine WH.tk 13 ?_; simp only [setL]
          refine WH.done (by kernel_rfl) ?_
          clear B6 Hb6 Ho7 V6 B5 N5
          obtain ⟨gy, hgy⟩ : ∃ q, q = wS.heap.size := ⟨_, rfl⟩
          rw [← hgy] at Hb7 ⊢
          clear hgy)
        all_goals
          go_wp2_with fail
          go_meet
          exact ⟨gy, _, _, _, _, _, _, _, _, _, rfl, Hb7.out, VM.out, BM.out⟩
      case rest =>
        obtain ⟨g7, Ab2, nb2, cb2, Al2, nl2, cl2, Ak2, nk2, ck2, rfl, hb7, hv7, hbw7⟩ := hcut
        have Hb7 := Lib.hid hb7
        have C8 := Lib.hid (C7.out.ext hbw7)
        have S8 := Lib.hid (S7.out.ext hbw7)
        have X8 := Lib.hid (X7.out.ext hbw7)
        have Z8 := Lib.hid (Z7.out.ext hbw7)
        have V8 := Lib.hid hv7
        clear hb7 hv7 hbw7 CG C7 S7 X7 Z7 Q7 PN FD7
        go_wp2_with (first | refine wpList_load_blk rfl _ _ rfl _ rfl _ _ Hb7.out _ Tryz.underlying32 rfl Tryz.dcSize ?_ | refine wpList_store_arr rfl _ _ _ rfl _ #[.slice Ab2 nb2 cb2, .slice Al2 nl2 cl2, .int .i64 ((y).last : Int), .int .i64 (y).fuse, .bool (y).off, .int .i64 ((y).wrote : Int), .slice Ak2 nk2 ck2] rfl rfl _ _ X8.out Tryz.dcSize rfl (by simp [Value.oneCell']) ?_); apply Stop.go; intro w9 Ho9 Hb9
        have C9 := Lib.hid (C8.out.only_none Ho9.out N7.out)
        have S9 := Lib.hid (S8.out.only Ho9.out NX.out.2)
        have Z9 := Lib.hid (Z8.out.only Ho9.out G4.out)
        have V9 := Lib.hid (V8.out.only Ho9.out (fun h => h.1 rfl))
        clear Ho9 C8 S8 Z8 V8 X8 Hb7
        go_wp2_with fail
        go_roundw
        case rel => exact ⟨k + 1, ro7, y, _, _, _, _, _, _, _, _, _, _, by omega, by go_num, C9.out, S9.out, Hb9.out, Z9.out, V9.out, LG.out, FG.out, N7.out, M7.out, HG.out⟩
        case measure => simp [intOf]; omega
    · have d1 : decide ((k : Int) < (n : Int)) = false := by simpa using hlt
      go_wp2_with fail
      refine WH.start (S := fun w' : World => Blk w' gx 32 #[.slice Ab1 nb1 cb1, .slice Al1 nl1 cl1, .int .i64 ((x).last : Int), .int .i64 (x).fuse, .bool (x).off, .int .i64 ((x).wrote : Int), .slice Ak1 nk1 ck1]) [false, false, false, false, false, false] 6 rfl rfl (by kernel_rfl) (X.out.ext (bdrew wr 1)) (fun hSn => ?_)
      obtain ⟨wS, hwS⟩ : ∃ q, wr.drew = q := ⟨_, rfl⟩
      have BS := Lib.hid (show Below wr.heap.size wr wS by rw [← hwS]; exact bdrew wr 1)
      rw [hwS] at hSn ⊢
      clear hwS
      refine WH.tk 0 ?_; simp only [setL]
      refine WH.tk 1 ?_; simp only [setL]
      refine WH.tv 2 rfl (fun w' hSw => exec_load_blk _ _ rfl _ rfl _ _ (hSw) _ (Tryz.underlying32) rfl (Tryz.dcSize)) ?_; simp only [setL]
      refine WH.tk 3 ?_; simp only [setL]
      refine WH.tk 4 ?_; simp only [setL]
      refine WH.only 5 _ rfl (by kernel_rfl) rfl (fun K hK => ?_)
      refine ow_store _ _ _ rfl _ #[.slice Ab1 nb1 cb1, .slice Al1 nl1 cl1, .int .i64 ((x).last : Int), .int .i64 (x).fuse, .bool (x).off, .int .i64 ((x).wrote : Int), .slice Ak1 nk1 ck1] rfl rfl _ _ (Z4.out.ext BS.out) Tryz.dcSize rfl (by simp [Value.oneCell']) ?_
      apply Stop.go; intro we Hoe Hbe
      have hSn := hSn.only Hoe.out (fun e => G4.out e.symm); refine hK _ _ hSn ?_; clear hK; clear K; simp only [setL]
      refine WH.done (by kernel_rfl) ?_
      go_wp2_with ((with_reducible show bodyPost _ _ _ _ _ _); refine bodyPost_tmp2_struct rfl _ rfl _ _ Hbe.out _ Tryz.underlying32 rfl Tryz.dcSize rfl _ rfl _ rfl ?_)
      apply Stop.go
      refine ⟨ro, c, b, g, x, _, _, _, _, _, _, _, _, _, H, rfl, ((C.out.ext BS.out).only_none Hoe.out NF.out).mono (by omega), ⟨?_, fun q r hq => Nat.le_trans W1.out.size (S.out.low q r hq)⟩, ((Q.out.below BS.out).only Hoe.out (fun h => h.2.1 rfl)).mono (fun q _ h => h.2.2), BL.out, FU.out, HH.out⟩
      exact bonly (bt (bt W1.out S.out.bel) BS.out) Hoe.out (by have := Z1.out; omega)

end Go.Proofs.YtpmbpklbiocclaaGreat
