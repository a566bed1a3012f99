/-
  Texts of this claim joined: Sch13b, Law13w, Sch13c.
-/
import Derived.Test.YtpmbpklbiocclaaGreatGrBC
import Derived.Test.YtpmbpklbiocclaaGreatLaw13t

/-
  The contracts of package sched's Run, Round (stage 13).
-/
namespace Go.Proofs.YtpmbpklbiocclaaGreat
open Go.RowKit

theorem stepC : StepC := fun _ _ _ _ _ _ _ _ h hT h16 hm => c_step h hT h16 _ hm
set_option maxRecDepth 100000 in
set_option maxHeartbeats 4000000 in
theorem roundC13 : RoundC := by
  intro w ro c b g x T h hT h16
  have H := Lib.hid h
  have H16 := Lib.hid h16
  have HXR := Lib.hid (show x.round = x.roundGo (blocksC x.list) from rfl)
  have HB := Lib.hid (fun (k : Nat) (hk : k < (blocksC x.list).length) => (show -9223372036854775808 ≤ (blocksC x.list)[k] ∧ (blocksC x.list)[k] < 9223372036854775808 from by
    obtain ⟨d, hd, he⟩ := (blocksC_mem x.list _).1 (List.getElem_mem hk)
    have h1 := h.ok.blk d hd
    have h2 := h16
    omega))
  have HBL := Lib.hid (show (blocksC x.list).length ≤ 1000 from by have h1 := blocksC_len x.list; have h2 := h.ok.wrote; have h3 := h.last; omega)
  have CD := c_dirty h hT
  clear h h16
  generalize blocksC x.list = L at *
  go_enter Tryz.func15, Tryz.ntmps15
  go_wp2_with fail
  refine (CD).mono ?_; rintro e w1 ⟨v, rfl, hoi, hb1⟩
  have OL := Lib.hid (fun q (e : v.ownBlock = some q) => (OwnC.lt hoi q e).1)
  obtain ⟨Ai, ci, ei, -, -, hri⟩ := hoi.ints
  obtain ⟨ni, hni⟩ : ∃ n, L.length = n := ⟨_, rfl⟩
  rw [hni] at ei HBL
  subst ei
  have HNI := Lib.hid hni
  have RI := Lib.hid hri
  have C1 := Lib.hid (H.out.ext hb1)
  have T1 := Lib.hid (Tr.of_below ro hb1)
  have NF := Lib.hid (show ∀ ad, Ai = some ad → ro ad.block = none from fun ad e => by subst e; exact H.out.none_ge (OL.out ad.block rfl))
  clear hri hoi hb1 hni CD OL
  go_wp2_with fail
  go_loopw [11] (fun i wr => ∃ (q : Nat) (rq : Nat → Option Rl) (y : DC), q ≤ ni ∧ i = .int .i64 q ∧ Cch wr rq c b g y T ∧ Tr ro rq w wr ∧ Tr ro rq w1 wr ∧ Hid (x.round = y.roundGo (L.drop q))) (fun i _ => ni - (intOf i).toNat)
  case atStart => exact ⟨0, ro, x, Nat.zero_le _, rfl, C1.out, T1.out, Tr.refl _ _, Lib.hid (by rw [List.drop_zero]; exact HXR.out)⟩
  case round =>
    obtain ⟨q, rq, y, hq, rfl, hc, ht, ht1, HE⟩ := hrel
    have hni2 := HBL.out
    have C := Lib.hid hc
    have T2 := Lib.hid ht
    have T3 := Lib.hid ht1
    clear hc ht ht1 C1 T1
    by_cases hlt : q < ni
    · have d0 : decide ((q : Int) < (ni : Int)) = true := by simpa using hlt
      have z1 : (q : Int) < ni := by omega
      have hql : q < L.length := by rw [HNI.out]; exact hlt
      have HD := Lib.hid (show L.drop q = L[q] :: L.drop (q + 1) from List.drop_eq_getElem_cons hql)
      have RW := RI.out.tr T3.out NF.out
      obtain ⟨ad, rfl, kc⟩ := RW.int q hql
      have hbk := HB.out q hql
      generalize L[q] = no at *
      rw [HD.out] at HE
      have HRu := Lib.hid (show y.roundGo (no :: L.drop (q + 1)) = if y.flushE no = 0 then (y.flush no).roundGo (L.drop (q + 1)) else (y.flush no, y.flushE no) from rfl)
      have CF := c_flush C.out hT no hbk.1 hbk.2
      obtain ⟨z, hz⟩ : ∃ z, y.flush no = z := ⟨_, rfl⟩
      obtain ⟨ze, hze⟩ : ∃ z, y.flushE no = z := ⟨_, rfl⟩
      rw [hz, hze] at CF HRu
      rw [HRu.out] at HE
      clear hz hze HRu hql RW
      go_wp2_with fail
      refine (CF).mono ?_; rintro e w2 ⟨rfl, r2, hc2, ht2⟩
      have C2 := Lib.hid hc2
      have T4 := Lib.hid (T2.out.trans ht2)
      have T5 := Lib.hid (T3.out.trans ht2)
      clear hc2 ht2 CF C T2 T3 kc
      by_cases hz0 : ze = 0
      · have e1 : (ze == 0) = true := by simp [hz0]
        rw [if_pos hz0] at HE
        subst hz0
        go_wp2_with fail
        go_roundw
        case rel => exact ⟨q + 1, r2, z, by omega, by go_num, C2.out, T4.out, T5.out, HE⟩
        case measure => simp [intOf]; omega
      · have e1 : (ze == 0) = false := by simpa using hz0
        rw [if_neg hz0] at HE
        clear hz0
        go_wp2_with fail
        go_ret
        rw [HE.out]
        exact ⟨rfl, r2, C2.out, T4.out⟩
    · have d0 : decide ((q : Int) < (ni : Int)) = false := by simpa using hlt
      rw [List.drop_eq_nil_of_le (by rw [HNI.out]; omega)] at HE
      go_wp2_with fail
      go_ret
      rw [HE.out]
      exact ⟨rfl, rq, C.out, T2.out⟩

end Go.Proofs.YtpmbpklbiocclaaGreat

/-
  The law's works (stage 13), by the contracts of sched's functions.
-/
namespace Go.Proofs.YtpmbpklbiocclaaGreat
open Go.RowKit

def RoundsC : Prop := ∀ (w : World) (ro : Nat → Option Rl) (c b g : Nat) (x : DC) (T most : Nat), Cch w ro c b g x T → T ≤ 1000 → x.base.length = 16 → most < 1000 →
    Calls Tryz.prog 22 #[.pointer (some ⟨c, 0, none⟩), .int .i64 (most : Int)] w fun e w' => e = .returned (.tuple #[.int .i64 ((x.rounds most 0).2.1 : Int), .int .i64 (x.rounds most 0).2.2]) ∧ ∃ ro', Cch w' ro' c b g (x.rounds most 0).1 T ∧ Tr ro ro' w w'
theorem xw13_all : ∃ x0 x1 x2 x3 : DC, DC.new 16 = x0 ∧ x0.put xs1 = x1 ∧ x1.put xs2 = x2 ∧ (x2.rounds 9 0).1 = x3 ∧ (x0.putN xs1 = 1 ∧ x0.putE xs1 = 0) ∧ (x1.putN xs2 = 2 ∧ x1.putE xs2 = 0) ∧ deepC x2.list = 2 ∧ ((x2.rounds 9 0).2.1 = 1 ∧ (x2.rounds 9 0).2.2 = 0) ∧ x3.list.length = 0 ∧ x2.base.length = 16 ∧ x3.base.length = 16 :=
  ⟨_, _, _, _, rfl, rfl, rfl, rfl, by decide +kernel⟩
set_option maxRecDepth 100000 in
set_option maxHeartbeats 8000000 in
theorem works13_of (HD : DeepC) (HRs : RoundsC) (HS : StepC) : WorksC := by
  intro w
  obtain ⟨x0, x1, x2, x3, e0, e1, e2, e3, p1, p2, dd, rr, ll, b2, b3⟩ := xw13_all
  have E0 := Lib.hid e0
  have E1 := Lib.hid e1
  have E2 := Lib.hid e2
  have E3 := Lib.hid e3
  have P1 := Lib.hid p1
  have P2 := Lib.hid p2
  have DD := Lib.hid dd
  have RR := Lib.hid rr
  have L3 := Lib.hid (show x3.step (atB 4602678819172646912) = (x3, -1, 0) from by
    unfold DC.step
    rw [if_pos (by rw [List.eq_nil_of_length_eq_zero ll]; rfl)])
  have B2' := Lib.hid b2
  have B3' := Lib.hid b3
  have HD := Lib.hid HD
  have HRs := Lib.hid HRs
  have HS := Lib.hid HS
  clear e0 e1 e2 e3 p1 p2 dd rr ll b2 b3
  go_enter Tryz.func7, Tryz.ntmps7
  go_wp2_with fail
  refine (dnew_any 16 (by omega) (by omega) _).mono ?_; rintro e w1 ⟨b, g, rfl, hb1, hg1, hd1, hbw1⟩
  have D1 := Lib.hid hd1
  have B1 := Lib.hid hbw1
  have L1 := Lib.hid (And.intro hb1 hg1)
  clear hb1 hg1 hd1 hbw1
  go_wp2_with fail
  refine (c_new b g w1 D1.out).mono ?_; rintro e w2 ⟨ro2, c, rfl, hc2, ht2⟩
  have lo1 : Std w w1 (roD b g) := ⟨B1.out, fun k r hk => by
    unfold roD at hk
    by_cases e : k = b ∨ k = g
    · have := L1.out; omega
    · rw [if_neg e] at hk; cases hk⟩
  rw [E0.out] at hc2
  have C2 := Lib.hid hc2
  have S2 := Lib.hid (lo1.tr ht2)
  clear hc2 ht2 lo1 D1 B1
  go_wp2_with (refine wpList_build_one1 rfl _ _ _ rfl Tryz.underlying56 1 _ Tryz.byteInfo (.int .u8 9) rfl rfl rfl ?_)
  apply Stop.go; intro w3 Hg3 Hb3
  go_wp2_with (refine wpList_alloc_row rfl _ rfl _ Tryz.patchZero ?_)
  apply Stop.go; intro w4 Hg4 Hb4
  obtain ⟨gb, hgb⟩ : ∃ x, x = w2.heap.size := ⟨_, rfl⟩
  obtain ⟨gp, hgp⟩ : ∃ x, x = w3.heap.size := ⟨_, rfl⟩
  rw [← hgb] at Hb3 ⊢
  rw [← hgp] at Hb4 ⊢
  have hne : gb ≠ gp := by have := Hg3.out.2; omega
  have N2b := Lib.hid (C2.out.none_ge (q := gb) (by omega))
  have N2p := Lib.hid (C2.out.none_ge (q := gp) (by have := Hg3.out.1.size; omega))
  have HGP := Lib.hid hgp
  clear hgb hgp
  go_wp2_with (refine wpList_store_arr rfl _ _ _ rfl _ #[.int .i64 0, .slice (some ⟨gb, 0, none⟩) 1 1] rfl rfl _ _ Hb4.out Tryz.patchSize rfl (by simp [Value.oneCell']) ?_)
  apply Stop.go; intro w5 Ho5 Hb5
  have C5 := Lib.hid (((C2.out.ext Hg3.out.1).ext Hg4.out.1).only_none Ho5.out N2p.out)
  have S5 := Lib.hid (((S2.out.ext Hg3.out.1).ext Hg4.out.1).only Ho5.out (by have h1 := S2.out.bel.size; have h2 := Hg3.out.1.size; have := HGP.out; omega))
  have X5 := Lib.hid ((Hb3.out.ext Hg4.out.1).only Ho5.out hne)
  clear C2 S2 Hb3 Hb4 Ho5 Hg3 Hg4
  have pv : ∀ w' : World, Blk w' gb 5 #[.int .u8 9] → PV w' ⟨0, [9]⟩ (some ⟨gb, 0, none⟩) 1 1 := fun w' h => ⟨by decide, by decide, rfl, Nat.le_refl _, by unfold maxLen; omega, RB.of_blk9 h⟩
  have CP := c_put C5.out (by omega) 3 (by omega) (by omega) ⟨0, [9]⟩ _ 1 1 (pv _ X5.out) none 0 0 [] rfl (by omega) (RC.nil_ _ _) (fun y hy => (by cases hy)) (fun ad e => by injection e with e; subst e; exact N2b.out) (fun _ ad e => by cases e)
  rw [show (⟨0, 3, ⟨0, [9]⟩, []⟩ : StC) = xs1 from rfl, P1.out.1, P1.out.2, E1.out] at CP
  go_wp2_with (refine wpList_load_blk rfl _ _ rfl _ rfl _ _ Hb5.out _ Tryz.underlying64 rfl Tryz.patchSize ?_)
  refine (CP).mono ?_; rintro e w6 ⟨rfl, ro6, hc6, ht6⟩
  have C6 := Lib.hid hc6
  have S6 := Lib.hid (S5.out.tr ht6)
  have X6 := Lib.hid (X5.out.tr ht6 N2b.out)
  have Y6 := Lib.hid (Hb5.out.tr ht6 N2p.out)
  have N6b := Lib.hid (ht6.keep gb X5.out.lt N2b.out).1
  clear hc6 ht6 CP C5 S5 X5 Hb5 N2b N2p
  go_wp2_with (first | refine wpList_load_blk rfl _ _ rfl _ rfl _ _ Y6.out _ Tryz.underlying64 rfl Tryz.patchSize ?_ | refine wpList_build_one1 rfl _ _ _ rfl Tryz.underlying59 8 _ Tryz.infoInt (.int .i64 1) rfl rfl rfl ?_)
  apply Stop.go; intro w7 Hg7 Hb7
  have C7 := Lib.hid (C6.out.ext Hg7.out.1)
  have S7 := Lib.hid (S6.out.ext Hg7.out.1)
  have X7 := Lib.hid (X6.out.ext Hg7.out.1)
  have CP := c_put C7.out (by omega) 4 (by omega) (by omega) ⟨0, [9]⟩ _ 1 1 (pv _ X7.out) (some ⟨w6.heap.size, 0, none⟩) 1 1 [1] rfl (by omega) (RC.of_blk1 Hb7.out) (fun y hy => by rw [List.mem_singleton] at hy; omega) (fun ad e => by injection e with e; subst e; exact N6b.out) (fun _ ad e => by injection e with e; subst e; exact C6.out.none_ge (Nat.le_refl _))
  rw [show (⟨0, 4, ⟨0, [9]⟩, [1]⟩ : StC) = xs2 from rfl, P2.out.1, P2.out.2, E2.out] at CP
  go_wp2_with fail
  refine (CP).mono ?_; rintro e w8 ⟨rfl, ro8, hc8, ht8⟩
  have C8 := Lib.hid hc8
  have S8 := Lib.hid (S7.out.tr ht8)
  clear hc8 ht8 CP C6 C7 S6 S7 X6 X7 Y6 Hb7 Hg7 pv N6b
  have CD := HD.out _ _ _ _ _ _ _ C8.out (by omega)
  rw [DD.out] at CD
  go_wp2_with fail
  refine (CD).mono ?_; rintro e w9 ⟨rfl, hb9⟩
  have C9 := Lib.hid (C8.out.ext hb9)
  have S9 := Lib.hid (S8.out.ext hb9)
  clear hb9 CD C8 S8
  have CR := HRs.out _ _ _ _ _ _ _ 9 C9.out (by omega) B2'.out (by omega)
  rw [RR.out.1, RR.out.2, E3.out] at CR
  go_wp2_with fail
  refine (CR).mono ?_; rintro e w10 ⟨rfl, ro10, hc10, ht10⟩
  have C10 := Lib.hid hc10
  have S10 := Lib.hid (S9.out.tr ht10)
  clear hc10 ht10 CR C9 S9
  have CS := HS.out _ _ _ _ _ _ _ 4602678819172646912 C10.out (by omega) B3'.out (by omega)
  rw [L3.out] at CS
  go_wp2_with fail
  refine (CS).mono ?_; rintro e w11 ⟨rfl, ro11, hc11, ht11⟩
  have S11 := Lib.hid (S10.out.tr ht11)
  clear hc11 ht11 CS C10 S10
  go_wp2_with fail
  go_ret
  exact ⟨rfl, S11.out.bel⟩

end Go.Proofs.YtpmbpklbiocclaaGreat

/-
  The contract of package sched's Rounds (stage 13).
-/
namespace Go.Proofs.YtpmbpklbiocclaaGreat
open Go.RowKit

theorem blocksC_none {l : List Cg} : blocksC l = [] ↔ l = [] := by
  constructor
  · intro h
    cases l with
    | nil => rfl
    | cons c l =>
      have := (blocksC_mem (c :: l) c.block).2 ⟨c, by simp, rfl⟩
      rw [h] at this
      cases this
  · rintro rfl
    rfl
theorem DC.roundGo_blen : ∀ (r : List Int) (x : DC), (x.roundGo r).1.base.length = x.base.length := by
  intro r
  induction r with
  | nil => intro x; rfl
  | cons b r ih =>
    intro x
    unfold DC.roundGo
    split
    · rw [ih, DC.flush_blen]
    · exact DC.flush_blen x b
set_option maxRecDepth 100000 in
set_option maxHeartbeats 4000000 in
theorem roundsC13 : RoundsC := by
  intro w ro c b g x T most h hT h16 hmo
  have H := Lib.hid h
  have H16 := Lib.hid h16
  clear h h16
  go_enter Tryz.func22, Tryz.ntmps22
  go_wp2_with fail
  go_loopw [6] (fun i wr => ∃ (k : Nat) (rq : Nat → Option Rl) (y : DC), k ≤ most ∧ i = .int .i64 k ∧ Cch wr rq c b g y T ∧ Tr ro rq w wr ∧ y.base.length = 16 ∧ Hid (x.rounds most 0 = y.rounds (most - k) k)) (fun i _ => most - (intOf i).toNat)
  case atStart => exact ⟨0, ro, x, Nat.zero_le _, rfl, H.out, Tr.refl _ _, H16.out, Lib.hid rfl⟩
  case round =>
    obtain ⟨k, rq, y, hk, rfl, hc, ht, hbl, HE⟩ := hrel
    have C := Lib.hid hc
    have T1 := Lib.hid ht
    have BL := Lib.hid hbl
    clear hc ht hbl
    by_cases hlt : k < most
    · have d0 : decide ((k : Int) < (most : Int)) = true := by simpa using hlt
      obtain ⟨m', hm'⟩ : ∃ m', most - k = m' + 1 := ⟨most - k - 1, by omega⟩
      rw [hm'] at HE
      have HM := Lib.hid hm'
      have HRu := Lib.hid (show y.rounds (m' + 1) k = if y.list = [] then (y, k, 0) else if y.round.2 = 0 then DC.rounds m' y.round.1 (k + 1) else (y.round.1, k, y.round.2) from rfl)
      have HBE := Lib.hid (blocksC_none (l := y.list))
      have CL := c_dirty C.out hT
      clear hm'
      go_wp2_with fail
      refine (CL).mono ?_; rintro e w2 ⟨v, rfl, hoi, hb1⟩
      obtain ⟨Ai, ci, ei, -, -, -⟩ := hoi.ints
      obtain ⟨n1, hni⟩ : ∃ n, (blocksC y.list).length = n := ⟨_, rfl⟩
      rw [hni] at ei
      subst ei
      have C2 := Lib.hid (C.out.ext hb1)
      have T2 := Lib.hid (T1.out.bel hb1)
      have Q1 := Lib.hid hni
      clear hni hoi hb1 CL C T1
      rw [HRu.out] at HE
      by_cases hn : n1 = 0
      · have e1 : decide (0 < n1) = false := decide_eq_false (by omega)
        rw [if_pos (HBE.out.1 (List.eq_nil_of_length_eq_zero (by rw [Q1.out, hn])))] at HE
        clear hn HRu
        go_wp2_with fail
        go_ret2
        rw [HE.out]
        exact ⟨rfl, rq, C2.out, T2.out⟩
      · have e1 : decide (0 < n1) = true := decide_eq_true (by omega)
        rw [if_neg (fun e => hn (by rw [← Q1.out, HBE.out.2 e]; rfl))] at HE
        have CR := roundC13 _ _ _ _ _ _ _ C2.out hT BL.out
        have LG := Lib.hid (show y.round.1.base.length = 16 by rw [show y.round = y.roundGo (blocksC y.list) from rfl, DC.roundGo_blen]; exact BL.out)
        obtain ⟨z, hz⟩ : ∃ z, y.round.1 = z := ⟨_, rfl⟩
        obtain ⟨ze, hze⟩ : ∃ z, y.round.2 = z := ⟨_, rfl⟩
        rw [hz, hze] at CR HE
        rw [hz] at LG
        clear hz hze hn HRu
        go_wp2_with fail
        refine (CR).mono ?_; rintro e w3 ⟨rfl, r3, hc3, ht3⟩
        have C3 := Lib.hid hc3
        have T3 := Lib.hid (T2.out.trans ht3)
        clear hc3 ht3 CR C2 T2
        by_cases hz0 : ze = 0
        · have e2 : (ze == 0) = true := by simp [hz0]
          rw [if_pos hz0] at HE
          subst hz0
          go_wp2_with fail
          go_roundw
          case rel => exact ⟨k + 1, r3, z, by omega, by go_num, C3.out, T3.out, LG.out, Lib.hid (by rw [HE.out, show most - (k + 1) = m' by have := HM.out; omega])⟩
          case measure => simp [intOf]; omega
        · have e2 : (ze == 0) = false := by simpa using hz0
          rw [if_neg hz0] at HE
          clear hz0
          go_wp2_with fail
          go_ret2
          rw [HE.out]
          exact ⟨rfl, r3, C3.out, T3.out⟩
    · have d0 : decide ((k : Int) < (most : Int)) = false := by simpa using hlt
      have HE2 := Lib.hid (show x.rounds most 0 = (y, k, 0) from by rw [HE.out, show most - k = 0 by omega]; rfl)
      go_wp2_with fail
      go_ret2
      rw [HE2.out]
      exact ⟨rfl, rq, C.out, T1.out⟩

end Go.Proofs.YtpmbpklbiocclaaGreat
