/-
  Texts of this claim joined: Law13d, WlA, Law13v.
-/
import Derived.Test.YtpmbpklbiocclaaGreatLaw13b
import Derived.Test.YtpmbpklbiocclaaGreatGrBA
import Derived.Test.YtpmbpklbiocclaaGreatGrAA
import Derived.Test.YtpmbpklbiocclaaGreatGrAD
import Derived.Test.YtpmbpklbiocclaaGreatGrBC

/-
  The walk of SchedDeep.
-/
namespace Go.Proofs.YtpmbpklbiocclaaGreat
open Go.RowKit

def DeepC : Prop := ∀ (w : World) (ro : Nat → Option Rl) (c b g : Nat) (x : DC) (T : Nat), Cch w ro c b g x T → T ≤ 1000 → Calls Tryz.prog 14 #[.pointer (some ⟨c, 0, none⟩)] w fun e w' => e = .returned (.int .i64 (deepC x.list : Int)) ∧ Below w.heap.size w w'
def RoundC : Prop := ∀ (w : World) (ro : Nat → Option Rl) (c b g : Nat) (x : DC) (T : Nat), Cch w ro c b g x T → T ≤ 1000 → x.base.length = 16 → Calls Tryz.prog 15 #[.pointer (some ⟨c, 0, none⟩)] w fun e w' => e = .returned (.int .i64 x.round.2) ∧ ∃ ro', Cch w' ro' c b g x.round.1 T ∧ Tr ro ro' w w'
def WorksC : Prop := ∀ w : World, Calls Tryz.prog 7 #[] w fun e w' => e = .returned (.bool true) ∧ Below w.heap.size w w'
theorem Well.up_ {x : DC} (h : x.base.length = 16) : Well x.up := ⟨rfl, rfl, h⟩
set_option maxRecDepth 100000 in
set_option maxHeartbeats 8000000 in
theorem schedDeep_of (HD : DeepC) (HR : RoundC) (HW : WorksC) (A : Option Addr) (n cap : Nat) (l : List Cg) (hn : l.length = n) (hcap : n ≤ cap) (hm : cap ≤ maxLen) (w : World) (hr : RdL RdC w A 5 l) :
    Calls Tryz.prog 4 #[.slice A n cap] w fun e w' => e = .returned (.bool true) ∧ Below w.heap.size w w' := by
  have Hn := Lib.hid hn
  have Hr := Lib.hid hr
  have HM := Lib.hid (much12_any 16 (by decide) A n cap l hn (Nat.le_trans hcap hm) w hr)
  have HD := Lib.hid HD
  have HR := Lib.hid HR
  have HW := Lib.hid HW
  clear hn hr
  go_enter Tryz.func4, Tryz.ntmps4
  go_wp2_with fail
  refine (HM.out).mono ?_; rintro e w1 ⟨rfl, rfl⟩
  cases hmu : muchS l 16
  rotate_left
  · clear hmu
    go_wp2_with fail
    refine (HW.out _).mono ?_; rintro e w2 ⟨rfl, hb2⟩
    have B2 := Lib.hid hb2
    clear hb2
    go_wp2_with fail
    go_ret
    exact ⟨rfl, B2.out⟩
  · obtain ⟨hl16, hsz⟩ := muchS_no hmu
    have HSZ := Lib.hid hsz
    rw [Hn.out] at hl16
    clear hmu hsz
    go_wp2_with fail
    refine (begin13_any A n cap l Hn.out hl16 HSZ.out _ Hr.out).mono ?_; rintro e w2 ⟨ro2, c, b, g, x2, Ab2, nb2, cb2, Al2, nl2, cl2, Ak2, nk2, ck2, H2, rfl, hc2, hs2, hq2, hbl2, hfu2, hh2⟩
    have C2 := Lib.hid hc2
    have S2 := Lib.hid hs2
    have BL2 := Lib.hid hbl2
    clear hc2 hs2 hq2 hbl2 hfu2 hh2
    go_wp2_with (refine wpList_alloc_row rfl _ rfl _ Tryz.dcZero ?_)
    apply Stop.go; intro w3 Hg3 Hb3
    go_wp2_with (refine wpList_store_arr rfl _ _ _ rfl _ #[.slice Ab2 nb2 cb2, .slice Al2 nl2 cl2, .int .i64 ((x2).last : Int), .int .i64 (x2).fuse, .bool (x2).off, .int .i64 ((x2).wrote : Int), .slice Ak2 nk2 ck2] rfl rfl _ _ Hb3.out Tryz.dcSize rfl (by simp [Value.oneCell']) ?_)
    apply Stop.go; intro w4 Ho4 Hb4
    have B4 := Lib.hid (bonly (bt (Below.refl _ w2) Hg3.out.1) Ho4.out (Nat.le_refl _))
    have C4 := Lib.hid (C2.out.ext B4.out)
    have S4 := Lib.hid (S2.out.ext B4.out)
    clear Hg3 Hb3 Ho4 Hb4 B4 C2 S2
    go_wp2_with fail
    refine (c_up C4.out).mono ?_; rintro e w5 ⟨rfl, hc5, ht5⟩
    have C5 := Lib.hid hc5
    have S5 := Lib.hid (S4.out.tr ht5)
    have WE := Lib.hid (Well.up_ BL2.out)
    clear hc5 ht5 C4 S4
    generalize x2.up = x5 at *
    have CD := HD.out _ _ _ _ _ _ _ C5.out (by omega)
    obtain ⟨dp, hdp⟩ : ∃ d, deepC x5.list = d := ⟨_, rfl⟩
    rw [hdp] at CD
    have HDP := Lib.hid hdp
    clear hdp
    go_wp2_with fail
    refine (CD).mono ?_; rintro e w6 ⟨rfl, hb6⟩
    have C6 := Lib.hid (C5.out.ext hb6)
    have S6 := Lib.hid (S5.out.ext hb6)
    clear hb6 CD C5 S5
    have hdl : dp ≤ 100 := by
      rw [← HDP.out]
      refine maxL_le fun z hz => ?_
      obtain ⟨d, hd, rfl⟩ := List.mem_map.1 hz
      have h1 := depthC_le (id := d.id) C6.out.ok.may
      have h0 := (allC_sub C6.out.ok.may (id := d.id) ⟨d, hd, rfl⟩).length_le
      rw [List.length_map] at h0
      have h2 := C6.out.ok.wrote
      have h3 := C6.out.last
      omega
    go_wp2_with fail
    go_loopw [7] (fun i wr => ∃ (k : Nat) (ro : Nat → Option Rl) (x : DC), k ≤ dp ∧ i = .int .i64 k ∧ Cch wr ro c b g x 16 ∧ Std w wr ro ∧ Well x ∧ Hid (deepC x.list ≤ dp - k)) (fun i _ => dp - (intOf i).toNat)
    case atStart => exact ⟨0, ro2, x5, Nat.zero_le _, rfl, C6.out, S6.out, WE.out, Lib.hid (Nat.le_of_eq HDP.out)⟩
    case round =>
      obtain ⟨k, ro, x, hk, rfl, hc, hst, hwe, HDk⟩ := hrel
      have C := Lib.hid hc
      have S := Lib.hid hst
      have WX := Lib.hid hwe
      clear hc hst hwe C6 S6 WE
      by_cases hlt : k < dp
      · have d1 : decide ((k : Int) < (dp : Int)) = true := by simpa using hlt
        have CD1 := HD.out _ _ _ _ _ _ _ C.out (by omega)
        have HDD := Lib.hid (WX.out.deep C.out.ok)
        obtain ⟨d0, hd0⟩ : ∃ d, deepC x.list = d := ⟨_, rfl⟩
        rw [hd0] at CD1 HDD HDk
        clear hd0
        go_wp2_with fail
        refine (CD1).mono ?_; rintro e w7 ⟨rfl, hb7⟩
        have C7 := Lib.hid (C.out.ext hb7)
        have S7 := Lib.hid (S.out.ext hb7)
        clear hb7 CD1 C S
        have CR := HR.out _ _ _ _ _ _ _ C7.out (by omega) WX.out.len
        rw [WX.out.round.2.1] at CR
        have WY := Lib.hid WX.out.round.1
        generalize x.round.1 = y at *
        go_wp2_with fail
        refine (CR).mono ?_; rintro e w8 ⟨rfl, ro8, hc8, ht8⟩
        have C8 := Lib.hid hc8
        have S8 := Lib.hid (S7.out.tr ht8)
        clear hc8 ht8 CR C7 S7
        have CD2 := HD.out _ _ _ _ _ _ _ C8.out (by omega)
        obtain ⟨d2, hd2⟩ : ∃ d, deepC y.list = d := ⟨_, rfl⟩
        have HD2 := Lib.hid hd2
        rw [hd2] at CD2 HDD
        clear hd2
        by_cases hpos : 0 < d0
        · have e1 : decide (0 < d0) = true := decide_eq_true hpos
          have e2 : decide ((d0 : Int) ≤ (d2 : Int)) = false := decide_eq_false (by have := HDD.out; omega)
          have e3 : decide (d0 ≤ d2) = false := decide_eq_false (by have := HDD.out; omega)
          go_wp2_with fail
          refine (CD2).mono ?_; rintro e w9 ⟨rfl, hb9⟩
          have C9 := Lib.hid (C8.out.ext hb9)
          have S9 := Lib.hid (S8.out.ext hb9)
          clear hb9 CD2 C8 S8
          go_wp2_with fail
          go_roundw
          case rel => exact ⟨k + 1, ro8, y, by omega, by go_num, C9.out, S9.out, WY.out, Lib.hid (by rw [HD2.out]; have h1 := HDk.out; have h2 := HDD.out; omega)⟩
          case measure => simp [intOf]; omega
        · have e1 : decide (0 < d0) = false := decide_eq_false hpos
          go_wp2_with fail
          go_roundw
          case rel => exact ⟨k + 1, ro8, y, by omega, by go_num, C8.out, S8.out, WY.out, Lib.hid (by rw [HD2.out]; have h1 := HDk.out; have h2 := HDD.out; omega)⟩
          case measure => simp [intOf]; omega
      · have d1 : decide ((k : Int) < (dp : Int)) = false := by simpa using hlt
        have HE := Lib.hid (show x.list.length = 0 from by
          rw [DC.deep_zero C.out.ok (by have h1 := HDk.out; omega)]
          rfl)
        have CL := c_left C.out (by omega)
        go_wp2_with fail
        refine (CL).mono ?_; rintro e w7 ⟨A1, n1, c1, rfl, q1, q2, q3, hr1, hb1⟩
        have e0 : n1 = 0 := q1.symm.trans HE.out
        clear q1
        subst e0
        have S7 := Lib.hid (S.out.ext hb1)
        clear hr1 hb1 CL
        go_wp2_with fail
        refine (HW.out _).mono ?_; rintro e w8 ⟨rfl, hb8⟩
        have B8 := Lib.hid (bt S7.out.bel hb8)
        clear hb8
        go_wp2_with fail
        go_ret
        exact ⟨rfl, B8.out⟩

end Go.Proofs.YtpmbpklbiocclaaGreat

/-
  What is put, block by block; a block of an array of blocks that is loaded. Plain; no program is named here.
-/
namespace Go.Proofs.YtpmbpklbiocclaaGreat
open Go.RowKit

def wl (H : List Cg) : List (List UInt8) := (List.range 16).map fun (k : Nat) => laidC (zeros 256) (ofC H (k : Int))
theorem wl_len (H : List Cg) : (wl H).length = 16 := by simp [wl]
theorem wl_get (H : List Cg) {k : Nat} (hk : k < (wl H).length) : (wl H)[k] = laidC (zeros 256) (ofC H (k : Int)) := by simp [wl]
theorem wl_bks (H : List Cg) : Bks (wl H) := fun y hy => by
  obtain ⟨k, hk, rfl⟩ := List.getElem_of_mem hy
  rw [wl_get]
  exact laidC_len _ (zeros_len 256)
theorem exec_load_bkR {P : Program} {a : Act} {w : World} {o : Oper} (t : TypeId) (x : Operand) (ho : o.op = .load t x) (ad : Addr) (k : Nat) (hx : a.eval x = .pointer (some (ad.add (k * 256)))) (L : List (List UInt8)) (hL : Bks L) (hk : k < L.length) (R : List UInt8) (hR : L[k] = R) (hr : RK w (some ad) L)
    (d : TypeDesc) (hu : P.underlying t = some d) (hd : (match d with | .struct _ | .array _ _ => true | _ => false) = true) (hs : (P.info? t).map (·.size) = some 256) : (execOp a.eval o).run P w = .ok (.value (.agg (bcells R))) w := by
  subst hR
  exact exec_load_bk t x ho ad k hx L hL hk hr d hu hd hs
theorem wl_from {H : List Cg} {W : List (List UInt8)} (hl : W.length = 16) (h : ∀ k (hk : k < W.length), W[k] = laidC (zeros 256) (ofC H (k : Int))) : W = wl H := by
  apply List.ext_getElem
  · rw [hl, wl_len]
  · intro k h1 h2
    rw [h k h1, wl_get]

end Go.Proofs.YtpmbpklbiocclaaGreat

/-
  The walk of SchedViews.
-/
namespace Go.Proofs.YtpmbpklbiocclaaGreat
open Go.RowKit

def StepC : Prop := ∀ (w : World) (ro : Nat → Option Rl) (c b g : Nat) (x : DC) (T m : Nat), Cch w ro c b g x T → T ≤ 1000 → x.base.length = 16 → m < 18446744073709551616 →
    Calls Tryz.prog 10 #[.pointer (some ⟨c, 0, none⟩), .int .u64 (m : Int)] w fun e w' => e = .returned (.tuple #[.int .i64 (x.step (atB m)).2.1, .int .i64 (x.step (atB m)).2.2]) ∧ ∃ ro', Cch w' ro' c b g (x.step (atB m)).1 T ∧ Tr ro ro' w w'
def zW : List (List UInt8) := List.replicate 16 (zeros 256)
theorem Tryz.wantZero13 : (Tryz.prog.info? 51).map (·.zero) = some (some (.agg (bcells zW.flatten))) := by kernel_rfl
theorem Tryz.blockGuard13 : Tryz.prog.eqGuardType Tryz.prog.depth 50 = false := by kernel_rfl
theorem Well.known {x : DC} (h : Well x) (no : Int) : Well (x.known no) := by
  obtain ⟨_, f2, _, f4, f5, _⟩ := x.known_fields no
  exact ⟨f5.trans h.off, f4.trans h.fuse, by rw [f2]; exact h.len⟩
def uvals (l : List Int) : List Value := l.map (Value.int .u64)
theorem RC.uns {w : World} {A : Option Addr} {l : List Int} (h : RC w A (uvals l)) {k : Nat} (hk : k < l.length) : ∃ ad, A = some ad ∧ w.cell? (ad.add k) = some (.int .u64 l[k]) := by
  obtain ⟨ad, e, hc⟩ := h k (by simpa [uvals] using hk)
  exact ⟨ad, e, by rw [hc]; simp [uvals]⟩
set_option maxRecDepth 100000 in
set_option maxHeartbeats 16000000 in
theorem schedViews_of (HS : StepC) (HW : WorksC) (A : Option Addr) (n cap : Nat) (l : List Cg) (hn : l.length = n) (hcap : n ≤ cap) (hm : cap ≤ maxLen) (Aw : Option Addr) (nw cw : Nat) (ws : List Int) (hnw : ws.length = nw) (_hcw : nw ≤ cw) (_hmw : cw ≤ maxLen) (hws : ∀ z ∈ ws, 0 ≤ z ∧ z < 18446744073709551616) (w : World) (hr : RdL RdC w A 5 l) (hrw : RC w Aw (uvals ws)) :
    Calls Tryz.prog 5 #[.slice A n cap, .slice Aw nw cw] w fun e w' => e = .returned (.bool true) ∧ Below w.heap.size w w' := by
  have Hn := Lib.hid hn
  have Hr := Lib.hid hr
  have Hnw := Lib.hid hnw
  have Hrw := Lib.hid hrw
  have Hws := Lib.hid hws
  have HM := Lib.hid (much12_any 16 (by decide) A n cap l hn (Nat.le_trans hcap hm) w hr)
  have HS := Lib.hid HS
  have HW := Lib.hid HW
  clear hn hr hnw hrw hws
  go_enter Tryz.func5, Tryz.ntmps5
  go_wp2_with fail
  refine (HM.out).mono ?_; rintro e w1 ⟨rfl, rfl⟩
  cases hmu : muchS l 16
  rotate_left
  · clear hmu
    go_wp2_with fail
    refine (HW.out _).mono ?_; rintro e w2 ⟨rfl, hb2⟩
    have B2 := Lib.hid hb2
    clear hb2
    go_wp2_with fail
    go_ret
    exact ⟨rfl, B2.out⟩
  obtain ⟨hl16, hsz⟩ := muchS_no hmu
  have HSZ := Lib.hid hsz
  rw [Hn.out] at hl16
  clear hmu hsz
  by_cases hnw16 : 16 < nw
  · have d0 : decide ((16 : Int) < (nw : Int)) = true := decide_eq_true (by omega)
    clear hnw16
    go_wp2_with fail
    refine (HW.out _).mono ?_; rintro e w2 ⟨rfl, hb2⟩
    have B2 := Lib.hid hb2
    clear hb2
    go_wp2_with fail
    go_ret
    exact ⟨rfl, B2.out⟩
  have d0 : decide ((16 : Int) < (nw : Int)) = false := decide_eq_false (by omega)
  go_wp2_with fail
  refine (begin13_any A n cap l Hn.out hl16 HSZ.out _ Hr.out).mono ?_; rintro e w2 ⟨ro2, c, b, g, x2, Ab2, nb2, cb2, Al2, nl2, cl2, Ak2, nk2, ck2, H, rfl, hc2, hs2, hq2, hbl2, hfu2, hh2⟩
  have C2 := Lib.hid hc2
  have S2 := Lib.hid hs2
  have BL2 := Lib.hid hbl2
  have HH2 := Lib.hid hh2
  clear hc2 hs2 hq2 hbl2 hfu2 hh2
  go_wp2_with (refine wpList_alloc_row rfl _ rfl _ Tryz.dcZero ?_)
  apply Stop.go; intro w3 Hg3 Hb3
  go_wp2_with (refine wpList_store_arr rfl _ _ _ rfl _ #[.slice Ab2 nb2 cb2, .slice Al2 nl2 cl2, .int .i64 ((x2).last : Int), .int .i64 (x2).fuse, .bool (x2).off, .int .i64 ((x2).wrote : Int), .slice Ak2 nk2 ck2] rfl rfl _ _ Hb3.out Tryz.dcSize rfl (by simp [Value.oneCell']) ?_)
  apply Stop.go; intro w4 Ho4 Hb4
  have B4 := Lib.hid (bonly (bt (Below.refl _ w2) Hg3.out.1) Ho4.out (Nat.le_refl _))
  have C4 := Lib.hid (C2.out.ext B4.out)
  have S4 := Lib.hid (S2.out.ext B4.out)
  clear Hg3 Hb3 Ho4 Hb4 B4 C2 S2
  go_wp2_with fail
  refine (c_up C4.out).mono ?_; rintro e w5 ⟨rfl, hc5, ht5⟩
  have C5 := Lib.hid hc5
  have S5 := Lib.hid (S4.out.tr ht5)
  have WE := Lib.hid (Well.up_ BL2.out)
  have HH5 := Lib.hid (DC.up_hist HH2.out)
  clear hc5 ht5 C4 S4 HH2 BL2
  generalize x2.up = x5 at *
  go_wp2_with (refine wpList_alloc_row rfl _ rfl _ Tryz.wantZero13 ?_)
  apply Stop.go; intro w6 Hg6 Hb6
  have C6 := Lib.hid (C5.out.ext Hg6.out.1)
  have S6 := Lib.hid (S5.out.ext Hg6.out.1)
  have N6 := Lib.hid (show ro2 w5.heap.size = none ∧ w.heap.size ≤ w5.heap.size from ⟨C5.out.none_ge (Nat.le_refl _), S5.out.bel.size⟩)
  obtain ⟨gw, hgw⟩ : ∃ q, q = w5.heap.size := ⟨_, rfl⟩
  rw [← hgw] at Hb6 N6 ⊢
  have GW := Lib.hid N6.out.2
  clear hgw C5 S5 Hg6
  go_wp2_with fail
  go_loopw [9] (fun i wr => ∃ (j : Nat) (ro : Nat → Option Rl) (x : DC) (W : List (List UInt8)), j ≤ 16 ∧ i = .int .i64 j ∧ Cch wr ro c b g x (16 + j) ∧ Std w wr ro ∧ Well x ∧ x.Hist H ∧ Blk wr gw 51 (bcells W.flatten) ∧ ro gw = none ∧ Hid (Bks W ∧ W.length = 16 ∧ ∀ k (hk : k < W.length), k < j → W[k] = laidC (zeros 256) (ofC H (k : Int)))) (fun i _ => 16 - (intOf i).toNat)
  case atStart => exact ⟨0, ro2, x5, zW, by omega, rfl, C6.out, S6.out, WE.out, HH5.out, Hb6.out, N6.out.1, Lib.hid ⟨fun y hy => by rw [List.eq_of_mem_replicate hy]; exact zeros_len 256, List.length_replicate, fun k _ hk => absurd hk (Nat.not_lt_zero _)⟩⟩
  case round =>
    obtain ⟨j, ro, x, W, hj, rfl, hc, hst, hwe, hh, hbw, hno, HWL⟩ := hrel
    have C := Lib.hid hc
    have S := Lib.hid hst
    have WX := Lib.hid hwe
    have HH := Lib.hid hh
    have BW := Lib.hid hbw
    have NO := Lib.hid hno
    clear hc hst hwe hh hbw hno C6 S6 WE HH5 Hb6 N6
    by_cases hj16 : j < 16
    · have d1 : decide ((j : Int) < 16) = true := by rw [decide_eq_true_eq]; omega
      have hjI : (j : Int) < 16 := by omega
      have hkE := Well.knE WX.out.off C.out.ok WX.out.len (j := (j : Int)) (by omega) (by omega)
      have CG := c_get C.out (by omega) (j : Int) (by omega) (by omega)
      rw [hkE, if_pos rfl, HH.out.view (j : Int)] at CG
      have WK := Lib.hid (WX.out.known (j : Int))
      have HK := Lib.hid (DC.known_hist HH.out (j : Int))
      obtain ⟨M, hM⟩ : ∃ M, laidC (zeros 256) (ofC H (j : Int)) = M := ⟨_, rfl⟩
      have HMX := Lib.hid hM
      have HML := Lib.hid (show M.length = 256 by rw [← hM]; exact laidC_len _ (zeros_len 256))
      rw [hM] at CG
      clear hkE hM
      go_wp2_with fail
      refine (CG).mono ?_; rintro e w10 ⟨rfl, r3, hc10, ht10⟩
      have C10 := Lib.hid hc10
      have S10 := Lib.hid (S.out.tr ht10)
      have BW10 := Lib.hid (BW.out.tr ht10 NO.out)
      have N10 := Lib.hid (ht10.keep gw BW.out.lt NO.out).1
      clear hc10 ht10 CG C S BW NO
      go_wp2_with (refine wpList_alloc_row rfl _ rfl _ Tryz.blockZero ?_)
      apply Stop.go; intro w11 Hg11 Hb11
      go_wp2_with (refine wpList_store_arr rfl _ _ _ rfl _ (bcells M) rfl rfl _ _ Hb11.out (Tryz.blockFits HML.out) (by rw [bcells_size, bcells_size, HML.out, zeros_len]) (oneCell_bcells _) ?_)
      apply Stop.go; intro w12 Ho12 Hb12
      have C12 := Lib.hid ((C10.out.ext Hg11.out.1).only_none Ho12.out (C10.out.none_ge (Nat.le_refl _)))
      have S12 := Lib.hid ((S10.out.ext Hg11.out.1).only Ho12.out S10.out.bel.size)
      have BW12 := Lib.hid ((BW10.out.ext Hg11.out.1).only Ho12.out (Nat.ne_of_lt BW10.out.lt))
      obtain ⟨gb, hgb⟩ : ∃ q, q = w10.heap.size := ⟨_, rfl⟩
      rw [← hgb] at Hb12 ⊢
      clear hgb C10 S10 Hg11 Hb11 Ho12 BW10
      have hjW : j < W.length := by rw [HWL.out.2.1]; exact hj16
      have HJW := Lib.hid hjW
      clear hjW
      go_wp2_with (first | refine wpList_load_blk rfl _ _ rfl _ rfl _ _ Hb12.out _ Tryz.underlying50 rfl (Tryz.blockFits HML.out) ?_ | refine wpList_store_bk rfl _ _ _ rfl Tryz.blockSize gw j rfl M rfl HML.out _ W HWL.out.1 HJW.out BW12.out ?_)
      apply Stop.go; intro w13 Ho13 Hb13
      have C13 := Lib.hid (C12.out.only_none Ho13.out N10.out)
      have S13 := Lib.hid (S12.out.only Ho13.out GW.out)
      have HWL2 := Lib.hid (show Bks (W.set j M) ∧ (W.set j M).length = 16 ∧ ∀ k (hk : k < (W.set j M).length), k < j + 1 → (W.set j M)[k] = laidC (zeros 256) (ofC H (k : Int)) from by
        refine ⟨fun y hy => ?_, by rw [List.length_set]; exact HWL.out.2.1, fun k hk hkj => ?_⟩
        · rcases List.mem_or_eq_of_mem_set hy with hy | hy
          · exact HWL.out.1 y hy
          · rw [hy]; exact HML.out
        · rw [List.getElem_set]
          by_cases e : j = k
          · subst e
            rw [if_pos rfl]
            exact HMX.out.symm
          · rw [if_neg e]
            exact HWL.out.2.2 k (by rw [List.length_set] at hk; exact hk) (by omega))
      clear Ho13 C12 S12 BW12 HWL Hb12
      go_wp2_with fail
      go_roundw
      case rel => exact ⟨j + 1, r3, _, _, by omega, by go_num, C13.out, S13.out, WK.out, HK.out, Hb13.out, N10.out, HWL2⟩
      case measure => simp [intOf]; omega
    · have d1 : decide ((j : Int) < 16) = false := by rw [decide_eq_false_iff_not]; omega
      have HJ16 := Lib.hid (show j = 16 by omega)
      have e := wl_from (H := H) HWL.out.2.1 (fun k hk => HWL.out.2.2 k hk (by have h1 := HWL.out.2.1; have h2 := HJ16.out; omega))
      subst e
      have C := Lib.hid (C.out.mono (show 16 + j ≤ 32 by have := HJ16.out; omega))
      go_wp2_with fail
      clear HWL
      go_loopw [12] (fun i wr => ∃ (q : Nat) (ro : Nat → Option Rl) (x : DC), q ≤ nw ∧ i = .int .i64 q ∧ Cch wr ro c b g x 32 ∧ Std w wr ro ∧ Well x ∧ x.Hist H ∧ Blk wr gw 51 (bcells (wl H).flatten) ∧ ro gw = none) (fun i _ => nw - (intOf i).toNat)
      case atStart => exact ⟨0, ro, x, Nat.zero_le _, rfl, C.out, S.out, WX.out, HH.out, BW.out, NO.out⟩
      case round =>
        obtain ⟨q, ro3, x3, hq, rfl, hc, hst, hwe, hh, hbw, hno⟩ := hrel
        have C3 := Lib.hid hc
        have S3 := Lib.hid hst
        have WX3 := Lib.hid hwe
        have HH3 := Lib.hid hh
        have BW3 := Lib.hid hbw
        have NO3 := Lib.hid hno
        clear hc hst hwe hh hbw hno C S WX HH BW NO
        by_cases hqn : q < nw
        · have d2 : decide ((q : Int) < (nw : Int)) = true := by simpa using hqn
          have zq : (q : Int) < nw := by omega
          have hql : q < ws.length := by rw [Hnw.out]; exact hqn
          obtain ⟨ad, rfl, kc⟩ := (Hrw.out.below S3.out.bel).uns hql
          have hz := Hws.out _ (List.getElem_mem hql)
          obtain ⟨m, hm'⟩ : ∃ m : Nat, ws[q] = (m : Int) := ⟨ws[q].toNat, by omega⟩
          rw [hm'] at kc hz
          have HZ := Lib.hid hz
          have hwr := Lib.hid C3.out.ok.wrote
          have hla := Lib.hid C3.out.last
          clear hm' hz
          have CWr := c_writes C3.out
          go_wp2_with fail
          refine (CWr).mono ?_; rintro e w20 ⟨rfl, rfl⟩
          clear CWr
          have CS := HS.out _ _ _ _ _ _ _ m C3.out (by omega) WX3.out.len (by have := HZ.out; omega)
          have WS := Lib.hid (WX3.out.step (atB m))
          have HG := Lib.hid (DC.step_hist HH3.out C3.out.ok (atB m))
          have WW := Lib.hid (DC.step_wrote x3 (atB m))
          rw [WS.out.2] at CS
          obtain ⟨y, hy⟩ : ∃ y, (x3.step (atB m)).1 = y := ⟨_, rfl⟩
          obtain ⟨zn, hzn⟩ : ∃ z, (x3.step (atB m)).2.1 = z := ⟨_, rfl⟩
          rw [hy, hzn] at CS
          rw [hy] at WS HG WW
          clear hy hzn
          go_wp2_with fail
          refine (CS).mono ?_; rintro e w21 ⟨rfl, ro4, hc4, ht4⟩
          have C4 := Lib.hid hc4
          have S4 := Lib.hid (S3.out.tr ht4)
          have BW4 := Lib.hid (BW3.out.tr ht4 NO3.out)
          have NO4 := Lib.hid (ht4.keep gw BW3.out.lt NO3.out).1
          clear hc4 ht4 CS C3 S3 BW3 NO3 kc
          have q1 : IntKind.i64.wrap ((x3.wrote : Int) + 1) = (x3.wrote : Int) + 1 := by rw [IntKind.wrap_i64]; have h1 := hwr.out; have h2 := hla.out; omega
          have d3 : decide ((x3.wrote : Int) + 1 < (y.wrote : Int)) = false := decide_eq_false (by have := WW.out; omega)
          have CWr := c_writes C4.out
          go_wp2_with fail
          refine (CWr).mono ?_; rintro e w22 ⟨rfl, rfl⟩
          clear CWr
          go_wp2_with fail
          go_roundw
          case rel => exact ⟨q + 1, ro4, y, by omega, by go_num, C4.out, S4.out, WS.out.1, HG.out.1, BW4.out, NO4.out⟩
          case measure => simp [intOf]; omega
        · have d2 : decide ((q : Int) < (nw : Int)) = false := by simpa using hqn
          go_wp2_with fail
          go_loopw [16] (fun i wr => ∃ (j : Nat) (ro : Nat → Option Rl) (x : DC), j ≤ 16 ∧ i = .int .i64 j ∧ Cch wr ro c b g x (32 + j) ∧ Std w wr ro ∧ Well x ∧ x.Hist H ∧ Blk wr gw 51 (bcells (wl H).flatten) ∧ ro gw = none) (fun i _ => 16 - (intOf i).toNat)
          case atStart => exact ⟨0, ro3, x3, by omega, rfl, C3.out, S3.out, WX3.out, HH3.out, BW3.out, NO3.out⟩
          case round =>
            obtain ⟨j, ro, x, hj, rfl, hc, hst, hwe, hh, hbw, hno⟩ := hrel
            have C := Lib.hid hc
            have S := Lib.hid hst
            have WX := Lib.hid hwe
            have HH := Lib.hid hh
            have BW := Lib.hid hbw
            have NO := Lib.hid hno
            clear hc hst hwe hh hbw hno C3 S3 WX3 HH3 BW3 NO3
            by_cases hj16 : j < 16
            · have d1 : decide ((j : Int) < 16) = true := by rw [decide_eq_true_eq]; omega
              have hjI : (j : Int) < 16 := by omega
              have hjX : j < (wl H).length := by rw [wl_len]; exact hj16
              have hkE := Well.knE WX.out.off C.out.ok WX.out.len (j := (j : Int)) (by omega) (by omega)
              have CG := c_get C.out (by omega) (j : Int) (by omega) (by omega)
              rw [hkE, if_pos rfl, HH.out.view (j : Int), ← wl_get H hjX] at CG
              have WK := Lib.hid (WX.out.known (j : Int))
              have HK := Lib.hid (DC.known_hist HH.out (j : Int))
              obtain ⟨M, hM⟩ : ∃ M, (wl H)[j] = M := ⟨_, rfl⟩
              have HMX := Lib.hid hM
              have HML := Lib.hid (show M.length = 256 by rw [← hM]; exact wl_bks H _ (List.getElem_mem hjX))
              rw [hM] at CG
              have HJX := Lib.hid hjX
              clear hkE hM
              go_wp2_with fail
              refine (CG).mono ?_; rintro e w10 ⟨rfl, r3, hc10, ht10⟩
              have C10 := Lib.hid hc10
              have S10 := Lib.hid (S.out.tr ht10)
              have BW10 := Lib.hid (BW.out.tr ht10 NO.out)
              have N10 := Lib.hid (ht10.keep gw BW.out.lt NO.out).1
              clear hc10 ht10 CG C S BW NO
              go_wp2_with (refine wpList_alloc_row rfl _ rfl _ Tryz.blockZero ?_)
              apply Stop.go; intro w11 Hg11 Hb11
              go_wp2_with (refine wpList_store_arr rfl _ _ _ rfl _ (bcells M) rfl rfl _ _ Hb11.out (Tryz.blockFits HML.out) (by rw [bcells_size, bcells_size, HML.out, zeros_len]) (oneCell_bcells _) ?_)
              apply Stop.go; intro w12 Ho12 Hb12
              have C12 := Lib.hid ((C10.out.ext Hg11.out.1).only_none Ho12.out (C10.out.none_ge (Nat.le_refl _)))
              have S12 := Lib.hid ((S10.out.ext Hg11.out.1).only Ho12.out S10.out.bel.size)
              have BW12 := Lib.hid ((BW10.out.ext Hg11.out.1).only Ho12.out (Nat.ne_of_lt BW10.out.lt))
              obtain ⟨gb, hgb⟩ : ∃ q, q = w10.heap.size := ⟨_, rfl⟩
              rw [← hgb] at Hb12 ⊢
              clear hgb C10 S10 Hg11 Hb11 Ho12 BW10
              go_wp2_with fail
              refine WH.start (S := fun w' : World => Blk w' gw 51 (bcells (wl H).flatten) ∧ Blk w' gb 50 (bcells M)) [false, false, false, false, false, false, false, false, false] 9 rfl rfl (by kernel_rfl) ⟨BW12.out.ext (bdrew w12 1), Hb12.out.ext (bdrew w12 1)⟩ (fun hSn => ?_)
              obtain ⟨wS, hwS⟩ : ∃ x, w12.drew = x := ⟨_, rfl⟩
              have CS := Lib.hid (C12.out.ext (bdrew w12 1))
              have SS := Lib.hid (S12.out.ext (bdrew w12 1))
              have BS := Lib.hid (BW12.out.ext (bdrew w12 1))
              rw [show w12.drewN 1 = wS from hwS] at CS SS BS
              rw [hwS] at hSn ⊢
              clear hwS C12 S12 BW12 Hb12
              refine WH.tk 0 ?_; simp only [setL]
              refine WH.tk 1 ?_; simp only [setL]
              refine WH.tk 2 ?_; simp only [setL]
              refine WH.tv 3 rfl (fun w' hSw => exec_load_blk _ _ rfl _ rfl _ _ (hSw.2) _ (Tryz.underlying50) rfl (Tryz.blockFits HML.out)) ?_; simp only [setL]
              refine WH.tk 4 ?_; simp only [setL]
              refine WH.tk 5 ?_; simp only [setL]
              refine WH.tv 6 rfl (fun w' hSw => exec_load_bkR _ _ rfl ⟨gw, 0, none⟩ j (by rw [addr_add0]; rfl) (wl H) (wl_bks H) HJX.out M HMX.out (RK.of_blk (wl_bks H) hSw.1) _ Tryz.underlying50 rfl Tryz.blockSize) ?_; simp only [setL]
              refine WH.tv 7 rfl (fun w' hSw => exec_neq_arr _ _ _ _ rfl Tryz.blockGuard13 _ _ Tryz.underlying50 Tryz.underlying5 Tryz.byteSize M M rfl rfl HML.out HML.out false (by simp)) ?_; simp only [setL]
              refine WH.tk 8 ?_; simp only [setL]
              refine WH.done (by kernel_rfl) ?_
              go_wp2_with fail
              go_roundw
              case rel => exact ⟨j + 1, r3, _, by omega, by go_num, CS.out, SS.out, WK.out, HK.out, BS.out, N10.out⟩
              case measure => simp [intOf]; omega
            · have d1 : decide ((j : Int) < 16) = false := by rw [decide_eq_false_iff_not]; omega
              go_wp2_with fail
              refine (HW.out _).mono ?_; rintro e w10 ⟨rfl, hb10⟩
              have B10 := Lib.hid (bt S.out.bel hb10)
              clear hb10
              go_wp2_with fail
              go_ret
              exact ⟨rfl, B10.out⟩

end Go.Proofs.YtpmbpklbiocclaaGreat
