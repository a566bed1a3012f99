import Derived.Test.YtpmbpklbiocclaaGreatGrBH
import Derived.Test.YtpmbpklbiocclaaGreatGrBF
namespace Go.Proofs.YtpmbpklbiocclaaGreat
open Go.RowKit

def DC.run : DC → List Nat → DC × Nat × Int
  | x, [] => (x, 0, 0)
  | x, m :: r => if (x.step (atB m)).2.2 = 0 then (((x.step (atB m)).1.run r).1, ((x.step (atB m)).1.run r).2.1 + 1, ((x.step (atB m)).1.run r).2.2) else ((x.step (atB m)).1, 0, (x.step (atB m)).2.2)
theorem DC.step_ok {x : DC} (hk : x.Ok) (a : Nat → Nat) : (x.step a).1.Ok := by
  unfold DC.step
  split
  · exact hk
  · exact DC.flush_ok hk _
theorem DC.step_blen (x : DC) (a : Nat → Nat) : (x.step a).1.base.length = x.base.length := by
  unfold DC.step
  split
  · rfl
  · exact DC.flush_blen _ _
theorem DC.step_fuse {x : DC} (a : Nat → Nat) (h : x.fuse < 9223372036854775808) : (x.step a).1.fuse < 9223372036854775808 := by
  unfold DC.step
  split
  · exact h
  · exact DC.flush_fuse _ h
def nvals (l : List Nat) : List Value := l.map fun (m : Nat) => Value.int .u64 (m : Int)
theorem nvals_len (l : List Nat) : (nvals l).length = l.length := by simp [nvals]
theorem RC.nat {w : World} {A : Option Addr} {l : List Nat} (h : RC w A (nvals l)) {k : Nat} (hk : k < l.length) : ∃ ad, A = some ad ∧ w.cell? (ad.add k) = some (.int .u64 (l[k] : Int)) := by
  obtain ⟨ad, e, hc⟩ := h k (by simpa [nvals] using hk)
  exact ⟨ad, e, by rw [hc]; simp [nvals]⟩
theorem RC.dropN {w : World} {A : Option Addr} {l : List Nat} {k c : Nat} (h : RC w A (nvals l)) (hc : l.length ≤ c) : RC w (if c = k then A else A.map (·.add k)) (nvals (l.drop k)) := fun j hj => by
  rw [nvals_len, List.length_drop] at hj
  obtain ⟨ad, e, hc2⟩ := h (k + j) (by rw [nvals_len]; omega)
  refine ⟨ad.add k, ?_, ?_⟩
  · rw [if_neg (by omega), e]; rfl
  · rw [add_of_add, hc2]
    simp [nvals]
section
variable {P : Program} {ops : Array Oper} {rest : List Oper} {o : Oper} {a : Act} {w : World} {Q : Exit → Act → World → Prop}
theorem wpList_slice_from (hgd : Region.wanted o (yielded ops a.tmps) = true) (t : TypeId) (x lo : Operand) (ho : o.op = .slice t x (some lo) none none) (e : TypeId) (hu : P.underlying t = some (.slice e)) (hs : (P.info? e).map (·.size) = some 1)
    (A : Option Addr) (n c : Nat) (hx : a.eval x = .slice A n c) (kl : IntKind) (L : Int) (hlo : a.eval lo = .int kl L) (l : Nat) (hL : L = l) (h1 : l ≤ n) (_h2 : n ≤ c)
    (k : wpList P ops Q rest (a.put o.dst (.slice (if c = l then A else A.map (·.add l)) (n - l) (c - l))) w) : wpList P ops Q (o :: rest) a w := by
  refine wpList_wanted hgd fun K hK => ?_
  subst hL
  have hel : P.elem t = e := by simp [Program.elem, hu]
  have hr : (Instr.slice t (.slice A n c) (some (.int kl (l : Int))) none none).run P w = .ok (.slice (if c = l then A else A.map (·.add l)) (n - l) (c - l)) w := by
    rw [run_slice_l w t _ _ _ (by rw [hel]; exact hu) kl l (by omega) (by omega), hel, sizeOf_of hs]
    simp only [Result.andThen, sliced, Int.toNat_natCast, Nat.mul_one]
  unfold Oper.wp execOp
  simp only [ho, hx, hlo, Sem.run_bind, Sem.run_pure, Result.andThen_ok, Option.map_some, Option.map_none, Instr.sliceAt, run_underlying hu, hr]
  exact hK _ _ k
end
theorem Tryz.u64Size13 : (Tryz.prog.info? 37).map (·.size) = some 1 := by kernel_rfl
def RunC : Prop := ∀ (w : World) (ro : Nat → Option Rl) (c b g : Nat) (x : DC) (T : Nat) (A : Option Addr) (n cap : Nat) (ms : List Nat), Cch w ro c b g x T → T ≤ 1000 → x.base.length = 16 → ms.length = n → n ≤ 1000 → (∀ m ∈ ms, m < 18446744073709551616) → RC w A (nvals ms) → (0 < n → ∀ ad, A = some ad → ro ad.block = none) →
    Calls Tryz.prog 12 #[.pointer (some ⟨c, 0, none⟩), .slice A n cap] w fun e w' => e = .returned (.tuple #[.int .i64 ((x.run ms).2.1 : Int), .int .i64 (x.run ms).2.2]) ∧ ∃ ro', Cch w' ro' c b g (x.run ms).1 T ∧ Tr ro ro' w w'
set_option maxRecDepth 100000 in
set_option maxHeartbeats 16000000 in
theorem schedSteps_of (HS : StepC) (HRn : RunC) (HW : WorksC) (A : Option Addr) (n cap : Nat) (l : List Cg) (hn : l.length = n) (hcap : n ≤ cap) (hm : cap ≤ maxLen) (Aw : Option Addr) (nw cw : Nat) (ms : List Nat) (hnw : ms.length = nw) (hcw : nw ≤ cw) (_hmw : cw ≤ maxLen) (hms : ∀ m ∈ ms, m < 18446744073709551616) (cut : Nat) (hcut : cut < 256) (w : World) (hr : RdL RdC w A 5 l) (hrw : RC w Aw (nvals ms)) :
    Calls Tryz.prog 3 #[.slice A n cap, .slice Aw nw cw, .int .u8 (cut : Int)] w fun e w' => e = .returned (.bool true) ∧ Below w.heap.size w w' := by
  have Hn := Lib.hid hn
  have Hr := Lib.hid hr
  have Hnw := Lib.hid hnw
  have Hrw := Lib.hid hrw
  have Hms := Lib.hid hms
  have HM := Lib.hid (much12_any 16 (by decide) A n cap l hn (Nat.le_trans hcap hm) w hr)
  have HS := Lib.hid HS
  have HRn := Lib.hid HRn
  have HW := Lib.hid HW
  clear hn hr hnw hrw hms
  go_enter Tryz.func3, Tryz.ntmps3
  go_wp2_with fail
  refine (HM.out).mono ?_; rintro e w1 ⟨rfl, rfl⟩
  cases hmu : muchS l 16
  rotate_left
  · clear hmu
    go_wp2_with fail
    refine (HW.out _).mono ?_; rintro e w2 ⟨rfl, hb2⟩
    have B2 := Lib.hid hb2
    clear hb2
    go_wp2_with fail
    go_ret
    exact ⟨rfl, B2.out⟩
  obtain ⟨hl16, hsz⟩ := muchS_no hmu
  have HSZ := Lib.hid hsz
  rw [Hn.out] at hl16
  clear hmu hsz
  by_cases hnw16 : 16 < nw
  · have d0 : decide ((16 : Int) < (nw : Int)) = true := decide_eq_true (by omega)
    clear hnw16
    go_wp2_with fail
    refine (HW.out _).mono ?_; rintro e w2 ⟨rfl, hb2⟩
    have B2 := Lib.hid hb2
    clear hb2
    go_wp2_with fail
    go_ret
    exact ⟨rfl, B2.out⟩
  have d0 : decide ((16 : Int) < (nw : Int)) = false := decide_eq_false (by omega)
  go_wp2_with fail
  refine (begin13_any A n cap l Hn.out hl16 HSZ.out _ Hr.out).mono ?_; rintro e w2 ⟨ro2, c, b, g, x2, Ab2, nb2, cb2, Al2, nl2, cl2, Ak2, nk2, ck2, H, rfl, hc2, hs2, hq2, hbl2, hfu2, -⟩
  have C2 := Lib.hid hc2
  have S2 := Lib.hid hs2
  have Q2 := Lib.hid hq2
  have E2 := Lib.hid (And.intro hbl2 hfu2)
  clear hc2 hs2 hq2 hbl2 hfu2
  go_wp2_with (refine wpList_alloc_row rfl _ rfl _ Tryz.dcZero ?_)
  apply Stop.go; intro w3 Hg3 Hb3
  have NX := Lib.hid (show ro2 w2.heap.size = none ∧ w.heap.size ≤ w2.heap.size from ⟨C2.out.none_ge (Nat.le_refl _), S2.out.bel.size⟩)
  obtain ⟨gx, hgx⟩ : ∃ q, q = w2.heap.size := ⟨_, rfl⟩
  have Q3 := Lib.hid ((Q2.out.mono (p' := fun q => q ≠ gx ∧ ro2 q = none) (fun q hq h => ⟨by omega, h⟩)).below Hg3.out.1)
  rw [← hgx] at Hb3 NX ⊢
  have C3 := Lib.hid (C2.out.ext Hg3.out.1)
  have S3 := Lib.hid (S2.out.ext Hg3.out.1)
  clear hgx Hg3 C2 S2 Q2
  go_wp2_with (refine wpList_store_arr rfl _ _ _ rfl _ #[.slice Ab2 nb2 cb2, .slice Al2 nl2 cl2, .int .i64 ((x2).last : Int), .int .i64 (x2).fuse, .bool (x2).off, .int .i64 ((x2).wrote : Int), .slice Ak2 nk2 ck2] rfl rfl _ _ Hb3.out Tryz.dcSize rfl (by simp [Value.oneCell']) ?_)
  apply Stop.go; intro w4 Ho4 Hb4
  have C4 := Lib.hid (C3.out.only_none Ho4.out NX.out.1)
  have S4 := Lib.hid (S3.out.only Ho4.out NX.out.2)
  have Q4 := Lib.hid (Q3.out.only Ho4.out (fun h => h.1 rfl))
  clear Hb3 Ho4 C3 S3 Q3
  obtain ⟨k, hk⟩ : ∃ k, cut % (nw + 1) = k := ⟨_, rfl⟩
  have HK := Lib.hid (show k ≤ nw from by rw [← hk]; have := Nat.mod_lt cut (show 0 < nw + 1 by omega); omega)
  have hmod : ((cut : Int) % ((nw : Int) + 1)) = (k : Int) := by have h := Int.natCast_emod cut (nw + 1); rw [hk] at h; exact h.symm
  clear hk
  go_wp2_with fail
  rw [hmod]
  clear hmod
  go_loopw [11] (fun i wr => ∃ (q : Nat) (ro : Nat → Option Rl) (x : DC) (Ab1 : Option Addr) (nb1 cb1 : Nat) (Al1 : Option Addr) (nl1 cl1 : Nat) (Ak1 : Option Addr) (nk1 ck1 : Nat), q ≤ k ∧ i = .int .i64 q ∧ Cch wr ro c b g x 16 ∧ Std w wr ro ∧ Blk wr gx 32 #[.slice Ab1 nb1 cb1, .slice Al1 nl1 cl1, .int .i64 ((x).last : Int), .int .i64 (x).fuse, .bool (x).off, .int .i64 ((x).wrote : Int), .slice Ak1 nk1 ck1] ∧ DCQ (fun q => q ≠ gx ∧ ro q = none) wr x Ab1 nb1 cb1 Al1 nl1 cl1 Ak1 nk1 ck1 ∧ x.base.length = 16 ∧ x.fuse < 9223372036854775808 ∧ ro gx = none) (fun i _ => k - (intOf i).toNat)
  case atStart => exact ⟨0, ro2, x2, _, _, _, _, _, _, _, _, _, Nat.zero_le _, rfl, C4.out, S4.out, Hb4.out, Q4.out, E2.out.1, E2.out.2, NX.out.1⟩
  case round =>
    obtain ⟨q, ro, x, Ab1, nb1, cb1, Al1, nl1, cl1, Ak1, nk1, ck1, hq, rfl, hc, hst, hbx, hqq, hbl, hfu, hno⟩ := hrel
    have C := Lib.hid hc
    have S := Lib.hid hst
    have X := Lib.hid hbx
    have Q := Lib.hid hqq
    have BL := Lib.hid hbl
    have FU := Lib.hid hfu
    have NO := Lib.hid hno
    clear hc hst hbx hqq hbl hfu hno C4 S4 Hb4 Q4 E2
    by_cases hlt : q < k
    · have d1 : decide ((q : Int) < (k : Int)) = true := by simpa using hlt
      have zq : (q : Int) < nw := by have := HK.out; omega
      have hql : q < ms.length := by rw [Hnw.out]; have := HK.out; omega
      obtain ⟨adw, rfl, kc⟩ := Hrw.out.nat hql
      have hmq := Hms.out _ (List.getElem_mem hql)
      generalize ms[q] = m at *
      have KC := Lib.hid kc
      have HMQ := Lib.hid hmq
      clear kc hmq hql
      have XK := Lib.hid (And.intro C.out.ok (show x.last ≤ 1000 from by have := C.out.last; omega))
      have CG := fun (p' : Nat → Prop) (w' : World) (hp' : ∀ q, w'.heap.size ≤ q → p' q) (hq : DCQ p' w' x Ab1 nb1 cb1 Al1 nl1 cl1 Ak1 nk1 ck1) => rstep13_any p' x Ab1 nb1 cb1 Al1 nl1 cl1 Ak1 nk1 ck1 m HMQ.out w' hp' hq XK.out.1 XK.out.2 FU.out
      have CS := fun (w' : World) (h' : Cch w' ro c b g x 16) => HS.out w' ro c b g x 16 m h' (by omega) BL.out HMQ.out
      have LG := Lib.hid (show (x.step (atB m)).1.base.length = 16 by rw [DC.step_blen]; exact BL.out)
      have FG := Lib.hid (DC.step_fuse (atB m) FU.out)
      obtain ⟨y, hy⟩ : ∃ y, (x.step (atB m)).1 = y := ⟨_, rfl⟩
      obtain ⟨zn, hzn⟩ : ∃ z, (x.step (atB m)).2.1 = z := ⟨_, rfl⟩
      obtain ⟨ze, hze⟩ : ∃ z, (x.step (atB m)).2.2 = z := ⟨_, rfl⟩
      rw [hy, hzn, hze] at CG CS
      rw [hy] at LG FG
      have CG := Lib.hid CG
      have CS := Lib.hid CS
      have PN := Lib.hid (show ∀ q, wr.heap.size ≤ q → q ≠ gx ∧ ro q = none from fun q hq => ⟨by have := X.out.lt; omega, C.out.none_ge hq⟩)
      clear hy hzn hze
      go_upto_region 10 with fail
      go_cut [12, 13, 14] from 52 to 61 (fun v7 v8 v9 wx => ∃ (g7 : Nat) (Ab2 : Option Addr) (nb2 cb2 : Nat) (Al2 : Option Addr) (nl2 cl2 : Nat) (Ak2 : Option Addr) (nk2 ck2 : Nat), v7 = .pointer (some ⟨g7, 0, none⟩) ∧ v8 = .int .i64 zn ∧ v9 = .int .i64 ze ∧ Blk wx g7 32 #[.slice Ab2 nb2 cb2, .slice Al2 nl2 cl2, .int .i64 ((y).last : Int), .int .i64 (y).fuse, .bool (y).off, .int .i64 ((y).wrote : Int), .slice Ak2 nk2 ck2] ∧ DCQ (fun q => q ≠ gx ∧ ro q = none) wx y Ab2 nb2 cb2 Al2 nl2 cl2 Ak2 nk2 ck2 ∧ Below wr.heap.size wr wx)
      case first =>
        refine WH.start (S := fun w' : World => Below wr.heap.size wr w') [false, false, false, false, false, false, false, false, false, false, false, false, false, false] 14 rfl rfl (by kernel_rfl) (bdrew wr 1) (fun hSn => ?_)
        obtain ⟨wS, hwS⟩ : ∃ q, wr.drew = q := ⟨_, rfl⟩
        rw [hwS] at hSn ⊢
        have BS := Lib.hid hSn
        clear hwS
        refine WH.tv 0 rfl (fun w' hSw => exec_load_blk _ _ rfl _ rfl _ _ (X.out.ext hSw) _ (Tryz.underlying32) rfl (Tryz.dcSize)) ?_; simp only [setL]
        refine WH.tk 1 ?_; simp only [setL]
        refine WH.tk 2 ?_; simp only [setL]
        refine WH.tk 3 ?_; simp only [setL]
        refine WH.tv 4 rfl (fun w' hSw => exec_load_cell _ _ rfl _ rfl (.int .u64 (m : Int)) (cell_ext (bt S.out.bel hSw) KC.out) _ Tryz.underlying37 rfl) ?_; simp only [setL]
        refine WH.two 5 10 _ _ rfl rfl (by kernel_rfl) rfl rfl (fun K hK => ?_) (fun K hK => ?_)
        focus (
          go_simp; refine (CG.out (fun q => q ≠ gx ∧ ro q = none) wS (fun q hq => PN.out q (Nat.le_trans BS.out.size hq)) (Q.out.below BS.out)).mono ?_; rintro e w5 ⟨Ab2, nb2, cb2, Al2, nl2, cl2, Ak2, nk2, ck2, rfl, hv5, hb5⟩; go_simp
          have V5 := Lib.hid hv5
          have B5 := Lib.hid (bt BS.out hb5)
          clear hv5 hb5 CG
          have hSn := B5.out; refine hK _ _ hSn ?_; clear hK; clear K; simp only [setL]
          refine WH.tk 6 ?_; simp only [setL]
          refine WH.tk 7 ?_; simp only [setL]
          refine WH.tk 8 ?_; simp only [setL]
          refine WH.tk 9 ?_; simp only [setL]
          refine WH.only 10 _ rfl (by kernel_rfl) rfl (fun K hK => ?_)
          refine ow_alloc _ rfl _ Tryz.dcZero ?_
          apply Stop.go; intro w6 Hg6 Hb6
          have B6 := Lib.hid (bt B5.out Hg6.out.1)
          have hSn := B6.out; refine hK _ _ hSn ?_; clear hK; clear K; simp only [setL]
          refine WH.only 11 _ rfl (by kernel_rfl) rfl (fun K hK => ?_)
          refine ow_store _ _ _ rfl _ #[.slice Ab2 nb2 cb2, .slice Al2 nl2 cl2, .int .i64 ((y).last : Int), .int .i64 (y).fuse, .bool (y).off, .int .i64 ((y).wrote : Int), .slice Ak2 nk2 ck2] rfl rfl _ _ Hb6.out Tryz.dcSize rfl (by simp [Value.oneCell']) ?_
          apply Stop.go; intro wm Ho7 Hb7
          have B57 := Lib.hid (bonly (bt (Below.refl _ w5) Hg6.out.1) Ho7.out (Nat.le_refl _))
          have BM := Lib.hid (bt B5.out B57.out)
          have VM := Lib.hid (V5.out.below B57.out)
          have hSn := BM.out; refine hK _ _ hSn ?_; clear hK; clear K; simp only [setL]
          refine WH.tk 12 ?_; simp only [setL]
          refine WH.tk 13 ?_; simp only [setL]
          refine WH.done (by kernel_rfl) ?_
          clear B6 Hg6 Hb6 Ho7 B57 V5 B5
          obtain ⟨gy, hgy⟩ : ∃ q, q = w5.heap.size := ⟨_, rfl⟩
          rw [← hgy] at Hb7 ⊢
          clear hgy)
        rotate_left
        focus (
          refine ow_alloc _ rfl _ Tryz.dcZero ?_
          apply Stop.go; intro w5 Hg5 Hb5
          have B5 := Lib.hid (bt BS.out Hg5.out.1)
          have hSn := B5.out; refine hK _ _ hSn ?_; clear hK; clear K; simp only [setL]
          have N5 := Lib.hid (show w5.heap.size = wS.heap.size + 1 ∧ wr.heap.size ≤ wS.heap.size from ⟨Hg5.out.2, BS.out.size⟩)
          refine WH.only 5 _ rfl (by kernel_rfl) rfl (fun K hK => ?_); go_simp; refine (CG.out (fun q => (q ≠ gx ∧ ro q = none) ∧ q ≠ wS.heap.size) w5 (fun q hq => ⟨PN.out q (by have := N5.out; omega), by have := N5.out; omega⟩) ((Q.out.mono (fun q hq h => ⟨h, by have := N5.out; omega⟩)).below B5.out)).mono ?_; rintro e w6 ⟨Ab2, nb2, cb2, Al2, nl2, cl2, Ak2, nk2, ck2, rfl, hv6, hb6⟩; go_simp
          have V6 := Lib.hid hv6
          have B6 := Lib.hid (bt B5.out hb6)
          have Hb6 := Lib.hid (Hb5.out.ext hb6)
          clear hv6 hb6 CG Hb5 Hg5
          have hSn := B6.out; refine hK _ _ hSn ?_; clear hK; clear K; simp only [setL]
          refine WH.tk 6 ?_; simp only [setL]
          refine WH.tk 7 ?_; simp only [setL]
          refine WH.tk 8 ?_; simp only [setL]
          refine WH.tk 9 ?_; simp only [setL]
          refine WH.only 11 _ rfl (by kernel_rfl) rfl (fun K hK => ?_)
          refine ow_store _ _ _ rfl _ #[.slice Ab2 nb2 cb2, .slice Al2 nl2 cl2, .int .i64 ((y).last : Int), .int .i64 (y).fuse, .bool (y).off, .int .i64 ((y).wrote : Int), .slice Ak2 nk2 ck2] rfl rfl _ _ Hb6.out Tryz.dcSize rfl (by simp [Value.oneCell']) ?_
          apply Stop.go; intro wm Ho7 Hb7
          have BM := Lib.hid (bonly B6.out Ho7.out N5.out.2)
          have VM := Lib.hid ((V6.out.only Ho7.out (fun h => h.2 rfl)).mono (p' := fun q => q ≠ gx ∧ ro q = none) (fun q _ h => h.1))
          have hSn := BM.out; refine hK _ _ hSn ?_; clear hK; clear K; simp only [setL]
          refine WH.tk 12 ?_; simp only [setL]
          refine WH.tk 13 ?_; simp only [setL]
          refine WH.done (by kernel_rfl) ?_
          clear B6 Hb6 Ho7 V6 B5 N5
          obtain ⟨gy, hgy⟩ : ∃ q, q = wS.heap.size := ⟨_, rfl⟩
          rw [← hgy] at Hb7 ⊢
          clear hgy)
        all_goals
          go_wp2_with fail
          go_meet
          exact ⟨gy, _, _, _, _, _, _, _, _, _, rfl, rfl, rfl, Hb7.out, VM.out, BM.out⟩
      case rest =>
        obtain ⟨g7, Ab2, nb2, cb2, Al2, nl2, cl2, Ak2, nk2, ck2, rfl, rfl, rfl, hb7, hv7, hbw7⟩ := hcut
        have Hb7 := Lib.hid hb7
        have C8 := Lib.hid (C.out.ext hbw7)
        have S8 := Lib.hid (S.out.ext hbw7)
        have X8 := Lib.hid (X.out.ext hbw7)
        have V8 := Lib.hid hv7
        clear hb7 hv7 hbw7 CG C S X Q PN
        go_wp2_with (first | refine wpList_load_blk rfl _ _ rfl _ rfl _ _ Hb7.out _ Tryz.underlying32 rfl Tryz.dcSize ?_ | refine wpList_store_arr rfl _ _ _ rfl _ #[.slice Ab2 nb2 cb2, .slice Al2 nl2 cl2, .int .i64 ((y).last : Int), .int .i64 (y).fuse, .bool (y).off, .int .i64 ((y).wrote : Int), .slice Ak2 nk2 ck2] rfl rfl _ _ X8.out Tryz.dcSize rfl (by simp [Value.oneCell']) ?_); apply Stop.go; intro w9 Ho9 Hb9
        have C9 := Lib.hid (C8.out.only_none Ho9.out NO.out)
        have S9 := Lib.hid (S8.out.only Ho9.out NX.out.2)
        have V9 := Lib.hid (V8.out.only Ho9.out (fun h => h.1 rfl))
        clear Ho9 C8 S8 V8 X8 Hb7
        have kc := cell_ext S9.out.bel KC.out
        go_wp2_with fail
        refine (CS.out w9 C9.out).mono ?_; rintro e wa ⟨rfl, roa, hca, hta⟩
        have Ca := Lib.hid hca
        have Sa := Lib.hid (S9.out.tr hta)
        have Xa := Lib.hid (Hb9.out.tr hta NO.out)
        have Na := Lib.hid (hta.keep gx Hb9.out.lt NO.out).1
        have Va := Lib.hid (V9.out.tr (p' := fun q => q ≠ gx ∧ roa q = none) hta (fun q h => h.2) (fun q h h2 => ⟨h.1, h2⟩))
        clear hca hta CS C9 S9 V9 Hb9 kc
        go_wp2_with (refine wpList_load_blk rfl _ _ rfl _ rfl _ _ Xa.out _ Tryz.underlying32 rfl Tryz.dcSize ?_)
        refine (lsame13_any Ca.out (by omega) LG.out Ab2 nb2 cb2 Al2 nl2 cl2 Ak2 nk2 ck2 Va.out.v).mono ?_; rintro e wb ⟨rfl, hbb⟩
        have Bb := Lib.hid hbb
        clear hbb
        go_wp2_with fail
        go_roundw
        case rel => exact ⟨q + 1, roa, y, _, _, _, _, _, _, _, _, _, by omega, by go_num, Ca.out.ext Bb.out, Sa.out.ext Bb.out, Xa.out.ext Bb.out, Va.out.below Bb.out, LG.out, FG.out, Na.out⟩
        case measure => simp [intOf]; omega
    · have d1 : decide ((q : Int) < (k : Int)) = false := by simpa using hlt
      obtain ⟨R0, hR0⟩ : ∃ R, ms.drop k = R := ⟨_, rfl⟩
      have HR0 := Lib.hid hR0
      clear hR0
      have XE := Lib.hid (show x.Ok ∧ x.last ≤ 1000 ∧ x.base.length = 16 ∧ x.fuse < 9223372036854775808 from ⟨C.out.ok, by have := C.out.last; omega, BL.out, FU.out⟩)
      go_wp2_with fail
      go_loopw [17, 18, 19] (fun vm vw vi wq => ∃ (i many : Nat) (want : Int) (y : DC) (Ab3 : Option Addr) (nb3 cb3 : Nat) (Al3 : Option Addr) (nl3 cl3 : Nat) (Ak3 : Option Addr) (nk3 ck3 : Nat), i ≤ nw ∧ vi = .int .i64 i ∧ vm = .int .i64 many ∧ vw = .int .i64 want ∧ Cch wq ro c b g x 16 ∧ Std w wq ro ∧ Blk wq gx 32 #[.slice Ab3 nb3 cb3, .slice Al3 nl3 cl3, .int .i64 ((y).last : Int), .int .i64 (y).fuse, .bool (y).off, .int .i64 ((y).wrote : Int), .slice Ak3 nk3 ck3] ∧ DCQ (fun q => q ≠ gx ∧ ro q = none) wq y Ab3 nb3 cb3 Al3 nl3 cl3 Ak3 nk3 ck3 ∧ Hid (y.Ok ∧ y.last ≤ 1000 ∧ y.base.length = 16 ∧ y.fuse < 9223372036854775808) ∧ Hid (many ≤ i ∧ k ≤ i) ∧ Hid (want = 0 → x.run R0 = ((y.run (ms.drop i)).1, many + (y.run (ms.drop i)).2.1, (y.run (ms.drop i)).2.2)) ∧ Hid (want ≠ 0 → x.run R0 = (y, many, want))) (fun _ _ vi _ => nw - (intOf vi).toNat)
      case atStart => exact ⟨k, 0, 0, x, _, _, _, _, _, _, _, _, _, HK.out, rfl, rfl, rfl, C.out, S.out, X.out, Q.out, XE, Lib.hid ⟨Nat.zero_le _, Nat.le_refl _⟩, Lib.hid (fun _ => by rw [HR0.out, Nat.zero_add]), Lib.hid (fun h => absurd rfl h)⟩
      case round =>
        obtain ⟨i, many, want, y, Ab3, nb3, cb3, Al3, nl3, cl3, Ak3, nk3, ck3, hi, rfl, rfl, rfl, hc, hst, hbx, hqq, YE, MI, R1, R2⟩ := hrel
        have C3 := Lib.hid hc
        have S3 := Lib.hid hst
        have X3 := Lib.hid hbx
        have Q3 := Lib.hid hqq
        clear hc hst hbx hqq C S X Q
        by_cases hgo : i < nw ∧ want = 0
        · obtain ⟨hin, hw0⟩ := hgo
          subst hw0
          have d2 : decide ((i : Int) < (nw : Int)) = true := by simpa using hin
          have zq : (i : Int) < nw := by omega
          have hql : i < ms.length := by rw [Hnw.out]; exact hin
          have HD := Lib.hid (show ms.drop i = ms[i] :: ms.drop (i + 1) from List.drop_eq_getElem_cons hql)
          obtain ⟨adw, rfl, kc⟩ := Hrw.out.nat hql
          have hmq := Hms.out _ (List.getElem_mem hql)
          generalize ms[i] = m at *
          have KC := Lib.hid kc
          have HMQ := Lib.hid hmq
          have HIN := Lib.hid hin
          clear kc hmq hql hin
          have R1' := Lib.hid (R1.out (by first | rfl | trivial))
          rw [HD.out] at R1'
          have CG := fun (p' : Nat → Prop) (w' : World) (hp' : ∀ q, w'.heap.size ≤ q → p' q) (hq : DCQ p' w' y Ab3 nb3 cb3 Al3 nl3 cl3 Ak3 nk3 ck3) => rstep13_any p' y Ab3 nb3 cb3 Al3 nl3 cl3 Ak3 nk3 ck3 m HMQ.out w' hp' hq YE.out.1 YE.out.2.1 YE.out.2.2.2
          have HRu := Lib.hid (show y.run (m :: ms.drop (i + 1)) = if (y.step (atB m)).2.2 = 0 then (((y.step (atB m)).1.run (ms.drop (i + 1))).1, ((y.step (atB m)).1.run (ms.drop (i + 1))).2.1 + 1, ((y.step (atB m)).1.run (ms.drop (i + 1))).2.2) else ((y.step (atB m)).1, 0, (y.step (atB m)).2.2) from rfl)
          have ZE := Lib.hid (show (y.step (atB m)).1.Ok ∧ (y.step (atB m)).1.last ≤ 1000 ∧ (y.step (atB m)).1.base.length = 16 ∧ (y.step (atB m)).1.fuse < 9223372036854775808 from ⟨DC.step_ok YE.out.1 _, by rw [DC.step_last]; exact YE.out.2.1, by rw [DC.step_blen]; exact YE.out.2.2.1, DC.step_fuse _ YE.out.2.2.2⟩)
          obtain ⟨z, hz⟩ : ∃ z, (y.step (atB m)).1 = z := ⟨_, rfl⟩
          obtain ⟨zn, hzn⟩ : ∃ z, (y.step (atB m)).2.1 = z := ⟨_, rfl⟩
          obtain ⟨ze, hze⟩ : ∃ z, (y.step (atB m)).2.2 = z := ⟨_, rfl⟩
          rw [hz, hzn, hze] at CG
          rw [hz, hze] at HRu
          rw [hz] at ZE
          rw [HRu.out] at R1'
          have CG := Lib.hid CG
          have PN := Lib.hid (show ∀ q, wr.heap.size ≤ q → q ≠ gx ∧ ro q = none from fun q hq => ⟨by have := X3.out.lt; omega, C3.out.none_ge hq⟩)
          clear hz hzn hze HRu
          go_upto_region 19 with fail
          go_cut [20, 22] from 98 to 107 (fun v7 v9 wx => ∃ (g7 : Nat) (Ab2 : Option Addr) (nb2 cb2 : Nat) (Al2 : Option Addr) (nl2 cl2 : Nat) (Ak2 : Option Addr) (nk2 ck2 : Nat), v7 = .pointer (some ⟨g7, 0, none⟩) ∧ v9 = .int .i64 ze ∧ Blk wx g7 32 #[.slice Ab2 nb2 cb2, .slice Al2 nl2 cl2, .int .i64 ((z).last : Int), .int .i64 (z).fuse, .bool (z).off, .int .i64 ((z).wrote : Int), .slice Ak2 nk2 ck2] ∧ DCQ (fun q => q ≠ gx ∧ ro q = none) wx z Ab2 nb2 cb2 Al2 nl2 cl2 Ak2 nk2 ck2 ∧ Below wr.heap.size wr wx)
          case first =>
            refine WH.start (S := fun w' : World => Below wr.heap.size wr w') [false, false, false, false, false, false, false, false, false, false, false, false, false, false] 14 rfl rfl (by kernel_rfl) (bdrew wr 1) (fun hSn => ?_)
            obtain ⟨wS, hwS⟩ : ∃ q, wr.drew = q := ⟨_, rfl⟩
            rw [hwS] at hSn ⊢
            have BS := Lib.hid hSn
            clear hwS
            refine WH.tv 0 rfl (fun w' hSw => exec_load_blk _ _ rfl _ rfl _ _ (X3.out.ext hSw) _ (Tryz.underlying32) rfl (Tryz.dcSize)) ?_; simp only [setL]
            refine WH.tk 1 ?_; simp only [setL]
            refine WH.tk 2 ?_; simp only [setL]
            refine WH.tk 3 ?_; simp only [setL]
            refine WH.tv 4 rfl (fun w' hSw => exec_load_cell _ _ rfl _ rfl (.int .u64 (m : Int)) (cell_ext (bt S3.out.bel hSw) KC.out) _ Tryz.underlying37 rfl) ?_; simp only [setL]
            refine WH.two 5 10 _ _ rfl rfl (by kernel_rfl) rfl rfl (fun K hK => ?_) (fun K hK => ?_)
            focus (
              go_simp; refine (CG.out (fun q => q ≠ gx ∧ ro q = none) wS (fun q hq => PN.out q (Nat.le_trans BS.out.size hq)) (Q3.out.below BS.out)).mono ?_; rintro e w5 ⟨Ab2, nb2, cb2, Al2, nl2, cl2, Ak2, nk2, ck2, rfl, hv5, hb5⟩; go_simp
              have V5 := Lib.hid hv5
              have B5 := Lib.hid (bt BS.out hb5)
              clear hv5 hb5 CG
              have hSn := B5.out; refine hK _ _ hSn ?_; clear hK; clear K; simp only [setL]
              refine WH.tk 6 ?_; simp only [setL]
              refine WH.tk 7 ?_; simp only [setL]
              refine WH.tk 8 ?_; simp only [setL]
              refine WH.tk 9 ?_; simp only [setL]
              refine WH.only 10 _ rfl (by kernel_rfl) rfl (fun K hK => ?_)
              refine ow_alloc _ rfl _ Tryz.dcZero ?_
              apply Stop.go; intro w6 Hg6 Hb6
              have B6 := Lib.hid (bt B5.out Hg6.out.1)
              have hSn := B6.out; refine hK _ _ hSn ?_; clear hK; clear K; simp only [setL]
              refine WH.only 11 _ rfl (by kernel_rfl) rfl (fun K hK => ?_)
              refine ow_store _ _ _ rfl _ #[.slice Ab2 nb2 cb2, .slice Al2 nl2 cl2, .int .i64 ((z).last : Int), .int .i64 (z).fuse, .bool (z).off, .int .i64 ((z).wrote : Int), .slice Ak2 nk2 ck2] rfl rfl _ _ Hb6.out Tryz.dcSize rfl (by simp [Value.oneCell']) ?_
              apply Stop.go; intro wm Ho7 Hb7
              have B57 := Lib.hid (bonly (bt (Below.refl _ w5) Hg6.out.1) Ho7.out (Nat.le_refl _))
              have BM := Lib.hid (bt B5.out B57.out)
              have VM := Lib.hid (V5.out.below B57.out)
              have hSn := BM.out; refine hK _ _ hSn ?_; clear hK; clear K; simp only [setL]
              refine WH.tk 12 ?_; simp only [setL]
              refine WH.tk 13 ?_; simp only [setL]
              refine WH.done (by kernel_rfl) ?_
              clear B6 Hg6 Hb6 Ho7 B57 V5 B5
              obtain ⟨gy, hgy⟩ : ∃ q, q = w5.heap.size := ⟨_, rfl⟩
              rw [← hgy] at Hb7 ⊢
              clear hgy)
            rotate_left
            focus (
              refine ow_alloc _ rfl _ Tryz.dcZero ?_
              apply Stop.go; intro w5 Hg5 Hb5
              have B5 := Lib.hid (bt BS.out Hg5.out.1)
              have hSn := B5.out; refine hK _ _ hSn ?_; clear hK; clear K; simp only [setL]
              have N5 := Lib.hid (show w5.heap.size = wS.heap.size + 1 ∧ wr.heap.size ≤ wS.heap.size from ⟨Hg5.out.2, BS.out.size⟩)
              refine WH.only 5 _ rfl (by kernel_rfl) rfl (fun K hK => ?_); go_simp; refine (CG.out (fun q => (q ≠ gx ∧ ro q = none) ∧ q ≠ wS.heap.size) w5 (fun q hq => ⟨PN.out q (by have := N5.out; omega), by have := N5.out; omega⟩) ((Q3.out.mono (fun q hq h => ⟨h, by have := N5.out; omega⟩)).below B5.out)).mono ?_; rintro e w6 ⟨Ab2, nb2, cb2, Al2, nl2, cl2, Ak2, nk2, ck2, rfl, hv6, hb6⟩; go_simp
              have V6 := Lib.hid hv6
              have B6 := Lib.hid (bt B5.out hb6)
              have Hb6 := Lib.hid (Hb5.out.ext hb6)
              clear hv6 hb6 CG Hb5 Hg5
              have hSn := B6.out; refine hK _ _ hSn ?_; clear hK; clear K; simp only [setL]
              refine WH.tk 6 ?_; simp only [setL]
              refine WH.tk 7 ?_; simp only [setL]
              refine WH.tk 8 ?_; simp only [setL]
              refine WH.tk 9 ?_; simp only [setL]
              refine WH.only 11 _ rfl (by kernel_rfl) rfl (fun K hK => ?_)
              refine ow_store _ _ _ rfl _ #[.slice Ab2 nb2 cb2, .slice Al2 nl2 cl2, .int .i64 ((z).last : Int), .int .i64 (z).fuse, .bool (z).off, .int .i64 ((z).wrote : Int), .slice Ak2 nk2 ck2] rfl rfl _ _ Hb6.out Tryz.dcSize rfl (by simp [Value.oneCell']) ?_
              apply Stop.go; intro wm Ho7 Hb7
              have BM := Lib.hid (bonly B6.out Ho7.out N5.out.2)
              have VM := Lib.hid ((V6.out.only Ho7.out (fun h => h.2 rfl)).mono (p' := fun q => q ≠ gx ∧ ro q = none) (fun q _ h => h.1))
              have hSn := BM.out; refine hK _ _ hSn ?_; clear hK; clear K; simp only [setL]
              refine WH.tk 12 ?_; simp only [setL]
              refine WH.tk 13 ?_; simp only [setL]
              refine WH.done (by kernel_rfl) ?_
              clear B6 Hb6 Ho7 V6 B5 N5
              obtain ⟨gy, hgy⟩ : ∃ q, q = wS.heap.size := ⟨_, rfl⟩
              rw [← hgy] at Hb7 ⊢
              clear hgy)
            all_goals
              go_wp2_with fail
              go_meet
              exact ⟨gy, _, _, _, _, _, _, _, _, _, rfl, rfl, Hb7.out, VM.out, BM.out⟩
          case rest =>
            obtain ⟨g7, Ab2, nb2, cb2, Al2, nl2, cl2, Ak2, nk2, ck2, rfl, rfl, hb7, hv7, hbw7⟩ := hcut
            have Hb7 := Lib.hid hb7
            have C8 := Lib.hid (C3.out.ext hbw7)
            have S8 := Lib.hid (S3.out.ext hbw7)
            have X8 := Lib.hid (X3.out.ext hbw7)
            have V8 := Lib.hid hv7
            clear hb7 hv7 hbw7 CG C3 S3 X3 Q3 PN
            go_wp2_with (first | refine wpList_load_blk rfl _ _ rfl _ rfl _ _ Hb7.out _ Tryz.underlying32 rfl Tryz.dcSize ?_ | refine wpList_store_arr rfl _ _ _ rfl _ #[.slice Ab2 nb2 cb2, .slice Al2 nl2 cl2, .int .i64 ((z).last : Int), .int .i64 (z).fuse, .bool (z).off, .int .i64 ((z).wrote : Int), .slice Ak2 nk2 ck2] rfl rfl _ _ X8.out Tryz.dcSize rfl (by simp [Value.oneCell']) ?_); apply Stop.go; intro w9 Ho9 Hb9
            have C9 := Lib.hid (C8.out.only_none Ho9.out NO.out)
            have S9 := Lib.hid (S8.out.only Ho9.out NX.out.2)
            have V9 := Lib.hid (V8.out.only Ho9.out (fun h => h.1 rfl))
            clear Ho9 C8 S8 V8 X8 Hb7
            by_cases hz0 : ze = 0
            · have e1 : (ze == 0) = true := by simp [hz0]
              rw [if_pos hz0] at R1'
              subst hz0
              have q1 : IntKind.i64.wrap ((many : Int) + 1) = (many : Int) + 1 := by rw [IntKind.wrap_i64]; have h1 := MI.out; omega
              go_wp2_with fail
              go_roundw
              case rel => exact ⟨i + 1, many + 1, 0, z, _, _, _, _, _, _, _, _, _, by omega, by go_num, by go_num, rfl, C9.out, S9.out, Hb9.out, V9.out, ZE, Lib.hid (by have := MI.out; omega), Lib.hid (fun _ => by rw [R1'.out]; simp only [Nat.add_assoc, Nat.add_comm 1]), Lib.hid (fun h => absurd rfl h)⟩
              case measure => have := HIN.out; simp [intOf]; omega
            · have e1 : (ze == 0) = false := by simpa using hz0
              rw [if_neg hz0] at R1'
              have HZ0 := Lib.hid hz0
              clear hz0
              go_wp2_with fail
              go_roundw
              case rel => exact ⟨i + 1, many, ze, z, _, _, _, _, _, _, _, _, _, by omega, by go_num, rfl, rfl, C9.out, S9.out, Hb9.out, V9.out, ZE, Lib.hid (by have := MI.out; omega), Lib.hid (fun h => absurd h HZ0.out), Lib.hid (fun _ => by rw [R1'.out]; simp)⟩
              case measure => have := HIN.out; simp [intOf]; omega
        · have FIN := Lib.hid (show x.run R0 = (y, many, want) from by
            by_cases hw0 : want = 0
            · have hin : nw ≤ i := by
                refine Nat.le_of_not_lt fun h => hgo ⟨h, hw0⟩
              rw [R1.out hw0, List.drop_eq_nil_of_le (by rw [Hnw.out]; exact hin), hw0]
              rfl
            · exact R2.out hw0)
          clear R1 R2
          obtain ⟨A', hA'⟩ : ∃ A', (if cw = k then Aw else Aw.map (·.add k)) = A' := ⟨_, rfl⟩
          obtain ⟨n', hn'⟩ : ∃ n', nw - k = n' := ⟨_, rfl⟩
          obtain ⟨c', hc'⟩ : ∃ c', cw - k = c' := ⟨_, rfl⟩
          have CR := HRn.out wr ro c b g x 16 A' n' c' R0 C3.out (by omega) XE.out.2.2.1 (by rw [← HR0.out, List.length_drop, Hnw.out]; exact hn') (by omega) (fun m hm => Hms.out m (List.mem_of_mem_drop (by rw [HR0.out]; exact hm))) (by rw [← hA', ← HR0.out]; exact (Hrw.out.dropN (by rw [Hnw.out]; exact hcw)).below S3.out.bel) (fun h0 ad e => by
            rw [if_neg (by omega)] at hA'
            rw [← hA'] at e
            cases Aw with
            | none => cases e
            | some a0 =>
              injection e with e
              subst e
              rw [block_of_add]
              obtain ⟨a1, e1, hc1⟩ := Hrw.out.nat (k := 0) (by rw [Hnw.out]; omega)
              injection e1 with e1
              subst e1
              have h1 := block_lt_of_cell hc1
              rw [block_of_add] at h1
              exact S3.out.none h1)
          rw [FIN.out] at CR
          have HA := Lib.hid (And.intro hA' (And.intro hn' hc'))
          have CR := Lib.hid CR
          clear hA' hn' hc'
          by_cases hin : i < nw
          focus (
            have hw0 : want ≠ 0 := fun e => hgo ⟨hin, e⟩
            have d2 : decide ((i : Int) < (nw : Int)) = true := by simpa using hin
            have e1 : (want == 0) = false := by simpa using hw0
            have HGO := Lib.hid hgo
            clear hw0 hgo
            go_wp2_with (refine wpList_slice_from rfl _ _ _ rfl _ Tryz.underlying23 Tryz.u64Size13 Aw nw cw rfl .i64 _ rfl k rfl HK.out hcw ?_; rw [HA.out.1, HA.out.2.1, HA.out.2.2]))
          rotate_left
          focus (
            have d2 : decide ((i : Int) < (nw : Int)) = false := by simpa using hin
            have HGO := Lib.hid hgo
            clear hgo
            go_wp2_with (refine wpList_slice_from rfl _ _ _ rfl _ Tryz.underlying23 Tryz.u64Size13 Aw nw cw rfl .i64 _ rfl k rfl HK.out hcw ?_; rw [HA.out.1, HA.out.2.1, HA.out.2.2]))
          all_goals
            refine (CR.out).mono ?_; rintro e wa ⟨rfl, roa, hca, hta⟩
            have Ca := Lib.hid hca
            have Sa := Lib.hid (S3.out.tr hta)
            have Xa := Lib.hid (X3.out.tr hta NO.out)
            have Va := Lib.hid (Q3.out.tr (p' := fun q => q ≠ gx ∧ roa q = none) hta (fun q h => h.2) (fun q h h2 => ⟨h.1, h2⟩))
            clear hca hta CR C3 S3 X3 Q3
            go_wp2_with (refine wpList_load_blk rfl _ _ rfl _ rfl _ _ Xa.out _ Tryz.underlying32 rfl Tryz.dcSize ?_)
            refine (lsame13_any Ca.out (by omega) YE.out.2.2.1 Ab3 nb3 cb3 Al3 nl3 cl3 Ak3 nk3 ck3 Va.out.v).mono ?_; rintro e wb ⟨rfl, hbb⟩
            have Bb := Lib.hid hbb
            clear hbb
            go_wp2_with fail
            refine (HW.out _).mono ?_; rintro e wd ⟨rfl, hbd⟩
            have Bd := Lib.hid (bt (bt Sa.out.bel Bb.out) hbd)
            clear hbd
            go_wp2_with fail
            go_ret
            exact ⟨rfl, Bd.out⟩

end Go.Proofs.YtpmbpklbiocclaaGreat
