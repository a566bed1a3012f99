/-
  The walk of CacheViews.
-/
import Derived.Test.YtknbjdldmednlaaLaw12s
namespace Go.Proofs.Ytknbjdldmednlaa
open Go.RowKit

/-- What is put, block by block. -/
def wl (H : List Cg) : List (List UInt8) := (List.range 16).map fun (k : Nat) => laidC (zeros 256) (ofC H (k : Int))
theorem Try.wantZero12 : (Try.prog.info? 48).map (·.zero) = some (some (.agg (bcells (wl []).flatten))) := by kernel_rfl
theorem wl_len (H : List Cg) : (wl H).length = 16 := by simp [wl]
theorem wl_get (H : List Cg) {k : Nat} (hk : k < (wl H).length) : (wl H)[k] = laidC (zeros 256) (ofC H (k : Int)) := by simp [wl]
theorem wl_bks (H : List Cg) : Bks (wl H) := fun y hy => by
  obtain ⟨k, hk, rfl⟩ := List.getElem_of_mem hy
  rw [wl_get]
  exact laidC_len _ (zeros_len 256)
theorem wl_nil : wl [] = List.replicate 16 (zeros 256) := by
  apply List.ext_getElem
  · rw [wl_len, List.length_replicate]
  · intro k h1 h2
    rw [wl_get, List.getElem_replicate]
    rfl
theorem wl_snoc (H : List Cg) (c : Cg) {m : Nat} (hb : c.block = (m : Int)) (hm : m < (wl H).length) : wl (H ++ [c]) = (wl H).set m (layP ((wl H)[m]) c.p) := by
  apply List.ext_getElem
  · rw [List.length_set, wl_len, wl_len]
  · intro k h1 h2
    rw [wl_get, ofC_snoc, hb, List.getElem_set]
    by_cases e : m = k
    · subst e
      rw [if_pos rfl, if_pos rfl, laidC_append, wl_get]
      rfl
    · rw [if_neg (by omega), if_neg e, wl_get]
theorem DC.flush_blen (x : DC) (no : Int) : (x.flush no).base.length = x.base.length := by
  unfold DC.flush
  split
  · rfl
  · split
    · rfl
    · show (x.base.set _ _).length = _
      rw [List.length_set]
theorem DC.uptoGo_blen : ∀ n (x : DC) (id : Int), (DC.uptoGo n x id).1.base.length = x.base.length := by
  intro n
  induction n with
  | zero => intro x id; rfl
  | succ n ih =>
    intro x id
    unfold DC.uptoGo
    split
    · rfl
    · split
      · split
        · rw [ih, DC.flush_blen]
        · exact DC.flush_blen _ _
      · rfl
theorem DC.go_blen (x : DC) (s : StC) : (x.go s).1.base.length = x.base.length := by
  unfold DC.go
  split
  · show (x.put s).base.length = _
    unfold DC.put
    split <;> rfl
  · split
    · exact DC.flush_blen _ _
    · split
      · exact DC.uptoGo_blen _ _ _
      · split
        · exact DC.uptoGo_blen _ _ _
        · split
          · rfl
          · split <;> rfl
/-- A put that was made. -/
theorem DC.go_put {x : DC} {s : StC} (h0 : s.do_ = 0) (hE : (x.go s).2.2 = 0) : x.putE s = 0 ∧ (x.go s).2.1 = (x.last : Int) + 1 := by
  unfold DC.go at hE ⊢
  rw [if_pos h0] at hE ⊢
  have hE : x.putE s = 0 := hE
  refine ⟨hE, ?_⟩
  show x.putN s = _
  unfold DC.putN
  rw [if_pos hE]
theorem exec_load_bkR {P : Program} {a : Act} {w : World} {o : Oper} (t : TypeId) (x : Operand) (ho : o.op = .load t x) (ad : Addr) (k : Nat) (hx : a.eval x = .pointer (some (ad.add (k * 256)))) (L : List (List UInt8)) (hL : Bks L) (hk : k < L.length) (R : List UInt8) (hR : L[k] = R) (hr : RK w (some ad) L)
    (d : TypeDesc) (hu : P.underlying t = some d) (hd : (match d with | .struct _ | .array _ _ => true | _ => false) = true) (hs : (P.info? t).map (·.size) = some 256) : (execOp a.eval o).run P w = .ok (.value (.agg (bcells R))) w := by
  subst hR
  exact exec_load_bk t x ho ad k hx L hL hk hr d hu hd hs
set_option maxRecDepth 100000 in
set_option maxHeartbeats 8000000 in
theorem cacheViews_any (A : Option Addr) (n cap : Nat) (l : List Cg) (hn : l.length = n) (hcap : n ≤ cap) (hm : cap ≤ maxLen) (w : World) (hr : RdL RdC w A 5 l) :
    Calls Try.prog 4 #[.slice A n cap] w fun e w' => e = .returned (.bool true) ∧ Below w.heap.size w w' := by
  have Hn := Lib.hid hn
  have Hr := Lib.hid hr
  have HM := Lib.hid (much12_any 20 (by decide) A n cap l hn (Nat.le_trans hcap hm) w hr)
  clear hn hr
  go_enter Try.func4, Try.ntmps4
  go_wp2_with fail
  refine (HM.out).mono ?_; rintro e w1 ⟨rfl, rfl⟩
  cases hmu : muchS l 20
  rotate_left
  · clear hmu
    go_wp2_with fail
    refine (works12_any _).mono ?_; rintro e w2 ⟨rfl, hb2⟩
    have B2 := Lib.hid hb2
    clear hb2
    go_wp2_with fail
    go_ret
    exact ⟨rfl, B2.out⟩
  · obtain ⟨hl20, hsz⟩ := muchS_no hmu
    have HSZ := Lib.hid hsz
    rw [Hn.out] at hl20
    clear hmu hsz
    go_wp2_with fail
    refine (dnew_any 16 (by omega) (by omega) _).mono ?_; rintro e w2 ⟨b, g, rfl, hb2, hg2, hd2, hbw2⟩
    have D2 := Lib.hid hd2
    have B2 := Lib.hid hbw2
    have L2 := Lib.hid (And.intro hb2 hg2)
    clear hb2 hg2 hd2 hbw2
    go_wp2_with fail
    refine (c_new b g w2 D2.out).mono ?_; rintro e w3 ⟨ro3, c, rfl, hc3, ht3⟩
    have lo : Std w w2 (roD b g) := ⟨B2.out, fun k r hk => by
      unfold roD at hk
      by_cases e : k = b ∨ k = g
      · have := L2.out; omega
      · rw [if_neg e] at hk; cases hk⟩
    have C3 := Lib.hid hc3
    have S3 := Lib.hid (lo.tr ht3)
    have W3 := Lib.hid (And.intro (DC.new_hist 16) (show (DC.new 16).base.length = 16 from List.length_replicate))
    obtain ⟨x3, hx3⟩ : ∃ x, DC.new 16 = x := ⟨_, rfl⟩
    rw [hx3] at C3 W3
    clear hc3 ht3 lo D2 B2 hx3
    go_wp2_with (refine wpList_alloc_row rfl _ rfl _ Try.wantZero12 ?_)
    apply Stop.go; intro w4 Hg4 Hb4
    have C4 := Lib.hid (C3.out.ext Hg4.out.1)
    have S4 := Lib.hid (S3.out.ext Hg4.out.1)
    have NW := Lib.hid (C3.out.none_ge (Nat.le_refl w3.heap.size))
    have GW := Lib.hid (show w.heap.size ≤ w3.heap.size from S3.out.bel.size)
    obtain ⟨gw, hgw⟩ : ∃ q, q = w3.heap.size := ⟨_, rfl⟩
    rw [← hgw] at Hb4 NW GW ⊢
    clear hgw C3 S3 Hg4
    go_wp2_with fail
    go_loopw [6] (fun i wr => ∃ (k : Nat) (ro : Nat → Option Rl) (x : DC) (H : List Cg), k ≤ n ∧ i = .int .i64 k ∧ Cch wr ro c b g x k ∧ Std w wr ro ∧ x.Hist H ∧ x.base.length = 16 ∧ Blk wr gw 48 (bcells (wl H).flatten) ∧ ro gw = none) (fun i _ => n - (intOf i).toNat)
    case atStart => exact ⟨0, ro3, x3, [], Nat.zero_le _, rfl, C4.out, S4.out, W3.out.1, W3.out.2, Hb4.out, NW.out⟩
    case round =>
      obtain ⟨k, ro, x, H, hk, rfl, hc, hst, hh, hbl, hbw, hno⟩ := hrel
      have C := Lib.hid hc
      have S := Lib.hid hst
      have HH := Lib.hid hh
      have BL := Lib.hid hbl
      have BW := Lib.hid hbw
      have NO := Lib.hid hno
      clear hc hst hh hbl hbw hno C4 S4 W3 Hb4 NW
      by_cases hlt : k < n
      · have d1 : decide ((k : Int) < (n : Int)) = true := by simpa using hlt
        have hkl : k < l.length := by rw [Hn.out]; exact hlt
        have HSK := Lib.hid (HSZ.out _ (List.getElem_mem hkl))
        obtain ⟨ad, Ad, nd, cd, An, nn, cn, rfl, hcv, g0, g1, g2, g3, g4⟩ := Hr.out.cg hkl
        have FN := Lib.hid (fun (hz : 0 < nn) (ad : Addr) (e : An = some ad) => S.out.none (cv_low hcv hz ad e))
        have CV0 := Lib.hid hcv
        rw [hcv.p.len, hcv.len] at HSK
        generalize l[k] = s at *
        have G0 := Lib.hid g0
        have G1 := Lib.hid g1
        have G2 := Lib.hid g2
        have G3 := Lib.hid g3
        have h0 := cell_ext S.out.bel g0
        have h1 := cell_ext S.out.bel g1
        have h2 := cell_ext S.out.bel g2
        have h3 := cell_ext S.out.bel g3
        have h4 := cell_ext S.out.bel g4
        clear hkl hcv g0 g1 g2 g3 g4
        have CG := go12_any C.out (by omega) s Ad nd cd An nn cn (CV0.out.below S.out.bel) HSK.out.1 HSK.out.2 FN.out
        have HG := Lib.hid (DC.go_hist HH.out C.out.ok (stOf s))
        have LG := Lib.hid (DC.go_blen x (stOf s))
        have PG := Lib.hid (fun (h0 : s.id = 0) (he : (x.go (stOf s)).2.2 = 0) => DC.go_put (x := x) (s := stOf s) h0 he)
        obtain ⟨y, hy⟩ : ∃ y, (x.go (stOf s)).1 = y := ⟨_, rfl⟩
        obtain ⟨zn, hzn⟩ : ∃ z, (x.go (stOf s)).2.1 = z := ⟨_, rfl⟩
        obtain ⟨ze, hze⟩ : ∃ z, (x.go (stOf s)).2.2 = z := ⟨_, rfl⟩
        rw [hy, hzn, hze] at CG
        rw [hy] at HG LG
        rw [hze] at PG
        rw [hzn] at PG
        have HZE := Lib.hid hze
        clear hy hzn hze
        go_wp2_with (refine wpList_load_five rfl _ _ rfl (ad.add (k * 5)) rfl _ _ _ _ _ h0 h1 h2 h3 h4 _ Try.underlying53 Try.stepSize ?_)
        refine (CG).mono ?_; rintro e w5 ⟨rfl, ro5, hc5, ht5⟩
        have C5 := Lib.hid hc5
        have S5 := Lib.hid (S.out.tr ht5)
        have BW5 := Lib.hid (BW.out.tr ht5 NO.out)
        have NO5 := Lib.hid (ht5.keep gw BW.out.lt NO.out).1
        have CK := Lib.hid C.out.ok
        clear hc5 ht5 CG C S BW NO h0 h1 h2 h3 h4
        have h0 := cell_ext S5.out.bel G0.out
        by_cases hput : s.id = 0 ∧ ze = 0
        · obtain ⟨p1, p2⟩ := PG.out hput.1 hput.2
          have f1 : (s.id == 0) = true := by simp [hput.1]
          have f2 : (ze == 0) = true := by simp [hput.2]
          have f3 : decide (zn < 1) = false := by rw [decide_eq_false_iff_not]; omega
          have hrg := DC.has_iff.1 (DC.knownE_has (DC.putE_ok p1).2.2)
          rw [CK.out.kl, BL.out] at hrg
          have hrg : 0 ≤ s.block ∧ s.block < 16 := hrg
          obtain ⟨m, hmm⟩ : ∃ m : Nat, s.block = (m : Int) := ⟨s.block.toNat, by omega⟩
          have HMM := Lib.hid hmm
          have hm16 : m < 16 := by omega
          have hmI : (m : Int) < 16 := by omega
          have hmw : m < (wl H).length := by rw [wl_len]; exact hm16
          have HMW := Lib.hid hmw
          have HST := Lib.hid (show y.Hist (H ++ [x.made (stOf s)]) from by
            have h := HG.out
            rw [if_pos (show (stOf s).do_ = 0 ∧ x.putE (stOf s) = 0 from ⟨hput.1, p1⟩)] at h
            exact h)
          have f4 : decide ((m : Int) < 0) = false := by simp
          have f5 : decide ((15 : Int) < (m : Int)) = false := by rw [decide_eq_false_iff_not]; omega
          have hrow : ((wl H)[m]).length = 256 := wl_bks H _ (List.getElem_mem hmw)
          obtain ⟨R, hR⟩ : ∃ R, (wl H)[m] = R := ⟨_, rfl⟩
          have HRR := Lib.hid hR
          rw [hR] at hrow
          have HWL := Lib.hid (show wl (H ++ [x.made (stOf s)]) = (wl H).set m (layP R s.p) from by rw [← hR]; exact wl_snoc H (x.made (stOf s)) (m := m) hmm hmw)
          have HRL := Lib.hid hrow
          have G1m : Hid (w.cell? ((ad.add (k * 5)).add 1) = some (.int .i64 (m : Int))) := Lib.hid (by rw [← hmm]; exact G1.out)
          have c1 := cell_fld (cell_ext S5.out.bel G0.out) (cell_ext S5.out.bel G1m.out)
          have L3 := Lib.hid (show y.base.length = 16 by rw [LG.out]; exact BL.out)
          clear hput p1 p2 hrg hmm hmw hrow hR HG LG PG
          go_wp2_with fail
          refine WH.start (S := fun w' : World => Below w.heap.size w w') [false, false, false, false, false, false, false, false, false, false, false, false, false, false, false, false, false, false, false, false, false] 21 rfl rfl (by kernel_rfl) (bt S5.out.bel (bdrew w5 1)) (fun hSn => ?_)
          obtain ⟨wS, hwS⟩ : ∃ x, w5.drew = x := ⟨_, rfl⟩
          have CS := Lib.hid (C5.out.ext (bdrew w5 1))
          have SS := Lib.hid (S5.out.ext (bdrew w5 1))
          have BWS := Lib.hid (BW5.out.ext (bdrew w5 1))
          rw [show w5.drewN 1 = wS from hwS] at CS SS BWS
          rw [hwS] at hSn ⊢
          clear hwS C5 S5 BW5 h0 c1
          refine WH.take 0 _ ?_ rfl (by kernel_rfl) (fun _ _ _ h => h) rfl (by assumption) ?_ ?_; rotate_left; (focus (intro w hSw; (try dsimp only at hSw); (first | (go_simp; done) | (go_simp; with_reducible rfl)))); simp only [Act.put, List.setIfInBounds_toArray, List.set_cons_zero, List.set_cons_succ]
          refine WH.take 1 _ ?_ rfl (by kernel_rfl) (fun _ _ _ h => h) rfl (by assumption) ?_ ?_; rotate_left; (focus (intro w hSw; (try dsimp only at hSw); (first | (go_simp; done) | (go_simp; with_reducible rfl)))); simp only [Act.put, List.setIfInBounds_toArray, List.set_cons_zero, List.set_cons_succ]
          refine WH.take 2 _ ?_ rfl (by kernel_rfl) (fun _ _ _ h => h) rfl (by assumption) ?_ ?_; rotate_left; (focus (intro w hSw; (try dsimp only at hSw); (first | (go_simp; done) | (go_simp; with_reducible rfl)))); simp only [Act.put, List.setIfInBounds_toArray, List.set_cons_zero, List.set_cons_succ]
          refine WH.take 3 _ ?_ rfl (by kernel_rfl) (fun _ _ _ h => h) rfl (by assumption) ?_ ?_; rotate_left; (focus (intro w hSw; (try dsimp only at hSw); (first | (go_simp; done) | (go_simp; with_reducible rfl)))); simp only [Act.put, List.setIfInBounds_toArray, List.set_cons_zero, List.set_cons_succ]
          refine WH.take 4 _ _ rfl (by kernel_rfl) (fun _ _ _ h => h) rfl (by assumption) (fun w' hSw => exec_load_cell _ _ rfl _ rfl (.int .i64 (m : Int)) (cell_fld (cell_ext hSw G0.out) (cell_ext hSw G1m.out)) _ Try.underlying3 rfl) ?_; simp only [Act.put, List.setIfInBounds_toArray, List.set_cons_zero, List.set_cons_succ]
          refine WH.take 5 _ ?_ rfl (by kernel_rfl) (fun _ _ _ h => h) rfl (by assumption) ?_ ?_; rotate_left; (focus (intro w hSw; (try dsimp only at hSw); (first | (go_simp; done) | (go_simp; with_reducible rfl)))); simp only [Act.put, List.setIfInBounds_toArray, List.set_cons_zero, List.set_cons_succ]
          refine WH.take 6 _ ?_ rfl (by kernel_rfl) (fun _ _ _ h => h) rfl (by assumption) ?_ ?_; rotate_left; (focus (intro w hSw; (try dsimp only at hSw); (first | (go_simp; done) | (go_simp; with_reducible rfl)))); simp only [Act.put, List.setIfInBounds_toArray, List.set_cons_zero, List.set_cons_succ]
          refine WH.take 7 _ ?_ rfl (by kernel_rfl) (fun _ _ _ h => h) rfl (by assumption) ?_ ?_; rotate_left; (focus (intro w hSw; (try dsimp only at hSw); (first | (go_simp; done) | (go_simp; with_reducible rfl)))); simp only [Act.put, List.setIfInBounds_toArray, List.set_cons_zero, List.set_cons_succ]
          refine WH.take 8 _ ?_ rfl (by kernel_rfl) (fun _ _ _ h => h) rfl (by assumption) ?_ ?_; rotate_left; (focus (intro w hSw; (try dsimp only at hSw); (first | (go_simp; done) | (go_simp; with_reducible rfl)))); simp only [Act.put, List.setIfInBounds_toArray, List.set_cons_zero, List.set_cons_succ]
          refine WH.take 9 _ _ rfl (by kernel_rfl) (fun _ _ _ h => h) rfl (by assumption) (fun w' hSw => exec_load_cell _ _ rfl _ rfl (.int .i64 (m : Int)) (cell_fld (cell_ext hSw G0.out) (cell_ext hSw G1m.out)) _ Try.underlying3 rfl) ?_; simp only [Act.put, List.setIfInBounds_toArray, List.set_cons_zero, List.set_cons_succ]
          refine WH.take 10 _ ?_ rfl (by kernel_rfl) (fun _ _ _ h => h) rfl (by assumption) ?_ ?_; rotate_left; (focus (intro w hSw; (try dsimp only at hSw); (first | (go_simp; done) | (go_simp; with_reducible rfl)))); simp only [Act.put, List.setIfInBounds_toArray, List.set_cons_zero, List.set_cons_succ]
          refine WH.take 12 _ ?_ rfl (by kernel_rfl) (fun _ _ _ h => h) rfl (by assumption) ?_ ?_; rotate_left; (focus (intro w hSw; (try dsimp only at hSw); (first | (go_simp; done) | (go_simp; with_reducible rfl)))); simp only [Act.put, List.setIfInBounds_toArray, List.set_cons_zero, List.set_cons_succ]
          refine WH.take 13 _ ?_ rfl (by kernel_rfl) (fun _ _ _ h => h) rfl (by assumption) ?_ ?_; rotate_left; (focus (intro w hSw; (try dsimp only at hSw); (first | (go_simp; done) | (go_simp; with_reducible rfl)))); simp only [Act.put, List.setIfInBounds_toArray, List.set_cons_zero, List.set_cons_succ]
          refine WH.take 14 _ ?_ rfl (by kernel_rfl) (fun _ _ _ h => h) rfl (by assumption) ?_ ?_; rotate_left; (focus (intro w hSw; (try dsimp only at hSw); (first | (go_simp; done) | (go_simp; with_reducible rfl)))); simp only [Act.put, List.setIfInBounds_toArray, List.set_cons_zero, List.set_cons_succ]
          refine WH.take 15 _ ?_ rfl (by kernel_rfl) (fun _ _ _ h => h) rfl (by assumption) ?_ ?_; rotate_left; (focus (intro w hSw; (try dsimp only at hSw); (first | (go_simp; done) | (go_simp; with_reducible rfl)))); simp only [Act.put, List.setIfInBounds_toArray, List.set_cons_zero, List.set_cons_succ]
          refine WH.take 16 _ _ rfl (by kernel_rfl) (fun _ _ _ h => h) rfl (by assumption) (fun w' hSw => exec_load_pair _ _ rfl _ rfl (.int .i64 s.p.at_) (.slice Ad nd cd) (cell_fld (cell_ext hSw G0.out) (cell_ext hSw G2.out)) (cell_fld1 (cell_ext hSw G0.out) (cell_ext hSw G3.out)) _ Try.underlying51 Try.r07Size) ?_; simp only [Act.put, List.setIfInBounds_toArray, List.set_cons_zero, List.set_cons_succ]
          have CT := to_any s.p Ad nd cd wS (CV0.out.below SS.out.bel).p (by have := HSK.out.1; omega)
          refine WH.two 11 17 _ _ rfl rfl (by kernel_rfl) rfl rfl (fun K hK => ?_) (fun K hK => ?_)
          · unfold Oper.wp
            rw [exec_load_bkR _ _ rfl ⟨gw, 0, none⟩ m (by rw [addr_add0]; rfl) (wl H) (wl_bks H) HMW.out R HRR.out (RK.of_blk (wl_bks H) BWS.out) _ Try.underlying27 rfl Try.blockSize]
            have hSn := hSn; refine hK _ _ hSn ?_; clear hK; clear K; simp only [Act.put, List.setIfInBounds_toArray, List.set_cons_zero, List.set_cons_succ]
            refine WH.only 17 _ rfl (by kernel_rfl) rfl (fun K hK => ?_); go_simp; refine (CT).mono ?_; rintro e w7 ⟨g7, n7, c7, rfl, hp7, hb7, hg7⟩; go_simp
            have C7 := Lib.hid (CS.out.ext hb7)
            have S7 := Lib.hid (SS.out.ext hb7)
            have BW7 := Lib.hid (BWS.out.ext hb7)
            have P7 := Lib.hid hp7
            clear hb7 hp7 hg7 CS SS BWS CT
            have hSn := S7.out.bel; refine hK _ _ hSn ?_; clear hK; clear K; simp only [List.set_cons_zero, List.set_cons_succ]
            have CL := play_any R HRL.out s.p (some ⟨g7, 0, none⟩) n7 c7 w7 P7.out
            refine WH.only 18 _ rfl (by kernel_rfl) rfl (fun K hK => ?_); go_simp; refine (CL).mono ?_; rintro e w8 ⟨rfl, hb8⟩; go_simp
            have C8 := Lib.hid (C7.out.ext hb8)
            have S8 := Lib.hid (S7.out.ext hb8)
            have BW8 := Lib.hid (BW7.out.ext hb8)
            clear hb8 CL C7 S7 BW7
            have hSn := S8.out.bel; refine hK _ _ hSn ?_; clear hK; clear K; simp only [List.set_cons_zero, List.set_cons_succ]
            refine WH.take 19 _ ?_ rfl (by kernel_rfl) (fun _ _ _ h => h) rfl (by assumption) ?_ ?_; rotate_left; (focus (intro w hSw; (try dsimp only at hSw); (first | (go_simp; done) | (go_simp; with_reducible rfl)))); simp only [Act.put, List.setIfInBounds_toArray, List.set_cons_zero, List.set_cons_succ]
            have hly : (layP R s.p).length = 256 := layP_len _ HRL.out
            refine WH.only 20 _ rfl (by kernel_rfl) rfl (fun K hK => ?_)
            refine ow_store_bk _ _ _ rfl Try.blockSize gw m rfl (layP R s.p) rfl hly _ (wl H) (wl_bks H) HMW.out BW8.out ?_
            apply Stop.go; intro w9 Ho9 Hb9
            have C9 := Lib.hid (C8.out.only_none Ho9.out NO5.out)
            have S9 := Lib.hid (S8.out.only Ho9.out GW.out)
            have hSn := S9.out.bel; refine hK _ _ hSn ?_; clear hK; clear K; simp only [Act.put, List.set_cons_zero, List.set_cons_succ]
            refine WH.done (by kernel_rfl) ?_
            go_wp2_with fail
            go_roundw
            case rel => exact ⟨k + 1, ro5, y, _, by omega, by go_num, C9.out, S9.out, HST.out, L3.out, by rw [HWL.out]; exact Hb9.out, NO5.out⟩
            case measure => simp [intOf]; omega
          · go_simp; refine (CT).mono ?_; rintro e w7 ⟨g7, n7, c7, rfl, hp7, hb7, hg7⟩; go_simp
            have C7 := Lib.hid (CS.out.ext hb7)
            have S7 := Lib.hid (SS.out.ext hb7)
            have BW7 := Lib.hid (BWS.out.ext hb7)
            have P7 := Lib.hid hp7
            clear hb7 hp7 hg7 CS SS BWS CT
            have hSn := S7.out.bel; refine hK _ _ hSn ?_; clear hK; clear K; simp only [List.set_cons_zero, List.set_cons_succ]
            refine WH.only 11 _ rfl (by kernel_rfl) rfl (fun K hK => ?_)
            unfold Oper.wp
            rw [exec_load_bkR _ _ rfl ⟨gw, 0, none⟩ m (by rw [addr_add0]; rfl) (wl H) (wl_bks H) HMW.out R HRR.out (RK.of_blk (wl_bks H) BW7.out) _ Try.underlying27 rfl Try.blockSize]
            have hSn := S7.out.bel; refine hK _ _ hSn ?_; clear hK; clear K; simp only [Act.put, List.setIfInBounds_toArray, List.set_cons_zero, List.set_cons_succ]
            have CL := play_any R HRL.out s.p (some ⟨g7, 0, none⟩) n7 c7 w7 P7.out
            refine WH.only 18 _ rfl (by kernel_rfl) rfl (fun K hK => ?_); go_simp; refine (CL).mono ?_; rintro e w8 ⟨rfl, hb8⟩; go_simp
            have C8 := Lib.hid (C7.out.ext hb8)
            have S8 := Lib.hid (S7.out.ext hb8)
            have BW8 := Lib.hid (BW7.out.ext hb8)
            clear hb8 CL C7 S7 BW7
            have hSn := S8.out.bel; refine hK _ _ hSn ?_; clear hK; clear K; simp only [List.set_cons_zero, List.set_cons_succ]
            refine WH.take 19 _ ?_ rfl (by kernel_rfl) (fun _ _ _ h => h) rfl (by assumption) ?_ ?_; rotate_left; (focus (intro w hSw; (try dsimp only at hSw); (first | (go_simp; done) | (go_simp; with_reducible rfl)))); simp only [Act.put, List.setIfInBounds_toArray, List.set_cons_zero, List.set_cons_succ]
            have hly : (layP R s.p).length = 256 := layP_len _ HRL.out
            refine WH.only 20 _ rfl (by kernel_rfl) rfl (fun K hK => ?_)
            refine ow_store_bk _ _ _ rfl Try.blockSize gw m rfl (layP R s.p) rfl hly _ (wl H) (wl_bks H) HMW.out BW8.out ?_
            apply Stop.go; intro w9 Ho9 Hb9
            have C9 := Lib.hid (C8.out.only_none Ho9.out NO5.out)
            have S9 := Lib.hid (S8.out.only Ho9.out GW.out)
            have hSn := S9.out.bel; refine hK _ _ hSn ?_; clear hK; clear K; simp only [Act.put, List.set_cons_zero, List.set_cons_succ]
            refine WH.done (by kernel_rfl) ?_
            go_wp2_with fail
            go_roundw
            case rel => exact ⟨k + 1, ro5, y, _, by omega, by go_num, C9.out, S9.out, HST.out, L3.out, by rw [HWL.out]; exact Hb9.out, NO5.out⟩
            case measure => simp [intOf]; omega
        · have HST := Lib.hid (show y.Hist H from by
            have h := HG.out
            rw [if_neg (show ¬ ((stOf s).do_ = 0 ∧ x.putE (stOf s) = 0) from fun hh => hput ⟨hh.1, by
              have e : (x.go (stOf s)).2.2 = x.putE (stOf s) := by unfold DC.go; rw [if_pos hh.1]
              rw [← HZE.out, e]; exact hh.2⟩)] at h
            exact h)
          have L3 := Lib.hid (show y.base.length = 16 by rw [LG.out]; exact BL.out)
          clear HG LG PG
          by_cases h00 : s.id = 0
          · have f1 : (s.id == 0) = true := by simp [h00]
            have f2 : (ze == 0) = false := by
              have : ze ≠ 0 := fun e => hput ⟨h00, e⟩
              simpa using this
            clear h00 hput
            go_wp2_with fail
            go_roundw
            case rel => exact ⟨k + 1, ro5, y, H, by omega, by go_num, C5.out, S5.out, HST.out, L3.out, BW5.out, NO5.out⟩
            case measure => simp [intOf]; omega
          · have f1 : (s.id == 0) = false := by simpa using h00
            clear h00 hput
            go_wp2_with fail
            go_roundw
            case rel => exact ⟨k + 1, ro5, y, H, by omega, by go_num, C5.out, S5.out, HST.out, L3.out, BW5.out, NO5.out⟩
            case measure => simp [intOf]; omega
      · have d1 : decide ((k : Int) < (n : Int)) = false := by simpa using hlt
        have hk20 : k ≤ 20 := by omega
        have HU := Lib.hid (DC.up_hist HH.out)
        have LU := Lib.hid (show x.up.base.length = 16 from BL.out)
        have OU := Lib.hid (show x.up.off = false from rfl)
        have CU := c_up C.out
        obtain ⟨y, hy⟩ : ∃ y, x.up = y := ⟨_, rfl⟩
        rw [hy] at HU LU OU CU
        clear hy
        go_wp2_with fail
        refine (CU).mono ?_; rintro e w5 ⟨rfl, hc5, ht5⟩
        have C5 := Lib.hid hc5
        have S5 := Lib.hid (S.out.tr ht5)
        have BW5 := Lib.hid (BW.out.tr ht5 NO.out)
        have NO5 := Lib.hid (ht5.keep gw BW.out.lt NO.out).1
        have HV := Lib.hid (show ∀ j : Nat, j < 16 → viewC (y.bd (j : Int)) y.list (j : Int) = laidC (zeros 256) (ofC H (j : Int)) from fun j _ => HU.out.view _)
        clear hc5 ht5 CU C S BW NO HU BL HH
        go_wp2_with fail
        go_loopw [9] (fun i wr => ∃ (j : Nat) (r2 : Nat → Option Rl) (x2 : DC), j ≤ 16 ∧ i = .int .i64 j ∧ Cch wr r2 c b g x2 (k + j) ∧ Std w wr r2 ∧ Blk wr gw 48 (bcells (wl H).flatten) ∧ r2 gw = none ∧ x2.base = y.base ∧ x2.list = y.list ∧ x2.off = false) (fun i _ => 16 - (intOf i).toNat)
        case atStart => exact ⟨0, ro, y, by omega, rfl, C5.out, S5.out, BW5.out, NO5.out, rfl, rfl, OU.out⟩
        case round =>
          obtain ⟨j, r2, x2, hj, rfl, hc, hst, hbw, hno, p1, p2, p3⟩ := hrel
          have C := Lib.hid hc
          have S := Lib.hid hst
          have BW := Lib.hid hbw
          have NO := Lib.hid hno
          have PP := Lib.hid (And.intro p1 (And.intro p2 p3))
          clear hc hst hbw hno p1 p2 p3 C5 S5 BW5 NO5
          by_cases hj16 : j < 16
          · have d3 : decide ((j : Int) < 16) = true := by rw [decide_eq_true_eq]; omega
            have hjI : (j : Int) < 16 := by omega
            have hjX : j < (wl H).length := by rw [wl_len]; exact hj16
            have hkE := Well.knE PP.out.2.2 C.out.ok (by rw [PP.out.1]; exact LU.out) (j := (j : Int)) (by omega) (by omega)
            have CG := c_get C.out (by omega) (j : Int) (by omega) (by omega)
            have hbd : x2.bd (j : Int) = y.bd (j : Int) := by unfold DC.bd; rw [PP.out.1]
            rw [hkE, if_pos rfl, hbd, PP.out.2.1, HV.out j hj16, ← wl_get H hjX] at CG
            obtain ⟨f1, f2, f3, f4, f5, f6⟩ := x2.known_fields (j : Int)
            have PK := Lib.hid (show (x2.known (j : Int)).base = y.base ∧ (x2.known (j : Int)).list = y.list ∧ (x2.known (j : Int)).off = false from ⟨f2.trans PP.out.1, f1.trans PP.out.2.1, f5.trans PP.out.2.2⟩)
            obtain ⟨M, hMx⟩ : ∃ M, (wl H)[j] = M := ⟨_, rfl⟩
            have HMX := Lib.hid hMx
            have HML := Lib.hid (show M.length = 256 by rw [← hMx]; exact wl_bks H _ (List.getElem_mem hjX))
            rw [hMx] at CG
            have HJX := Lib.hid hjX
            clear hkE hbd f1 f2 f3 f4 f5 f6 hMx
            go_wp2_with fail
            refine (CG).mono ?_; rintro e w10 ⟨rfl, r3, hc10, ht10⟩
            have C10 := Lib.hid hc10
            have S10 := Lib.hid (S.out.tr ht10)
            have BW10 := Lib.hid (BW.out.tr ht10 NO.out)
            have N10 := Lib.hid (ht10.keep gw BW.out.lt NO.out).1
            clear hc10 ht10 CG C S BW NO
            go_wp2_with (refine wpList_alloc_row rfl _ rfl _ Try.blockZero ?_)
            apply Stop.go; intro w11 Hg11 Hb11
            go_wp2_with (refine wpList_store_arr rfl _ _ _ rfl _ (bcells M) rfl rfl _ _ Hb11.out (Try.blockFits HML.out) (by rw [bcells_size, bcells_size, HML.out, zeros_len]) (oneCell_bcells _) ?_)
            apply Stop.go; intro w12 Ho12 Hb12
            have C12 := Lib.hid ((C10.out.ext Hg11.out.1).only_none Ho12.out (C10.out.none_ge (Nat.le_refl _)))
            have S12 := Lib.hid ((S10.out.ext Hg11.out.1).only Ho12.out S10.out.bel.size)
            have BW12 := Lib.hid ((BW10.out.ext Hg11.out.1).only Ho12.out (Nat.ne_of_lt BW10.out.lt))
            obtain ⟨gb, hgb⟩ : ∃ q, q = w10.heap.size := ⟨_, rfl⟩
            rw [← hgb] at Hb12 ⊢
            clear hgb C10 S10 Hg11 Hb11 Ho12 BW10
            go_wp2_with fail
            refine WH.start (S := fun w' : World => Blk w' gw 48 (bcells (wl H).flatten) ∧ Blk w' gb 27 (bcells M)) [false, false, false, false, false, false, false, false, false] 9 rfl rfl (by kernel_rfl) ⟨BW12.out.ext (bdrew w12 1), Hb12.out.ext (bdrew w12 1)⟩ (fun hSn => ?_)
            obtain ⟨wS, hwS⟩ : ∃ x, w12.drew = x := ⟨_, rfl⟩
            have CS := Lib.hid (C12.out.ext (bdrew w12 1))
            have SS := Lib.hid (S12.out.ext (bdrew w12 1))
            have BS := Lib.hid (BW12.out.ext (bdrew w12 1))
            rw [show w12.drewN 1 = wS from hwS] at CS SS BS
            rw [hwS] at hSn ⊢
            clear hwS C12 S12 BW12 Hb12
            refine WH.take 0 _ ?_ rfl (by kernel_rfl) (fun _ _ _ h => h) rfl (by assumption) ?_ ?_; rotate_left; (focus (intro w hSw; (try dsimp only at hSw); (first | (go_simp; done) | (go_simp; with_reducible rfl)))); simp only [Act.put, List.setIfInBounds_toArray, List.set_cons_zero, List.set_cons_succ]
            refine WH.take 1 _ ?_ rfl (by kernel_rfl) (fun _ _ _ h => h) rfl (by assumption) ?_ ?_; rotate_left; (focus (intro w hSw; (try dsimp only at hSw); (first | (go_simp; done) | (go_simp; with_reducible rfl)))); simp only [Act.put, List.setIfInBounds_toArray, List.set_cons_zero, List.set_cons_succ]
            refine WH.take 2 _ ?_ rfl (by kernel_rfl) (fun _ _ _ h => h) rfl (by assumption) ?_ ?_; rotate_left; (focus (intro w hSw; (try dsimp only at hSw); (first | (go_simp; done) | (go_simp; with_reducible rfl)))); simp only [Act.put, List.setIfInBounds_toArray, List.set_cons_zero, List.set_cons_succ]
            refine WH.take 3 _ _ rfl (by kernel_rfl) (fun _ _ _ h => h) rfl (by assumption) (fun w' hSw => exec_load_blk _ _ rfl _ rfl _ _ (hSw.2) _ (Try.underlying27) rfl (Try.blockFits HML.out)) ?_; simp only [Act.put, List.setIfInBounds_toArray, List.set_cons_zero, List.set_cons_succ]
            refine WH.take 4 _ ?_ rfl (by kernel_rfl) (fun _ _ _ h => h) rfl (by assumption) ?_ ?_; rotate_left; (focus (intro w hSw; (try dsimp only at hSw); (first | (go_simp; done) | (go_simp; with_reducible rfl)))); simp only [Act.put, List.setIfInBounds_toArray, List.set_cons_zero, List.set_cons_succ]
            refine WH.take 5 _ ?_ rfl (by kernel_rfl) (fun _ _ _ h => h) rfl (by assumption) ?_ ?_; rotate_left; (focus (intro w hSw; (try dsimp only at hSw); (first | (go_simp; done) | (go_simp; with_reducible rfl)))); simp only [Act.put, List.setIfInBounds_toArray, List.set_cons_zero, List.set_cons_succ]
            refine WH.take 6 _ _ rfl (by kernel_rfl) (fun _ _ _ h => h) rfl (by assumption) (fun w' hSw => exec_load_bkR _ _ rfl ⟨gw, 0, none⟩ j (by rw [addr_add0]; rfl) (wl H) (wl_bks H) HJX.out M HMX.out (RK.of_blk (wl_bks H) hSw.1) _ Try.underlying27 rfl Try.blockSize) ?_; simp only [Act.put, List.setIfInBounds_toArray, List.set_cons_zero, List.set_cons_succ]
            refine WH.take 7 _ _ rfl (by kernel_rfl) (fun _ _ _ h => h) rfl (by assumption) (fun w' hSw => exec_neq_arr _ _ _ _ rfl Try.blockGuard12 _ _ Try.underlying27 Try.underlying5 Try.byteSize M M rfl rfl HML.out HML.out false (by simp)) ?_; simp only [Act.put, List.setIfInBounds_toArray, List.set_cons_zero, List.set_cons_succ]
            refine WH.take 8 _ ?_ rfl (by kernel_rfl) (fun _ _ _ h => h) rfl (by assumption) ?_ ?_; rotate_left; (focus (intro w hSw; (try dsimp only at hSw); (first | (go_simp; done) | (go_simp; with_reducible rfl)))); simp only [Act.put, List.setIfInBounds_toArray, List.set_cons_zero, List.set_cons_succ]
            refine WH.done (by kernel_rfl) ?_
            go_wp2_with fail
            go_roundw
            case rel => exact ⟨j + 1, r3, _, by omega, by go_num, CS.out, SS.out, BS.out, N10.out, PK.out.1, PK.out.2.1, PK.out.2.2⟩
            case measure => simp [intOf]; omega
          · have d3 : decide ((j : Int) < 16) = false := by rw [decide_eq_false_iff_not]; omega
            go_wp2_with fail
            refine (works12_any _).mono ?_; rintro e w10 ⟨rfl, hb10⟩
            have B10 := Lib.hid (S.out.ext hb10).bel
            clear hb10
            go_wp2_with fail
            go_ret
            exact ⟨rfl, B10.out⟩

end Go.Proofs.Ytknbjdldmednlaa
