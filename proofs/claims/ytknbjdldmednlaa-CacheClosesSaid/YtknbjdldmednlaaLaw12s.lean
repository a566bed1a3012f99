/-
  The walk of CacheSyncs.
-/
import Derived.Test.YtknbjdldmednlaaLaw12g
namespace Go.Proofs.Ytknbjdldmednlaa
open Go.RowKit

theorem Try.blockGuard12 : Try.prog.eqGuardType Try.prog.depth 27 = false := by kernel_rfl
/-- A device that is well. -/
structure Well (x : DC) : Prop where
  off : x.off = false
  fuse : x.fuse = -1
  len : x.base.length = 16
theorem Well.new : Well (DC.new 16) := ⟨rfl, rfl, List.length_replicate⟩
theorem Well.put {x : DC} (h : Well x) (s : StC) : Well (x.put s) := by
  unfold DC.put
  split
  · exact ⟨h.off, h.fuse, h.len⟩
  · exact h
theorem Well.flush {x : DC} (h : Well x) (no : Int) : Well (x.flush no) := by
  unfold DC.flush
  split
  · exact h
  · have hs : x.stuck = false := by unfold DC.stuck; rw [h.off, h.fuse]; rfl
    rw [hs]
    refine ⟨h.off, ?_, ?_⟩
    · show (if 0 < x.fuse then x.fuse - 1 else x.fuse) = -1
      rw [h.fuse]; rfl
    · show (x.base.set _ _).length = 16
      rw [List.length_set]; exact h.len
theorem Well.uptoGo : ∀ n {x : DC}, Well x → ∀ id, Well (DC.uptoGo n x id).1 := by
  intro n
  induction n with
  | zero => intro x h id; exact h
  | succ n ih =>
    intro x h id
    unfold DC.uptoGo
    split
    · exact h
    · split
      · split
        · exact ih (h.flush _) id
        · exact h.flush _
      · exact h
theorem Well.go {x : DC} (h : Well x) (s : StC) (h4 : s.do_ ≠ 4) : Well (x.go s).1 := by
  unfold DC.go
  by_cases h0 : s.do_ = 0
  · rw [if_pos h0]; exact h.put s
  · rw [if_neg h0]
    by_cases h1 : s.do_ = 1
    · rw [if_pos h1]; exact h.flush _
    · rw [if_neg h1]
      by_cases h2 : s.do_ = 2
      · rw [if_pos h2]; exact Well.uptoGo _ h _
      · rw [if_neg h2]
        by_cases h3 : s.do_ = 3
        · rw [if_pos h3]; exact Well.uptoGo _ h _
        · rw [if_neg h3, if_neg h4]
          by_cases h5 : s.do_ = 5
          · rw [if_pos h5]; exact ⟨rfl, rfl, h.len⟩
          · rw [if_neg h5]; exact h
theorem Well.knE {x : DC} (h : x.off = false) (hk : x.Ok) (hl : x.base.length = 16) {j : Int} (h0 : 0 ≤ j) (h1 : j < 16) : x.knownE j = 0 := by
  unfold DC.knownE
  have hh : x.has j = true := DC.has_iff.2 ⟨h0, by rw [hk.kl, hl]; exact h1⟩
  rw [h, hh]
  cases x.kn j <;> rfl
theorem RK.same {w w' : World} {g : Nat} {L : List (List UInt8)} (h : RK w (some ⟨g, 0, none⟩) L) (hb : w'.heap[g]? = w.heap[g]?) : RK w' (some ⟨g, 0, none⟩) L := fun k hk i hi => by
  obtain ⟨ad, x, e, hx, hc⟩ := h k hk i hi
  refine ⟨ad, x, e, hx, ?_⟩
  injection e with e
  rw [← hc, ← e]
  unfold World.cell?
  rw [block_of_add, hb]
theorem bd_at {x : DC} {X : List (List UInt8)} (h : x.base = X) {j : Nat} (hj : j < X.length) : x.bd (j : Int) = X[j] := by
  unfold DC.bd
  rw [if_pos (by omega), h, List.getD_eq_getElem?_getD, Int.toNat_natCast, List.getElem?_eq_getElem hj]
  rfl
theorem cv_low {w : World} {s : Cg} {Ad : Option Addr} {nd cd : Nat} {An : Option Addr} {nn cn : Nat} (h : CV w s Ad nd cd An nn cn) (hn : 0 < nn) : ∀ ad, An = some ad → ad.block < w.heap.size := fun ad e => by
  obtain ⟨ad', e', hc⟩ := h.read 0 (by rw [ivals_len, h.len]; exact hn)
  rw [e] at e'
  injection e' with e'
  subst e'
  have := block_lt_of_cell hc
  rw [block_of_add] at this
  exact this
set_option maxRecDepth 100000 in
set_option maxHeartbeats 8000000 in
theorem cacheSyncs_any (A : Option Addr) (n cap : Nat) (l : List Cg) (hn : l.length = n) (hcap : n ≤ cap) (hm : cap ≤ maxLen) (w : World) (hr : RdL RdC w A 5 l) :
    Calls Try.prog 6 #[.slice A n cap] w fun e w' => e = .returned (.bool true) ∧ Below w.heap.size w w' := by
  have Hn := Lib.hid hn
  have Hr := Lib.hid hr
  have HM := Lib.hid (much12_any 20 (by decide) A n cap l hn (Nat.le_trans hcap hm) w hr)
  clear hn hr
  go_enter Try.func6, Try.ntmps6
  go_wp2_with fail
  refine (HM.out).mono ?_; rintro e w1 ⟨rfl, rfl⟩
  cases hmu : muchS l 20
  rotate_left
  · clear hmu
    go_wp2_with fail
    refine (works12_any _).mono ?_; rintro e w2 ⟨rfl, hb2⟩
    have B2 := Lib.hid hb2
    clear hb2
    go_wp2_with fail
    go_ret
    exact ⟨rfl, B2.out⟩
  · obtain ⟨hl20, hsz⟩ := muchS_no hmu
    have HSZ := Lib.hid hsz
    rw [Hn.out] at hl20
    clear hmu hsz
    go_wp2_with fail
    refine (dnew_any 16 (by omega) (by omega) _).mono ?_; rintro e w2 ⟨b, g, rfl, hb2, hg2, hd2, hbw2⟩
    have D2 := Lib.hid hd2
    have B2 := Lib.hid hbw2
    have L2 := Lib.hid (And.intro hb2 hg2)
    clear hb2 hg2 hd2 hbw2
    go_wp2_with fail
    refine (c_new b g w2 D2.out).mono ?_; rintro e w3 ⟨ro3, c, rfl, hc3, ht3⟩
    have lo : Std w w2 (roD b g) := ⟨B2.out, fun k r hk => by
      unfold roD at hk
      by_cases e : k = b ∨ k = g
      · have := L2.out; omega
      · rw [if_neg e] at hk; cases hk⟩
    have C3 := Lib.hid hc3
    have S3 := Lib.hid (lo.tr ht3)
    have W3 := Lib.hid Well.new
    obtain ⟨x3, hx3⟩ : ∃ x, DC.new 16 = x := ⟨_, rfl⟩
    rw [hx3] at C3 W3
    clear hc3 ht3 lo D2 B2 hx3
    go_wp2_with fail
    go_loopw [5] (fun i wr => ∃ (k : Nat) (ro : Nat → Option Rl) (x : DC), k ≤ n ∧ i = .int .i64 k ∧ Cch wr ro c b g x k ∧ Std w wr ro ∧ Well x) (fun i _ => n - (intOf i).toNat)
    case atStart => exact ⟨0, ro3, x3, Nat.zero_le _, rfl, C3.out, S3.out, W3.out⟩
    case round =>
      obtain ⟨k, ro, x, hk, rfl, hc, hst, hw⟩ := hrel
      have C := Lib.hid hc
      have S := Lib.hid hst
      have W := Lib.hid hw
      clear hc hst hw C3 S3 W3
      by_cases hlt : k < n
      · have d1 : decide ((k : Int) < (n : Int)) = true := by simpa using hlt
        have hkl : k < l.length := by rw [Hn.out]; exact hlt
        have HSK := Lib.hid (HSZ.out _ (List.getElem_mem hkl))
        obtain ⟨ad, Ad, nd, cd, An, nn, cn, rfl, hcv, h0, h1, h2, h3, h4⟩ := (Hr.out.below S.out.bel).cg hkl
        obtain ⟨ad', Ad', nd', cd', An', nn', cn', e', hcv', g0, g1, g2, g3, g4⟩ := Hr.out.cg hkl
        injection e' with e'
        subst e'
        have eA : An' = An ∧ nn' = nn := by
          rw [S.out.bel.cell (block_lt_of_cell g4), g4] at h4
          injection h4 with h4
          injection h4 with h5 h6 h7
          exact ⟨h5, h6⟩
        obtain ⟨eA1, eA2⟩ := eA
        subst eA1; subst eA2
        have FN := Lib.hid (fun (hz : 0 < nn') (ad : Addr) (e : An' = some ad) => S.out.none (cv_low hcv' hz ad e))
        have CV0 := Lib.hid hcv
        rw [hcv.p.len, hcv.len] at HSK
        generalize l[k] = s at *
        clear hkl hcv hcv' g0 g1 g2 g3 g4
        by_cases d4 : s.id = 4
        · have e4 : (s.id != 4) = false := by simp [d4]
          clear d4
          go_wp2_with fail
          go_roundw
          case rel => exact ⟨k + 1, ro, x, by omega, by go_num, C.out.mono (Nat.le_succ k), S.out, W.out⟩
          case measure => simp [intOf]; omega
        · have e4 : (s.id != 4) = true := by simpa using d4
          have WX := Lib.hid (W.out.go (stOf s) d4)
          have CG := go12_any C.out (by omega) s Ad nd cd An' nn' cn CV0.out HSK.out.1 HSK.out.2 FN.out
          clear d4
          go_wp2_with (refine wpList_load_five rfl _ _ rfl (ad.add (k * 5)) rfl _ _ _ _ _ h0 h1 h2 h3 h4 _ Try.underlying53 Try.stepSize ?_)
          refine (CG).mono ?_; rintro e w5 ⟨rfl, ro5, hc5, ht5⟩
          have C5 := Lib.hid hc5
          have S5 := Lib.hid (S.out.tr ht5)
          clear hc5 ht5 CG
          go_wp2_with fail
          go_roundw
          case rel => exact ⟨k + 1, ro5, _, by omega, by go_num, C5.out, S5.out, WX.out⟩
          case measure => simp [intOf]; omega
      · have d1 : decide ((k : Int) < (n : Int)) = false := by simpa using hlt
        have hk20 : k ≤ 20 := by omega
        obtain ⟨u1, u2, u3, u4⟩ := DC.upto_all C.out.ok W.out.off W.out.fuse
        have UL := Lib.hid (And.intro u2 u3)
        have CY := c_sync C.out (by omega)
        have HW := Lib.hid (Well.uptoGo x.list.length W.out (x.last : Int)).len
        obtain ⟨y, hy⟩ : ∃ y, (x.upto (x.last : Int)).1 = y := ⟨_, rfl⟩
        rw [u1, hy] at CY
        rw [hy] at UL
        have HW2 : Hid (y.base.length = 16) := Lib.hid (by rw [← hy]; exact HW.out)
        clear u1 u2 u3 u4 hy HW W
        go_wp2_with fail
        refine (CY).mono ?_; rintro e w5 ⟨rfl, ro5, hc5, ht5⟩
        have C5 := Lib.hid hc5
        have S5 := Lib.hid (S.out.tr ht5)
        clear hc5 ht5 CY C S
        have CL := c_left C5.out (by omega)
        rw [UL.out.1] at CL
        go_wp2_with fail
        refine (CL).mono ?_; rintro e w6 ⟨A6, n6, q6, rfl, hl6, _, _, _, hb6⟩
        have hn6 : n6 = 0 := hl6.symm
        subst hn6
        have C6 := Lib.hid (C5.out.ext hb6)
        have S6 := Lib.hid (S5.out.ext hb6)
        clear hl6 hb6 CL C5 S5
        have CD := c_dirty C6.out (by omega)
        rw [UL.out.1] at CD
        go_wp2_with fail
        refine (CD).mono ?_; rintro e w7 ⟨v7, rfl, ho7, hb7⟩
        obtain ⟨A7, q7, e7, _, _, _⟩ := ho7.ints
        have e7 : v7 = .slice A7 0 q7 := e7
        subst e7
        have C7 := Lib.hid (C6.out.ext hb7)
        have S7 := Lib.hid (S6.out.ext hb7)
        clear ho7 hb7 CD C6 S6
        have CW := c_writes C7.out
        have CT := c_last C7.out
        have hwl := C7.out.ok.wrote
        have d2 : decide ((y.last : Int) < (y.wrote : Int)) = false := by rw [decide_eq_false_iff_not]; omega
        have d2b : decide (y.last < y.wrote) = false := by rw [decide_eq_false_iff_not]; omega
        clear hwl
        go_wp2_with fail
        refine (CW).mono ?_; rintro e w8 ⟨rfl, rfl⟩
        go_wp2_with fail
        refine (CT).mono ?_; rintro e w8 ⟨rfl, rfl⟩
        have CI := c_image C7.out (by rw [HW2.out]; omega)
        rw [HW2.out] at CI
        go_wp2_with fail
        refine (CI).mono ?_; rintro e w9 ⟨gi, ci, rfl, hge, hlt9, hrk, _, _, hb9⟩
        have RI := Lib.hid hrk
        have C9 := Lib.hid (C7.out.ext hb9)
        have S9 := Lib.hid (S7.out.ext hb9)
        have N9 := Lib.hid (C7.out.none_ge hge)
        have Z9 := Lib.hid hlt9
        obtain ⟨X, hX⟩ : ∃ X, y.base = X := ⟨_, rfl⟩
        have HX := Lib.hid hX
        have HB := Lib.hid C9.out.ok.bks
        rw [hX] at RI HW2 HB
        clear hrk hge hlt9 hb9 hX CI CT CW d2 d2b C7 S7
        go_wp2_with fail
        go_loopw [7] (fun i wr => ∃ (j : Nat) (r2 : Nat → Option Rl) (x2 : DC), j ≤ 16 ∧ i = .int .i64 j ∧ Cch wr r2 c b g x2 (k + j) ∧ Std w wr r2 ∧ RK wr (some ⟨gi, 0, none⟩) X ∧ r2 gi = none ∧ gi < wr.heap.size ∧ x2.base = X ∧ x2.list = [] ∧ x2.off = false) (fun i _ => 16 - (intOf i).toNat)
        case atStart => exact ⟨0, ro5, y, by omega, rfl, C9.out, S9.out, RI.out, N9.out, Z9.out, HX.out, UL.out.1, UL.out.2⟩
        case round =>
          obtain ⟨j, r2, x2, hj, rfl, hc, hst, hrk, hno, hgz, p1, p2, p3⟩ := hrel
          have C := Lib.hid hc
          have S := Lib.hid hst
          have RI2 := Lib.hid hrk
          have NO := Lib.hid hno
          have GZ := Lib.hid hgz
          have PP := Lib.hid (And.intro p1 (And.intro p2 p3))
          clear hc hst hrk hno hgz p1 p2 p3 C9 S9 RI N9 Z9
          by_cases hj16 : j < 16
          · have d3 : decide ((j : Int) < 16) = true := by rw [decide_eq_true_eq]; omega
            have hjI : (j : Int) < 16 := by omega
            have hjX : j < X.length := by rw [HW2.out]; exact hj16
            have hkE := Well.knE PP.out.2.2 C.out.ok (by rw [PP.out.1]; exact HW2.out) (j := (j : Int)) (by omega) (by omega)
            have CG := c_get C.out (by omega) (j : Int) (by omega) (by omega)
            have hv : viewC (x2.bd (j : Int)) x2.list (j : Int) = X[j] := by rw [PP.out.2.1, viewC_none (fun c hc => by cases hc)]; exact bd_at PP.out.1 hjX
            rw [hkE, if_pos rfl, hv] at CG
            obtain ⟨f1, f2, f3, f4, f5, f6⟩ := x2.known_fields (j : Int)
            have PK := Lib.hid (show (x2.known (j : Int)).base = X ∧ (x2.known (j : Int)).list = [] ∧ (x2.known (j : Int)).off = false from ⟨f2.trans PP.out.1, f1.trans PP.out.2.1, f5.trans PP.out.2.2⟩)
            obtain ⟨M, hMx⟩ : ∃ M, X[j] = M := ⟨_, rfl⟩
            have HMX := Lib.hid hMx
            have HML := Lib.hid (show M.length = 256 by rw [← hMx]; exact HB.out _ (List.getElem_mem hjX))
            rw [hMx] at CG
            have HJX := Lib.hid hjX
            clear hkE hv f1 f2 f3 f4 f5 f6 hMx
            go_wp2_with fail
            refine (CG).mono ?_; rintro e w10 ⟨rfl, r3, hc10, ht10⟩
            have C10 := Lib.hid hc10
            have S10 := Lib.hid (S.out.tr ht10)
            have K10 := Lib.hid (ht10.keep gi GZ.out NO.out)
            have RI10 := Lib.hid (RI2.out.same K10.out.2)
            have Z10 := Lib.hid (Nat.lt_of_lt_of_le GZ.out ht10.size)
            clear hc10 ht10 CG C S
            go_wp2_with (refine wpList_alloc_row rfl _ rfl _ Try.blockZero ?_)
            apply Stop.go; intro w11 Hg11 Hb11
            go_wp2_with (refine wpList_store_arr rfl _ _ _ rfl _ (bcells M) rfl rfl _ _ Hb11.out (Try.blockFits HML.out) (by rw [bcells_size, bcells_size, HML.out, zeros_len]) (oneCell_bcells _) ?_)
            apply Stop.go; intro w12 Ho12 Hb12
            have C12 := Lib.hid ((C10.out.ext Hg11.out.1).only_none Ho12.out (C10.out.none_ge (Nat.le_refl _)))
            have S12 := Lib.hid ((S10.out.ext Hg11.out.1).only Ho12.out S10.out.bel.size)
            have RI12 := Lib.hid ((RI10.out.below Hg11.out.1).same (Ho12.out.block gi (Nat.ne_of_lt Z10.out)))
            have Z12 := Lib.hid (show gi < w12.heap.size by have h1 := Z10.out; have h2 := Hg11.out.1.size; have h3 := Ho12.out.size; omega)
            obtain ⟨gb, hgb⟩ : ∃ q, q = w10.heap.size := ⟨_, rfl⟩
            rw [← hgb] at Hb12 ⊢
            clear hgb C10 S10 Hg11 Hb11 Ho12 RI10
            go_wp2_with fail
            refine WH.start (S := fun w' : World => RK w' (some ⟨gi, 0, none⟩) X ∧ Blk w' gb 27 (bcells M)) [false, false, false, false, false, false, false, false, false, false, false, false, false, false, false] 15 rfl rfl (by kernel_rfl) ⟨RI12.out.below (bdrew w12 1), Hb12.out.ext (bdrew w12 1)⟩ (fun hSn => ?_)
            obtain ⟨wS, hwS⟩ : ∃ x, w12.drew = x := ⟨_, rfl⟩
            have CS := Lib.hid (C12.out.ext (bdrew w12 1))
            have SS := Lib.hid (S12.out.ext (bdrew w12 1))
            have RS := Lib.hid (RI12.out.below (bdrew w12 1))
            have ZS := Lib.hid (Nat.lt_of_lt_of_le Z12.out (bdrew w12 1).size)
            rw [show w12.drewN 1 = wS from hwS] at CS SS RS ZS
            rw [hwS] at hSn ⊢
            clear hwS C12 S12 RI12 Z12 Hb12
            refine WH.take 0 _ ?_ rfl (by kernel_rfl) (fun _ _ _ h => h) rfl (by assumption) ?_ ?_; rotate_left; (focus (intro w hSw; (try dsimp only at hSw); (first | (go_simp; done) | (go_simp; with_reducible rfl)))); simp only [Act.put, List.setIfInBounds_toArray, List.set_cons_zero, List.set_cons_succ]
            refine WH.take 1 _ ?_ rfl (by kernel_rfl) (fun _ _ _ h => h) rfl (by assumption) ?_ ?_; rotate_left; (focus (intro w hSw; (try dsimp only at hSw); (first | (go_simp; done) | (go_simp; with_reducible rfl)))); simp only [Act.put, List.setIfInBounds_toArray, List.set_cons_zero, List.set_cons_succ]
            refine WH.take 2 _ ?_ rfl (by kernel_rfl) (fun _ _ _ h => h) rfl (by assumption) ?_ ?_; rotate_left; (focus (intro w hSw; (try dsimp only at hSw); (first | (go_simp; done) | (go_simp; with_reducible rfl)))); simp only [Act.put, List.setIfInBounds_toArray, List.set_cons_zero, List.set_cons_succ]
            refine WH.take 3 _ ?_ rfl (by kernel_rfl) (fun _ _ _ h => h) rfl (by assumption) ?_ ?_; rotate_left; (focus (intro w hSw; (try dsimp only at hSw); (first | (go_simp; done) | (go_simp; with_reducible rfl)))); simp only [Act.put, List.setIfInBounds_toArray, List.set_cons_zero, List.set_cons_succ]
            refine WH.take 4 _ ?_ rfl (by kernel_rfl) (fun _ _ _ h => h) rfl (by assumption) ?_ ?_; rotate_left; (focus (intro w hSw; (try dsimp only at hSw); (first | (go_simp; done) | (go_simp; with_reducible rfl)))); simp only [Act.put, List.setIfInBounds_toArray, List.set_cons_zero, List.set_cons_succ]
            refine WH.take 5 _ ?_ rfl (by kernel_rfl) (fun _ _ _ h => h) rfl (by assumption) ?_ ?_; rotate_left; (focus (intro w hSw; (try dsimp only at hSw); (first | (go_simp; done) | (go_simp; with_reducible rfl)))); simp only [Act.put, List.setIfInBounds_toArray, List.set_cons_zero, List.set_cons_succ]
            refine WH.take 6 _ ?_ rfl (by kernel_rfl) (fun _ _ _ h => h) rfl (by assumption) ?_ ?_; rotate_left; (focus (intro w hSw; (try dsimp only at hSw); (first | (go_simp; done) | (go_simp; with_reducible rfl)))); simp only [Act.put, List.setIfInBounds_toArray, List.set_cons_zero, List.set_cons_succ]
            refine WH.take 7 _ ?_ rfl (by kernel_rfl) (fun _ _ _ h => h) rfl (by assumption) ?_ ?_; rotate_left; (focus (intro w hSw; (try dsimp only at hSw); (first | (go_simp; done) | (go_simp; with_reducible rfl)))); simp only [Act.put, List.setIfInBounds_toArray, List.set_cons_zero, List.set_cons_succ]
            refine WH.take 8 _ ?_ rfl (by kernel_rfl) (fun _ _ _ h => h) rfl (by assumption) ?_ ?_; rotate_left; (focus (intro w hSw; (try dsimp only at hSw); (first | (go_simp; done) | (go_simp; with_reducible rfl)))); simp only [Act.put, List.setIfInBounds_toArray, List.set_cons_zero, List.set_cons_succ]
            refine WH.take 9 _ ?_ rfl (by kernel_rfl) (fun _ _ _ h => h) rfl (by assumption) ?_ ?_; rotate_left; (focus (intro w hSw; (try dsimp only at hSw); (first | (go_simp; done) | (go_simp; with_reducible rfl)))); simp only [Act.put, List.setIfInBounds_toArray, List.set_cons_zero, List.set_cons_succ]
            refine WH.take 10 _ ?_ rfl (by kernel_rfl) (fun _ _ _ h => h) rfl (by assumption) ?_ ?_; rotate_left; (focus (intro w hSw; (try dsimp only at hSw); (first | (go_simp; done) | (go_simp; with_reducible rfl)))); simp only [Act.put, List.setIfInBounds_toArray, List.set_cons_zero, List.set_cons_succ]
            refine WH.take 11 _ _ rfl (by kernel_rfl) (fun _ _ _ h => h) rfl (by assumption) (fun w' hSw => exec_load_bk _ _ rfl ⟨gi, 0, none⟩ j (by rw [addr_add0]; rfl) X HB.out HJX.out hSw.1 _ Try.underlying27 rfl Try.blockSize) ?_; simp only [Act.put, List.setIfInBounds_toArray, List.set_cons_zero, List.set_cons_succ]
            refine WH.take 12 _ _ rfl (by kernel_rfl) (fun _ _ _ h => h) rfl (by assumption) (fun w' hSw => exec_load_blk _ _ rfl _ rfl _ _ (hSw.2) _ (Try.underlying27) rfl (Try.blockFits HML.out)) ?_; simp only [Act.put, List.setIfInBounds_toArray, List.set_cons_zero, List.set_cons_succ]
            rw [HMX.out]
            refine WH.take 13 _ _ rfl (by kernel_rfl) (fun _ _ _ h => h) rfl (by assumption) (fun w' hSw => exec_neq_arr _ _ _ _ rfl Try.blockGuard12 _ _ Try.underlying27 Try.underlying5 Try.byteSize M M rfl rfl HML.out HML.out false (by simp)) ?_; simp only [Act.put, List.setIfInBounds_toArray, List.set_cons_zero, List.set_cons_succ]
            refine WH.take 14 _ ?_ rfl (by kernel_rfl) (fun _ _ _ h => h) rfl (by assumption) ?_ ?_; rotate_left; (focus (intro w hSw; (try dsimp only at hSw); (first | (go_simp; done) | (go_simp; with_reducible rfl)))); simp only [Act.put, List.setIfInBounds_toArray, List.set_cons_zero, List.set_cons_succ]
            refine WH.done (by kernel_rfl) ?_
            go_wp2_with fail
            go_roundw
            case rel => exact ⟨j + 1, r3, _, by omega, by go_num, CS.out, SS.out, RS.out, K10.out.1, ZS.out, PK.out.1, PK.out.2.1, PK.out.2.2⟩
            case measure => simp [intOf]; omega
          · have d3 : decide ((j : Int) < 16) = false := by rw [decide_eq_false_iff_not]; omega
            go_wp2_with fail
            refine (works12_any _).mono ?_; rintro e w10 ⟨rfl, hb10⟩
            have B10 := Lib.hid (S.out.ext hb10).bel
            clear hb10
            go_wp2_with fail
            go_ret
            exact ⟨rfl, B10.out⟩

end Go.Proofs.Ytknbjdldmednlaa
