/-
  Texts of this claim joined: Lw12w, Law12g.
-/
import Derived.Test.YtknbjdldmednlaaGreatCac1
import Derived.Test.YtknbjdldmednlaaGreatLwB
import Derived.Test.YtknbjdldmednlaaGreatGrF

/-
  The contract of the law's works (stage 12).
-/
namespace Go.Proofs.YtknbjdldmednlaaGreat
open Go.RowKit

/-- What was there ahead of all is as it was; the cache lies behind it. -/
structure Std (w0 w : World) (ro : Nat → Option Rl) : Prop where
  bel : Below w0.heap.size w0 w
  low : ∀ g r, ro g = some r → w0.heap.size ≤ g
section
variable {w0 w w' : World} {ro ro' : Nat → Option Rl}
theorem Std.tr (h : Std w0 w ro) (t : Tr ro ro' w w') : Std w0 w' ro' := ⟨h.bel.trans (t.below h.bel.size h.low), t.low h.bel.size h.low⟩
theorem Std.ext (h : Std w0 w ro) (hb : Below w.heap.size w w') : Std w0 w' ro := ⟨bt h.bel hb, h.low⟩
theorem Std.only (h : Std w0 w ro) {g : Nat} (ho : Only w w' g) (hg : w0.heap.size ≤ g) : Std w0 w' ro := ⟨bonly h.bel ho hg, h.low⟩
/-- What lay there ahead of all is none of the cache's. -/
theorem Std.none (h : Std w0 w ro) {g : Nat} (hg : g < w0.heap.size) : ro g = none := by
  cases e : ro g with
  | none => rfl
  | some r => have := h.low g r e; omega
theorem bcell0 {M : List UInt8} {v : UInt8} (h : M[0]? = some v) : (bcells M)[0]? = some (.int .u8 (v.toNat : Int)) := by
  rw [bcells_bvl, List.getElem?_toArray, bvl, List.getElem?_map, h]
  rfl
end
/-- The page's example. -/
def xs1 : StC := ⟨0, 3, ⟨0, [9]⟩, []⟩
def xs2 : StC := ⟨0, 4, ⟨0, [9]⟩, [1]⟩
theorem xw_all : ∃ x0 x1 x2 x3 x4 x5 : DC, DC.new 16 = x0 ∧ x0.put xs1 = x1 ∧ x1.put xs2 = x2 ∧ x2.flush 4 = x3 ∧ x3.flush 3 = x4 ∧ x4.flush 4 = x5 ∧ (x0.putN xs1 = 1 ∧ x0.putE xs1 = 0) ∧ (x1.putN xs2 = 2 ∧ x1.putE xs2 = 0) ∧
    (x3.off = false ∧ x3.has 4 = true ∧ (x3.bd 4)[0]? = some 0 ∧ (x3.bd 4).length = 256) ∧ (x5.off = false ∧ x5.has 4 = true ∧ (x5.bd 4)[0]? = some 9 ∧ (x5.bd 4).length = 256) ∧ x5.done 2 = true ∧ x5.list.length = 0 :=
  ⟨_, _, _, _, _, _, rfl, rfl, rfl, rfl, rfl, rfl, by decide +kernel⟩
set_option maxRecDepth 100000 in
set_option maxHeartbeats 8000000 in
theorem works12_any (w : World) : Calls Tryz.prog 5 #[] w fun e w' => e = .returned (.bool true) ∧ Below w.heap.size w w' := by
  obtain ⟨x0, x1, x2, x3, x4, x5, e0, e1, e2, e3, e4, e5, p1, p2, r1, r2, dd, dl⟩ := xw_all
  have E0 := Lib.hid e0
  have E1 := Lib.hid e1
  have E2 := Lib.hid e2
  have E3 := Lib.hid e3
  have E4 := Lib.hid e4
  have E5 := Lib.hid e5
  have P1 := Lib.hid p1
  have P2 := Lib.hid p2
  have R1 := Lib.hid r1
  have R2 := Lib.hid r2
  have DD := Lib.hid dd
  have DL := Lib.hid dl
  clear e0 e1 e2 e3 e4 e5 p1 p2 r1 r2 dd dl
  go_enter Tryz.func5, Tryz.ntmps5
  go_wp2_with fail
  refine (dnew_any 16 (by omega) (by omega) _).mono ?_; rintro e w1 ⟨b, g, rfl, hb1, hg1, hd1, hbw1⟩
  have D1 := Lib.hid hd1
  have B1 := Lib.hid hbw1
  have L1 := Lib.hid (And.intro hb1 hg1)
  clear hb1 hg1 hd1 hbw1
  go_wp2_with fail
  refine (c_new b g w1 D1.out).mono ?_; rintro e w2 ⟨ro2, c, rfl, hc2, ht2⟩
  have lo1 : Std w w1 (roD b g) := ⟨B1.out, fun k r hk => by
    unfold roD at hk
    by_cases e : k = b ∨ k = g
    · have := L1.out; omega
    · rw [if_neg e] at hk; cases hk⟩
  rw [E0.out] at hc2
  have C2 := Lib.hid hc2
  have S2 := Lib.hid (lo1.tr ht2)
  clear hc2 ht2 lo1 D1 B1
  go_wp2_with (refine wpList_build_one1 rfl _ _ _ rfl Tryz.underlying37 1 _ Tryz.byteInfo (.int .u8 9) rfl rfl rfl ?_)
  apply Stop.go; intro w3 Hg3 Hb3
  go_wp2_with (refine wpList_alloc_row rfl _ rfl _ Tryz.patchZero ?_)
  apply Stop.go; intro w4 Hg4 Hb4
  obtain ⟨gb, hgb⟩ : ∃ x, x = w2.heap.size := ⟨_, rfl⟩
  obtain ⟨gp, hgp⟩ : ∃ x, x = w3.heap.size := ⟨_, rfl⟩
  rw [← hgb] at Hb3 ⊢
  rw [← hgp] at Hb4 ⊢
  have hne : gb ≠ gp := by have := Hg3.out.2; omega
  have N2b := Lib.hid (C2.out.none_ge (q := gb) (by omega))
  have N2p := Lib.hid (C2.out.none_ge (q := gp) (by have := Hg3.out.1.size; omega))
  have HGP := Lib.hid hgp
  clear hgb hgp
  go_wp2_with (refine wpList_store_arr rfl _ _ _ rfl _ #[.int .i64 0, .slice (some ⟨gb, 0, none⟩) 1 1] rfl rfl _ _ Hb4.out Tryz.patchSize rfl (by simp [Value.oneCell']) ?_)
  apply Stop.go; intro w5 Ho5 Hb5
  have C5 := Lib.hid (((C2.out.ext Hg3.out.1).ext Hg4.out.1).only_none Ho5.out N2p.out)
  have S5 := Lib.hid (((S2.out.ext Hg3.out.1).ext Hg4.out.1).only Ho5.out (by have h1 := S2.out.bel.size; have h2 := Hg3.out.1.size; have := HGP.out; omega))
  have X5 := Lib.hid ((Hb3.out.ext Hg4.out.1).only Ho5.out hne)
  clear C2 S2 Hb3 Hb4 Ho5 Hg3 Hg4
  have pv : ∀ w' : World, Blk w' gb 5 #[.int .u8 9] → PV w' ⟨0, [9]⟩ (some ⟨gb, 0, none⟩) 1 1 := fun w' h => ⟨by decide, by decide, rfl, Nat.le_refl _, by unfold maxLen; omega, RB.of_blk9 h⟩
  have CP := c_put C5.out (by omega) 3 (by omega) (by omega) ⟨0, [9]⟩ _ 1 1 (pv _ X5.out) none 0 0 [] rfl (by omega) (RC.nil_ _ _) (fun y hy => (by cases hy)) (fun ad e => by injection e with e; subst e; exact N2b.out) (fun _ ad e => by cases e)
  rw [show (⟨0, 3, ⟨0, [9]⟩, []⟩ : StC) = xs1 from rfl, P1.out.1, P1.out.2, E1.out] at CP
  go_wp2_with (refine wpList_load_blk rfl _ _ rfl _ rfl _ _ Hb5.out _ Tryz.underlying61 rfl Tryz.patchSize ?_)
  refine (CP).mono ?_; rintro e w6 ⟨rfl, ro6, hc6, ht6⟩
  have C6 := Lib.hid hc6
  have S6 := Lib.hid (S5.out.tr ht6)
  have X6 := Lib.hid (X5.out.tr ht6 N2b.out)
  have Y6 := Lib.hid (Hb5.out.tr ht6 N2p.out)
  have N6b := Lib.hid (ht6.keep gb X5.out.lt N2b.out).1
  have N6p := Lib.hid (ht6.keep gp Hb5.out.lt N2p.out).1
  clear hc6 ht6 CP C5 S5 X5 Hb5 N2b N2p
  go_wp2_with (first | refine wpList_load_blk rfl _ _ rfl _ rfl _ _ Y6.out _ Tryz.underlying61 rfl Tryz.patchSize ?_ | refine wpList_build_one1 rfl _ _ _ rfl Tryz.underlying40 8 _ Tryz.infoInt (.int .i64 1) rfl rfl rfl ?_)
  apply Stop.go; intro w7 Hg7 Hb7
  have C7 := Lib.hid (C6.out.ext Hg7.out.1)
  have S7 := Lib.hid (S6.out.ext Hg7.out.1)
  have X7 := Lib.hid (X6.out.ext Hg7.out.1)
  have Y7 := Lib.hid (Y6.out.ext Hg7.out.1)
  have CP := c_put C7.out (by omega) 4 (by omega) (by omega) ⟨0, [9]⟩ _ 1 1 (pv _ X7.out) (some ⟨w6.heap.size, 0, none⟩) 1 1 [1] rfl (by omega) (RC.of_blk1 Hb7.out) (fun y hy => by rw [List.mem_singleton] at hy; omega) (fun ad e => by injection e with e; subst e; exact N6b.out) (fun _ ad e => by injection e with e; subst e; exact C6.out.none_ge (Nat.le_refl _))
  rw [show (⟨0, 4, ⟨0, [9]⟩, [1]⟩ : StC) = xs2 from rfl, P2.out.1, P2.out.2, E2.out] at CP
  go_wp2_with fail
  refine (CP).mono ?_; rintro e w8 ⟨rfl, ro8, hc8, ht8⟩
  have C8 := Lib.hid hc8
  have S8 := Lib.hid (S7.out.tr ht8)
  clear hc8 ht8 CP C6 C7 S6 S7 X6 X7 Y6 Y7 Hb7 Hg7 pv N6b N6p
  go_wp2_with fail
  have CF := c_flush C8.out (by omega) 4 (by omega) (by omega)
  rw [E3.out] at CF
  refine (CF).mono ?_; rintro e w9 ⟨rfl, ro9, hc9, ht9⟩
  have C9 := Lib.hid hc9
  have S9 := Lib.hid (S8.out.tr ht9)
  clear hc9 ht9 C8 S8
  clear CF
  have CR := c_read C9.out (by omega) 4
  rw [R1.out.1, R1.out.2.1, if_neg (show ¬ (false = true) from fun h => by cases h), if_neg (show ¬ (false = true) from fun h => by cases h), if_pos rfl, if_pos rfl] at CR
  obtain ⟨M1, hM1⟩ : ∃ M, x3.bd 4 = M := ⟨_, rfl⟩
  have K1 := Lib.hid (And.intro R1.out.2.2.1 R1.out.2.2.2)
  rw [hM1] at CR K1
  clear hM1
  go_wp2_with fail
  refine (CR).mono ?_; rintro e w10 ⟨rfl, hc10, ht10⟩
  have C10 := Lib.hid hc10
  have S10 := Lib.hid (S9.out.tr ht10)
  clear hc10 ht10 CR C9 S9
  go_wp2_with (refine wpList_alloc_row rfl _ rfl _ Tryz.blockZero ?_)
  apply Stop.go; intro w11 Hg11 Hb11
  go_wp2_with (refine wpList_store_arr rfl _ _ _ rfl _ (bcells M1) rfl rfl _ _ Hb11.out (Tryz.blockFits K1.out.2) (by rw [bcells_size, bcells_size, K1.out.2, zeros_len]) (oneCell_bcells _) ?_)
  apply Stop.go; intro w12 Ho12 Hb12
  have nA : ro9 w10.heap.size = none := C10.out.none_ge (Nat.le_refl _)
  have C12 := Lib.hid ((C10.out.ext Hg11.out.1).only_none Ho12.out nA)
  have S12 := Lib.hid ((S10.out.ext Hg11.out.1).only Ho12.out S10.out.bel.size)
  obtain ⟨ga, hga⟩ : ∃ x, x = w10.heap.size := ⟨_, rfl⟩
  rw [← hga] at Hb12 nA ⊢
  have Na := Lib.hid nA
  clear C10 S10 Hg11 Hb11 Ho12 hga nA
  go_wp2_with fail
  have CF := c_flush C12.out (by omega) 3 (by omega) (by omega)
  rw [E4.out] at CF
  refine (CF).mono ?_; rintro e w13 ⟨rfl, ro13, hc13, ht13⟩
  have C13 := Lib.hid hc13
  have S13 := Lib.hid (S12.out.tr ht13)
  have A13 := Lib.hid (Hb12.out.tr ht13 Na.out)
  have N13 := Lib.hid (ht13.keep ga Hb12.out.lt Na.out).1
  clear hc13 ht13 CF C12 S12 Hb12 Na
  go_wp2_with fail
  have CF := c_flush C13.out (by omega) 4 (by omega) (by omega)
  rw [E5.out] at CF
  refine (CF).mono ?_; rintro e w14 ⟨rfl, ro14, hc14, ht14⟩
  have C14 := Lib.hid hc14
  have S14 := Lib.hid (S13.out.tr ht14)
  have A14 := Lib.hid (A13.out.tr ht14 N13.out)
  have N14 := Lib.hid (ht14.keep ga A13.out.lt N13.out).1
  clear hc14 ht14 CF C13 S13 A13 N13
  have CR := c_read C14.out (by omega) 4
  rw [R2.out.1, R2.out.2.1, if_neg (show ¬ (false = true) from fun h => by cases h), if_neg (show ¬ (false = true) from fun h => by cases h), if_pos rfl, if_pos rfl] at CR
  obtain ⟨M2, hM2⟩ : ∃ M, x5.bd 4 = M := ⟨_, rfl⟩
  have K2 := Lib.hid (And.intro R2.out.2.2.1 R2.out.2.2.2)
  rw [hM2] at CR K2
  clear hM2
  go_wp2_with fail
  refine (CR).mono ?_; rintro e w15 ⟨rfl, hc15, ht15⟩
  have C15 := Lib.hid hc15
  have S15 := Lib.hid (S14.out.tr ht15)
  have A15 := Lib.hid (A14.out.tr ht15 N14.out)
  have N15 := Lib.hid (ht15.keep ga A14.out.lt N14.out).1
  clear hc15 ht15 CR C14 S14 A14 N14
  go_wp2_with (refine wpList_alloc_row rfl _ rfl _ Tryz.blockZero ?_)
  apply Stop.go; intro w16 Hg16 Hb16
  go_wp2_with (refine wpList_store_arr rfl _ _ _ rfl _ (bcells M2) rfl rfl _ _ Hb16.out (Tryz.blockFits K2.out.2) (by rw [bcells_size, bcells_size, K2.out.2, zeros_len]) (oneCell_bcells _) ?_)
  apply Stop.go; intro w17 Ho17 Hb17
  have nB : ro14 w15.heap.size = none := C15.out.none_ge (Nat.le_refl _)
  have C17 := Lib.hid ((C15.out.ext Hg16.out.1).only_none Ho17.out nB)
  have S17 := Lib.hid ((S15.out.ext Hg16.out.1).only Ho17.out S15.out.bel.size)
  have A17 := Lib.hid ((A15.out.ext Hg16.out.1).only Ho17.out (Nat.ne_of_lt A15.out.lt))
  have ca : w17.cell? ⟨ga, 0, none⟩ = some (.int .u8 0) := (A17.out.cell 0).trans (bcell0 K1.out.1)
  have cb : w17.cell? ⟨w15.heap.size, 0, none⟩ = some (.int .u8 9) := (Hb17.out.cell 0).trans (bcell0 K2.out.1)
  have CD := c_done C17.out 2 (by omega) (by omega)
  rw [DD.out] at CD
  have CL := c_left C17.out (by omega)
  clear C15 S15 A15 Hg16 Hb16 Ho17 nB
  go_wp2_with fail
  refine (CD).mono ?_; rintro e w18 ⟨rfl, rfl⟩
  go_wp2_with fail
  refine (CL).mono ?_; rintro e w19 ⟨A5, n5, q5, rfl, hl5, _, _, _, hb5⟩
  have hn5 : n5 = 0 := by rw [← hl5]; exact DL.out
  subst hn5
  have B19 := Lib.hid (S17.out.ext hb5).bel
  clear hl5 hb5 CL CD
  go_wp2_with fail
  go_ret
  exact ⟨rfl, B19.out⟩

end Go.Proofs.YtknbjdldmednlaaGreat

/-
  The contracts of the document's Much and of the law's Go (stage 12).
-/
namespace Go.Proofs.YtknbjdldmednlaaGreat
open Go.RowKit

theorem Tryz.r07Size : (Tryz.prog.info? 39).map (·.size) = some 2 := by kernel_rfl
/-- Is it more than is gone through? -/
def muchS (l : List Cg) (N : Nat) : Bool := decide (N < l.length) || l.any (fun c => decide (300 < c.p.data.length) || decide (20 < c.needs.length))
theorem muchS_no {l : List Cg} {N : Nat} (h : muchS l N = false) : l.length ≤ N ∧ ∀ c ∈ l, c.p.data.length ≤ 300 ∧ c.needs.length ≤ 20 := by
  unfold muchS at h
  rw [Bool.or_eq_false_iff, decide_eq_false_iff_not, List.any_eq_false] at h
  refine ⟨by omega, fun c hc => ?_⟩
  have := h.2 c hc
  rw [Bool.or_eq_true, decide_eq_true_eq, decide_eq_true_eq] at this
  omega
set_option maxRecDepth 100000 in
set_option maxHeartbeats 1200000 in
theorem much12_any (N : Nat) (hN : N ≤ 1000) (A : Option Addr) (n c : Nat) (l : List Cg) (hn : l.length = n) (hm : n ≤ maxLen) (w : World) (hr : RdL RdC w A 5 l) :
    Calls Tryz.prog 4 #[.slice A n c, .int .i64 (N : Int)] w fun e w' => e = .returned (.bool (muchS l N)) ∧ w = w' := by
  unfold maxLen at hm
  have Hn := Lib.hid hn
  have Hr := Lib.hid hr
  clear hn hr
  by_cases h20 : n ≤ N
  · have d0 : decide (N < n) = false := by simp; omega
    have Hd := Lib.hid (show muchS l N = l.any (fun c => decide (300 < c.p.data.length) || decide (20 < c.needs.length)) by unfold muchS; rw [decide_eq_false (by rw [Hn.out]; omega), Bool.false_or])
    go_enter Tryz.func4, Tryz.ntmps4
    go_wp2_with fail
    go_loop [5] (fun i => ∃ k : Nat, k ≤ n ∧ i = .int .i64 k ∧ ∀ j (h : j < l.length), j < k → (decide (300 < l[j].p.data.length) || decide (20 < l[j].needs.length)) = false) (fun i => n - (intOf i).toNat)
    case atStart => exact ⟨0, Nat.zero_le _, rfl, fun j _ h => absurd h (Nat.not_lt_zero _)⟩
    case round =>
      obtain ⟨k, hk, rfl, hno⟩ := hrel
      have Hno := Lib.hid hno
      clear hno
      by_cases hlt : k < n
      · have d1 : decide ((k : Int) < n) = true := by simpa using hlt
        have hkl : k < l.length := by rw [Hn.out]; exact hlt
        obtain ⟨ad, Ad, nd, cd, An, nn, cn, rfl, hcv, h0, h1, h2, h3, h4⟩ := Hr.out.cg hkl
        have c3 := cell_fld h0 h3
        have c4 := cell_fld h0 h4
        have L3 := Lib.hid hcv.p.len
        have L4 := Lib.hid hcv.len
        clear h0 h1 h2 h3 h4 hcv
        by_cases g1 : 300 < nd
        · have e1 : decide ((300 : Int) < nd) = true := by simp; omega
          have Ha := Lib.hid (show l.any (fun c => decide (300 < c.p.data.length) || decide (20 < c.needs.length)) = true from List.any_eq_true.2 ⟨l[k], List.getElem_mem hkl, by rw [L3.out, decide_eq_true g1]; rfl⟩)
          clear g1
          go_wp2_with fail
          go_ret
          rw [Hd.out, Ha.out]
          exact ⟨rfl, rfl⟩
        · have e1 : decide ((300 : Int) < nd) = false := by simp; omega
          by_cases g2 : 20 < nn
          · have e2 : decide ((20 : Int) < nn) = true := by simp; omega
            have Ha := Lib.hid (show l.any (fun c => decide (300 < c.p.data.length) || decide (20 < c.needs.length)) = true from List.any_eq_true.2 ⟨l[k], List.getElem_mem hkl, by rw [L4.out, decide_eq_true g2, Bool.or_true]⟩)
            clear g1 g2
            go_wp2_with fail
            go_ret
            rw [Hd.out, Ha.out]
            exact ⟨rfl, rfl⟩
          · have e2 : decide ((20 : Int) < nn) = false := by simp; omega
            have Ha := Lib.hid (show (decide (300 < l[k].p.data.length) || decide (20 < l[k].needs.length)) = false by rw [L3.out, L4.out, decide_eq_false g1, decide_eq_false g2]; rfl)
            clear g1 g2
            go_wp2_with fail
            refine ⟨⟨k + 1, by omega, by go_num, fun j hj hjk => ?_⟩, by simp [intOf]; omega⟩
            by_cases h : j = k
            · subst h
              exact Ha.out
            · exact Hno.out j hj (by omega)
      · have d1 : decide ((k : Int) < n) = false := by simpa using hlt
        have Ha := Lib.hid (show l.any (fun c => decide (300 < c.p.data.length) || decide (20 < c.needs.length)) = false from List.any_eq_false.2 fun p hp => by
          obtain ⟨j, hj, rfl⟩ := List.getElem_of_mem hp
          rw [Hno.out j hj (by have := Hn.out; omega)]
          simp)
        go_wp2_with fail
        go_ret
        rw [Hd.out, Ha.out]
        exact ⟨rfl, rfl⟩
  · have d0 : decide (N < n) = true := by simp; omega
    have Hd := Lib.hid (show muchS l N = true by unfold muchS; rw [decide_eq_true (by rw [Hn.out]; omega), Bool.true_or])
    go_enter Tryz.func4, Tryz.ntmps4
    go_wp2_with fail
    go_ret
    rw [Hd.out]
    exact ⟨rfl, rfl⟩
/-- A step. -/
def stOf (c : Cg) : StC := ⟨c.id, c.block, c.p, c.needs⟩
set_option maxRecDepth 100000 in
set_option maxHeartbeats 8000000 in
theorem go12_any {w : World} {ro : Nat → Option Rl} {c b g : Nat} {x : DC} {T : Nat} (h : Cch w ro c b g x T) (hT : T ≤ 900) (s : Cg) (Ad : Option Addr) (nd cd : Nat) (An : Option Addr) (nn cn : Nat) (hs : CV w s Ad nd cd An nn cn) (hnd : nd ≤ 300) (hnn : nn ≤ 20) (hfn : 0 < nn → ∀ ad, An = some ad → ro ad.block = none) :
    Calls Tryz.prog 10 #[.pointer (some ⟨c, 0, none⟩), .pointer (some ⟨b, 0, none⟩), .agg #[.int .i64 s.id, .int .i64 s.block, .int .i64 s.p.at_, .slice Ad nd cd, .slice An nn cn]] w fun e w' => e = .returned (.tuple #[.int .i64 (x.go (stOf s)).2.1, .int .i64 (x.go (stOf s)).2.2]) ∧ ∃ ro', Cch w' ro' c b g (x.go (stOf s)).1 (T + 1) ∧ Tr ro ro' w w' := by
  have C0 := Lib.hid h
  have V0 := Lib.hid hs
  have Hfn := Lib.hid hfn
  clear h hs hfn
  go_enter Tryz.func10, Tryz.ntmps10
  go_wp2_with (refine wpList_box_row rfl _ _ rfl _ rfl ?_)
  apply Stop.go; intro w1 Hg1 Hb1
  have C1 := Lib.hid (C0.out.ext Hg1.out.1)
  have T1 := Lib.hid (Tr.of_below ro Hg1.out.1)
  have V1 := Lib.hid (V0.out.below Hg1.out.1)
  obtain ⟨gs, hgs⟩ : ∃ q, q = w.heap.size := ⟨_, rfl⟩
  rw [← hgs] at Hb1 ⊢
  have N1 := Lib.hid (C0.out.none_ge (q := gs) (by omega))
  have c0 : w1.cell? ⟨gs, 0, none⟩ = some (.int .i64 s.id) := Hb1.out.cell 0
  have c1 : w1.cell? ⟨gs, 1, none⟩ = some (.int .i64 s.block) := Hb1.out.cell 1
  have lo := V1.out.lo1
  have hi := V1.out.hi1
  clear hgs C0 V0 Hg1
  by_cases d0 : s.id = 0
  · have e0 : (s.id == 0) = true := by simp [d0]
    have Hd0 := Lib.hid d0
    clear d0
    go_wp2_with fail
    refine WH.start (S := fun w' : World => Blk w' gs 42 #[.int .i64 s.id, .int .i64 s.block, .int .i64 s.p.at_, .slice Ad nd cd, .slice An nn cn]) [false, false, false, false, false, false, false, false, false, false, false, false, false, false] 14 rfl rfl (by kernel_rfl) (Hb1.out.ext (bdrew w1 1)) (fun hSn => ?_)
    obtain ⟨wS, hwS⟩ : ∃ x, w1.drew = x := ⟨_, rfl⟩
    have CS := Lib.hid (C1.out.ext (bdrew w1 1))
    have TS := Lib.hid (T1.out.bel (bdrew w1 1))
    have VS := Lib.hid (V1.out.below (bdrew w1 1))
    rw [show w1.drewN 1 = wS from hwS] at CS TS VS
    rw [hwS] at hSn ⊢
    clear hwS C1 T1 V1 Hb1
    refine WH.take 0 _ ?_ rfl (by kernel_rfl) (fun _ _ _ h => h) rfl (by assumption) ?_ ?_; rotate_left; (focus (intro w hSw; (try dsimp only at hSw); (first | (go_simp; done) | (go_simp; with_reducible rfl)))); simp only [Act.put, List.setIfInBounds_toArray, List.set_cons_zero, List.set_cons_succ]
    refine WH.take 1 _ ?_ rfl (by kernel_rfl) (fun _ _ _ h => h) rfl (by assumption) ?_ ?_; rotate_left; (focus (intro w hSw; (try dsimp only at hSw); (first | (go_simp; done) | (go_simp; with_reducible rfl)))); simp only [Act.put, List.setIfInBounds_toArray, List.set_cons_zero, List.set_cons_succ]
    refine WH.take 2 _ _ rfl (by kernel_rfl) (fun _ _ _ h => h) rfl (by assumption) (fun w' hSw => exec_load_cell _ _ rfl _ rfl (.int .i64 s.block) (hSw.cell 1) _ (Tryz.underlying3) rfl) ?_; simp only [Act.put, List.setIfInBounds_toArray, List.set_cons_zero, List.set_cons_succ]
    refine WH.take 3 _ ?_ rfl (by kernel_rfl) (fun _ _ _ h => h) rfl (by assumption) ?_ ?_; rotate_left; (focus (intro w hSw; (try dsimp only at hSw); (first | (go_simp; done) | (go_simp; with_reducible rfl)))); simp only [Act.put, List.setIfInBounds_toArray, List.set_cons_zero, List.set_cons_succ]
    refine WH.take 4 _ _ rfl (by kernel_rfl) (fun _ _ _ h => h) rfl (by assumption) (fun w' hSw => exec_load_part _ _ rfl gs 2 rfl [.int .i64 s.p.at_, .slice Ad nd cd] _ _ hSw (fun j hj => by match j, hj with | 0, _ => rfl | 1, _ => rfl) _ Tryz.underlying39 rfl Tryz.r07Size) ?_; simp only [Act.put, List.setIfInBounds_toArray, List.set_cons_zero, List.set_cons_succ]
    refine WH.take 6 _ ?_ rfl (by kernel_rfl) (fun _ _ _ h => h) rfl (by assumption) ?_ ?_; rotate_left; (focus (intro w hSw; (try dsimp only at hSw); (first | (go_simp; done) | (go_simp; with_reducible rfl)))); simp only [Act.put, List.setIfInBounds_toArray, List.set_cons_zero, List.set_cons_succ]
    refine WH.take 7 _ _ rfl (by kernel_rfl) (fun _ _ _ h => h) rfl (by assumption) (fun w' hSw => exec_load_cell _ _ rfl _ rfl (.slice An nn cn) (hSw.cell 4) _ (Tryz.underlying40) rfl) ?_; simp only [Act.put, List.setIfInBounds_toArray, List.set_cons_zero, List.set_cons_succ]
    have CT := to_any s.p Ad nd cd wS VS.out.p (by omega)
    refine WH.only 5 _ rfl (by kernel_rfl) rfl (fun K hK => ?_); go_simp; refine (CT).mono ?_; rintro e w3 ⟨g3, n3, c3, rfl, hp3, hb3, hg3⟩; go_simp
    have C3 := Lib.hid (CS.out.ext hb3)
    have T3 := Lib.hid (TS.out.bel hb3)
    have V3 := Lib.hid (VS.out.below hb3)
    have P3 := Lib.hid hp3
    have G3 := Lib.hid (CS.out.none_ge hg3)
    have B3 := Lib.hid (hSn.ext hb3)
    clear hp3 hb3 hg3 CS TS VS CT
    have hSn := B3.out; refine hK _ _ hSn ?_; clear hK; clear K; simp only [List.set_cons_zero, List.set_cons_succ]
    have CP := c_put C3.out (by omega) s.block V3.out.lo1 V3.out.hi1 s.p (some ⟨g3, 0, none⟩) n3 c3 P3.out An nn cn s.needs V3.out.len (by omega) V3.out.read V3.out.nb (fun ad e => by injection e with e; subst e; exact G3.out) Hfn.out
    refine WH.only 8 _ rfl (by kernel_rfl) rfl (fun K hK => ?_); go_simp; refine (CP).mono ?_; rintro e w4 ⟨rfl, ro4, hc4, ht4⟩; go_simp
    have C4 := Lib.hid hc4
    have T4 := Lib.hid (T3.out.trans ht4)
    have B4 := Lib.hid (B3.out.tr ht4 N1.out)
    clear hc4 ht4 CP
    have hSn := B4.out; refine hK _ _ hSn ?_; clear hK; clear K; simp only [List.set_cons_zero, List.set_cons_succ]
    refine WH.take 9 _ ?_ rfl (by kernel_rfl) (fun _ _ _ h => h) rfl (by assumption) ?_ ?_; rotate_left; (focus (intro w hSw; (try dsimp only at hSw); (first | (go_simp; done) | (go_simp; with_reducible rfl)))); simp only [Act.put, List.setIfInBounds_toArray, List.set_cons_zero, List.set_cons_succ]
    refine WH.take 10 _ ?_ rfl (by kernel_rfl) (fun _ _ _ h => h) rfl (by assumption) ?_ ?_; rotate_left; (focus (intro w hSw; (try dsimp only at hSw); (first | (go_simp; done) | (go_simp; with_reducible rfl)))); simp only [Act.put, List.setIfInBounds_toArray, List.set_cons_zero, List.set_cons_succ]
    refine WH.take 11 _ ?_ rfl (by kernel_rfl) (fun _ _ _ h => h) rfl (by assumption) ?_ ?_; rotate_left; (focus (intro w hSw; (try dsimp only at hSw); (first | (go_simp; done) | (go_simp; with_reducible rfl)))); simp only [Act.put, List.setIfInBounds_toArray, List.set_cons_zero, List.set_cons_succ]
    refine WH.take 12 _ ?_ rfl (by kernel_rfl) (fun _ _ _ h => h) rfl (by assumption) ?_ ?_; rotate_left; (focus (intro w hSw; (try dsimp only at hSw); (first | (go_simp; done) | (go_simp; with_reducible rfl)))); simp only [Act.put, List.setIfInBounds_toArray, List.set_cons_zero, List.set_cons_succ]
    refine WH.take 13 _ ?_ rfl (by kernel_rfl) (fun _ _ _ h => h) rfl (by assumption) ?_ ?_; rotate_left; (focus (intro w hSw; (try dsimp only at hSw); (first | (go_simp; done) | (go_simp; with_reducible rfl)))); simp only [Act.put, List.setIfInBounds_toArray, List.set_cons_zero, List.set_cons_succ]
    refine WH.done (by kernel_rfl) ?_
    have HX := Lib.hid (show x.go (stOf s) = (x.put ⟨0, s.block, s.p, s.needs⟩, x.putN ⟨0, s.block, s.p, s.needs⟩, x.putE ⟨0, s.block, s.p, s.needs⟩) from by
      unfold DC.go
      rw [if_pos (show (stOf s).do_ = 0 from Hd0.out)]
      unfold stOf
      rw [Hd0.out])
    go_wp2_with fail
    go_ret2
    rw [HX.out]
    exact ⟨rfl, ro4, C4.out, T4.out⟩
  · have e0 : (s.id == 0) = false := by simpa using d0
    have Hd0 := Lib.hid d0
    clear d0
    by_cases d1 : s.id = 1
    · have e1 : (s.id == 1) = true := by simp [d1]
      have HX := Lib.hid (show x.go (stOf s) = (x.flush s.block, 0, x.flushE s.block) from by
        unfold DC.go
        rw [if_neg (show ¬ (stOf s).do_ = 0 from Hd0.out), if_pos (show (stOf s).do_ = 1 from d1)]
        rfl)
      clear d1
      go_wp2_with fail
      refine (c_flush C1.out (by omega) s.block lo hi).mono ?_; rintro e w2 ⟨rfl, ro2, hc2, ht2⟩
      have C2 := Lib.hid (hc2.mono (Nat.le_succ T))
      have T2 := Lib.hid (T1.out.trans ht2)
      have B2 := Lib.hid (Hb1.out.tr ht2 N1.out)
      have c0 : w2.cell? ⟨gs, 0, none⟩ = some (.int .i64 s.id) := B2.out.cell 0
      clear hc2 ht2
      go_wp2_with fail
      go_ret2
      rw [HX.out]
      exact ⟨rfl, ro2, C2.out, T2.out⟩
    · have e1 : (s.id == 1) = false := by simpa using d1
      have Hd1 := Lib.hid d1
      clear d1
      by_cases d2 : s.id = 2
      · have e2 : (s.id == 2) = true := by simp [d2]
        have HX := Lib.hid (show x.go (stOf s) = ((x.upto s.block).1, 0, (x.upto s.block).2) from by
          unfold DC.go
          rw [if_neg (show ¬ (stOf s).do_ = 0 from Hd0.out), if_neg (show ¬ (stOf s).do_ = 1 from Hd1.out), if_pos (show (stOf s).do_ = 2 from d2)]
          rfl)
        clear d2
        go_wp2_with fail
        refine (c_upto C1.out (by omega) s.block lo hi).mono ?_; rintro e w2 ⟨rfl, ro2, hc2, ht2⟩
        have C2 := Lib.hid (hc2.mono (Nat.le_succ T))
        have T2 := Lib.hid (T1.out.trans ht2)
        have B2 := Lib.hid (Hb1.out.tr ht2 N1.out)
        have c0 : w2.cell? ⟨gs, 0, none⟩ = some (.int .i64 s.id) := B2.out.cell 0
        clear hc2 ht2
        go_wp2_with fail
        go_ret2
        rw [HX.out]
        exact ⟨rfl, ro2, C2.out, T2.out⟩
      · have e2 : (s.id == 2) = false := by simpa using d2
        have Hd2 := Lib.hid d2
        clear d2
        by_cases d3 : s.id = 3
        · have e3 : (s.id == 3) = true := by simp [d3]
          have HX := Lib.hid (show x.go (stOf s) = ((x.upto (x.last : Int)).1, 0, (x.upto (x.last : Int)).2) from by
            unfold DC.go
            rw [if_neg (show ¬ (stOf s).do_ = 0 from Hd0.out), if_neg (show ¬ (stOf s).do_ = 1 from Hd1.out), if_neg (show ¬ (stOf s).do_ = 2 from Hd2.out), if_pos (show (stOf s).do_ = 3 from d3)])
          clear d3
          go_wp2_with fail
          refine (c_sync C1.out (by omega)).mono ?_; rintro e w2 ⟨rfl, ro2, hc2, ht2⟩
          have C2 := Lib.hid (hc2.mono (Nat.le_succ T))
          have T2 := Lib.hid (T1.out.trans ht2)
          have B2 := Lib.hid (Hb1.out.tr ht2 N1.out)
          have c0 : w2.cell? ⟨gs, 0, none⟩ = some (.int .i64 s.id) := B2.out.cell 0
          clear hc2 ht2
          go_wp2_with fail
          go_ret2
          rw [HX.out]
          exact ⟨rfl, ro2, C2.out, T2.out⟩
        · have e3 : (s.id == 3) = false := by simpa using d3
          have Hd3 := Lib.hid d3
          clear d3
          by_cases d4 : s.id = 4
          · have e4 : (s.id == 4) = true := by simp [d4]
            have HX := Lib.hid (show x.go (stOf s) = (x.setFuse s.block, 0, 0) from by
              unfold DC.go
              rw [if_neg (show ¬ (stOf s).do_ = 0 from Hd0.out), if_neg (show ¬ (stOf s).do_ = 1 from Hd1.out), if_neg (show ¬ (stOf s).do_ = 2 from Hd2.out), if_neg (show ¬ (stOf s).do_ = 3 from Hd3.out), if_pos (show (stOf s).do_ = 4 from d4)]
              rfl)
            clear d4
            go_wp2_with fail
            refine (c_fuse C1.out s.block hi).mono ?_; rintro e w2 ⟨rfl, hc2, ht2⟩
            have C2 := Lib.hid (hc2.mono (Nat.le_succ T))
            have T2 := Lib.hid (T1.out.trans ht2)
            have B2 := Lib.hid (Hb1.out.tr ht2 N1.out)
            have c0 : w2.cell? ⟨gs, 0, none⟩ = some (.int .i64 s.id) := B2.out.cell 0
            clear hc2 ht2
            go_wp2_with fail
            go_ret2
            rw [HX.out]
            exact ⟨rfl, ro, C2.out, T2.out⟩
          · have e4 : (s.id == 4) = false := by simpa using d4
            have Hd4 := Lib.hid d4
            clear d4
            by_cases d5 : s.id = 5
            · have e5 : (s.id == 5) = true := by simp [d5]
              have HX := Lib.hid (show x.go (stOf s) = (x.up, 0, 0) from by
                unfold DC.go
                rw [if_neg (show ¬ (stOf s).do_ = 0 from Hd0.out), if_neg (show ¬ (stOf s).do_ = 1 from Hd1.out), if_neg (show ¬ (stOf s).do_ = 2 from Hd2.out), if_neg (show ¬ (stOf s).do_ = 3 from Hd3.out), if_neg (show ¬ (stOf s).do_ = 4 from Hd4.out), if_pos (show (stOf s).do_ = 5 from d5)])
              clear d5
              go_wp2_with fail
              refine (c_up C1.out).mono ?_; rintro e w2 ⟨rfl, hc2, ht2⟩
              have C2 := Lib.hid (hc2.mono (Nat.le_succ T))
              have T2 := Lib.hid (T1.out.trans ht2)
              clear hc2 ht2
              go_wp2_with fail
              go_ret2
              rw [HX.out]
              exact ⟨rfl, ro, C2.out, T2.out⟩
            · have e5 : (s.id == 5) = false := by simpa using d5
              have HX := Lib.hid (show x.go (stOf s) = (x, 0, 0) from by
                unfold DC.go
                rw [if_neg (show ¬ (stOf s).do_ = 0 from Hd0.out), if_neg (show ¬ (stOf s).do_ = 1 from Hd1.out), if_neg (show ¬ (stOf s).do_ = 2 from Hd2.out), if_neg (show ¬ (stOf s).do_ = 3 from Hd3.out), if_neg (show ¬ (stOf s).do_ = 4 from Hd4.out), if_neg (show ¬ (stOf s).do_ = 5 from d5)])
              clear d5
              go_wp2_with fail
              go_ret2
              rw [HX.out]
              exact ⟨rfl, ro, C1.out.mono (Nat.le_succ T), T1.out⟩

end Go.Proofs.YtknbjdldmednlaaGreat
