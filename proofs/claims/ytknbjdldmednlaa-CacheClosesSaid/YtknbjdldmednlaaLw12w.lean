/-
  The contract of the law's works (stage 12).
-/
import Derived.Test.YtknbjdldmednlaaCac1
import Derived.Test.YtknbjdldmednlaaLwB
namespace Go.Proofs.Ytknbjdldmednlaa
open Go.RowKit

/-- What was there ahead of all is as it was; the cache lies behind it. -/
structure Std (w0 w : World) (ro : Nat → Option Rl) : Prop where
  bel : Below w0.heap.size w0 w
  low : ∀ g r, ro g = some r → w0.heap.size ≤ g
section
variable {w0 w w' : World} {ro ro' : Nat → Option Rl}
theorem Std.tr (h : Std w0 w ro) (t : Tr ro ro' w w') : Std w0 w' ro' := ⟨h.bel.trans (t.below h.bel.size h.low), t.low h.bel.size h.low⟩
theorem Std.ext (h : Std w0 w ro) (hb : Below w.heap.size w w') : Std w0 w' ro := ⟨bt h.bel hb, h.low⟩
theorem Std.only (h : Std w0 w ro) {g : Nat} (ho : Only w w' g) (hg : w0.heap.size ≤ g) : Std w0 w' ro := ⟨bonly h.bel ho hg, h.low⟩
/-- What lay there ahead of all is none of the cache's. -/
theorem Std.none (h : Std w0 w ro) {g : Nat} (hg : g < w0.heap.size) : ro g = none := by
  cases e : ro g with
  | none => rfl
  | some r => have := h.low g r e; omega
theorem bcell0 {M : List UInt8} {v : UInt8} (h : M[0]? = some v) : (bcells M)[0]? = some (.int .u8 (v.toNat : Int)) := by
  rw [bcells_bvl, List.getElem?_toArray, bvl, List.getElem?_map, h]
  rfl
end
/-- The page's example. -/
def xs1 : StC := ⟨0, 3, ⟨0, [9]⟩, []⟩
def xs2 : StC := ⟨0, 4, ⟨0, [9]⟩, [1]⟩
theorem xw_all : ∃ x0 x1 x2 x3 x4 x5 : DC, DC.new 16 = x0 ∧ x0.put xs1 = x1 ∧ x1.put xs2 = x2 ∧ x2.flush 4 = x3 ∧ x3.flush 3 = x4 ∧ x4.flush 4 = x5 ∧ (x0.putN xs1 = 1 ∧ x0.putE xs1 = 0) ∧ (x1.putN xs2 = 2 ∧ x1.putE xs2 = 0) ∧
    (x3.off = false ∧ x3.has 4 = true ∧ (x3.bd 4)[0]? = some 0 ∧ (x3.bd 4).length = 256) ∧ (x5.off = false ∧ x5.has 4 = true ∧ (x5.bd 4)[0]? = some 9 ∧ (x5.bd 4).length = 256) ∧ x5.done 2 = true ∧ x5.list.length = 0 :=
  ⟨_, _, _, _, _, _, rfl, rfl, rfl, rfl, rfl, rfl, by decide +kernel⟩
set_option maxRecDepth 100000 in
set_option maxHeartbeats 8000000 in
theorem works12_any (w : World) : Calls Try.prog 18 #[] w fun e w' => e = .returned (.bool true) ∧ Below w.heap.size w w' := by
  obtain ⟨x0, x1, x2, x3, x4, x5, e0, e1, e2, e3, e4, e5, p1, p2, r1, r2, dd, dl⟩ := xw_all
  have E0 := Lib.hid e0
  have E1 := Lib.hid e1
  have E2 := Lib.hid e2
  have E3 := Lib.hid e3
  have E4 := Lib.hid e4
  have E5 := Lib.hid e5
  have P1 := Lib.hid p1
  have P2 := Lib.hid p2
  have R1 := Lib.hid r1
  have R2 := Lib.hid r2
  have DD := Lib.hid dd
  have DL := Lib.hid dl
  clear e0 e1 e2 e3 e4 e5 p1 p2 r1 r2 dd dl
  go_enter Try.func18, Try.ntmps18
  go_wp2_with fail
  refine (dnew_any 16 (by omega) (by omega) _).mono ?_; rintro e w1 ⟨b, g, rfl, hb1, hg1, hd1, hbw1⟩
  have D1 := Lib.hid hd1
  have B1 := Lib.hid hbw1
  have L1 := Lib.hid (And.intro hb1 hg1)
  clear hb1 hg1 hd1 hbw1
  go_wp2_with fail
  refine (c_new b g w1 D1.out).mono ?_; rintro e w2 ⟨ro2, c, rfl, hc2, ht2⟩
  have lo1 : Std w w1 (roD b g) := ⟨B1.out, fun k r hk => by
    unfold roD at hk
    by_cases e : k = b ∨ k = g
    · have := L1.out; omega
    · rw [if_neg e] at hk; cases hk⟩
  rw [E0.out] at hc2
  have C2 := Lib.hid hc2
  have S2 := Lib.hid (lo1.tr ht2)
  clear hc2 ht2 lo1 D1 B1
  go_wp2_with (refine wpList_build_one1 rfl _ _ _ rfl Try.underlying23 1 _ Try.byteInfo (.int .u8 9) rfl rfl rfl ?_)
  apply Stop.go; intro w3 Hg3 Hb3
  go_wp2_with (refine wpList_alloc_row rfl _ rfl _ Try.patchZero ?_)
  apply Stop.go; intro w4 Hg4 Hb4
  obtain ⟨gb, hgb⟩ : ∃ x, x = w2.heap.size := ⟨_, rfl⟩
  obtain ⟨gp, hgp⟩ : ∃ x, x = w3.heap.size := ⟨_, rfl⟩
  rw [← hgb] at Hb3 ⊢
  rw [← hgp] at Hb4 ⊢
  have hne : gb ≠ gp := by have := Hg3.out.2; omega
  have N2b := Lib.hid (C2.out.none_ge (q := gb) (by omega))
  have N2p := Lib.hid (C2.out.none_ge (q := gp) (by have := Hg3.out.1.size; omega))
  have HGP := Lib.hid hgp
  clear hgb hgp
  go_wp2_with (refine wpList_store_arr rfl _ _ _ rfl _ #[.int .i64 0, .slice (some ⟨gb, 0, none⟩) 1 1] rfl rfl _ _ Hb4.out Try.patchSize rfl (by simp [Value.oneCell']) ?_)
  apply Stop.go; intro w5 Ho5 Hb5
  have C5 := Lib.hid (((C2.out.ext Hg3.out.1).ext Hg4.out.1).only_none Ho5.out N2p.out)
  have S5 := Lib.hid (((S2.out.ext Hg3.out.1).ext Hg4.out.1).only Ho5.out (by have h1 := S2.out.bel.size; have h2 := Hg3.out.1.size; have := HGP.out; omega))
  have X5 := Lib.hid ((Hb3.out.ext Hg4.out.1).only Ho5.out hne)
  clear C2 S2 Hb3 Hb4 Ho5 Hg3 Hg4
  have pv : ∀ w' : World, Blk w' gb 5 #[.int .u8 9] → PV w' ⟨0, [9]⟩ (some ⟨gb, 0, none⟩) 1 1 := fun w' h => ⟨by decide, by decide, rfl, Nat.le_refl _, by unfold maxLen; omega, RB.of_blk9 h⟩
  have CP := c_put C5.out (by omega) 3 (by omega) (by omega) ⟨0, [9]⟩ _ 1 1 (pv _ X5.out) none 0 0 [] rfl (by omega) (RC.nil_ _ _) (fun y hy => (by cases hy)) (fun ad e => by injection e with e; subst e; exact N2b.out) (fun _ ad e => by cases e)
  rw [show (⟨0, 3, ⟨0, [9]⟩, []⟩ : StC) = xs1 from rfl, P1.out.1, P1.out.2, E1.out] at CP
  go_wp2_with (refine wpList_load_blk rfl _ _ rfl _ rfl _ _ Hb5.out _ Try.underlying25 rfl Try.patchSize ?_)
  refine (CP).mono ?_; rintro e w6 ⟨rfl, ro6, hc6, ht6⟩
  have C6 := Lib.hid hc6
  have S6 := Lib.hid (S5.out.tr ht6)
  have X6 := Lib.hid (X5.out.tr ht6 N2b.out)
  have Y6 := Lib.hid (Hb5.out.tr ht6 N2p.out)
  have N6b := Lib.hid (ht6.keep gb X5.out.lt N2b.out).1
  have N6p := Lib.hid (ht6.keep gp Hb5.out.lt N2p.out).1
  clear hc6 ht6 CP C5 S5 X5 Hb5 N2b N2p
  go_wp2_with (first | refine wpList_load_blk rfl _ _ rfl _ rfl _ _ Y6.out _ Try.underlying25 rfl Try.patchSize ?_ | refine wpList_build_one1 rfl _ _ _ rfl Try.underlying38 8 _ Try.infoInt (.int .i64 1) rfl rfl rfl ?_)
  apply Stop.go; intro w7 Hg7 Hb7
  have C7 := Lib.hid (C6.out.ext Hg7.out.1)
  have S7 := Lib.hid (S6.out.ext Hg7.out.1)
  have X7 := Lib.hid (X6.out.ext Hg7.out.1)
  have Y7 := Lib.hid (Y6.out.ext Hg7.out.1)
  have CP := c_put C7.out (by omega) 4 (by omega) (by omega) ⟨0, [9]⟩ _ 1 1 (pv _ X7.out) (some ⟨w6.heap.size, 0, none⟩) 1 1 [1] rfl (by omega) (RC.of_blk1 Hb7.out) (fun y hy => by rw [List.mem_singleton] at hy; omega) (fun ad e => by injection e with e; subst e; exact N6b.out) (fun _ ad e => by injection e with e; subst e; exact C6.out.none_ge (Nat.le_refl _))
  rw [show (⟨0, 4, ⟨0, [9]⟩, [1]⟩ : StC) = xs2 from rfl, P2.out.1, P2.out.2, E2.out] at CP
  go_wp2_with fail
  refine (CP).mono ?_; rintro e w8 ⟨rfl, ro8, hc8, ht8⟩
  have C8 := Lib.hid hc8
  have S8 := Lib.hid (S7.out.tr ht8)
  clear hc8 ht8 CP C6 C7 S6 S7 X6 X7 Y6 Y7 Hb7 Hg7 pv N6b N6p
  go_wp2_with fail
  have CF := c_flush C8.out (by omega) 4 (by omega) (by omega)
  rw [E3.out] at CF
  refine (CF).mono ?_; rintro e w9 ⟨rfl, ro9, hc9, ht9⟩
  have C9 := Lib.hid hc9
  have S9 := Lib.hid (S8.out.tr ht9)
  clear hc9 ht9 C8 S8
  clear CF
  have CR := c_read C9.out (by omega) 4
  rw [R1.out.1, R1.out.2.1, if_neg (show ¬ (false = true) from fun h => by cases h), if_neg (show ¬ (false = true) from fun h => by cases h), if_pos rfl, if_pos rfl] at CR
  obtain ⟨M1, hM1⟩ : ∃ M, x3.bd 4 = M := ⟨_, rfl⟩
  have K1 := Lib.hid (And.intro R1.out.2.2.1 R1.out.2.2.2)
  rw [hM1] at CR K1
  clear hM1
  go_wp2_with fail
  refine (CR).mono ?_; rintro e w10 ⟨rfl, hc10, ht10⟩
  have C10 := Lib.hid hc10
  have S10 := Lib.hid (S9.out.tr ht10)
  clear hc10 ht10 CR C9 S9
  go_wp2_with (refine wpList_alloc_row rfl _ rfl _ Try.blockZero ?_)
  apply Stop.go; intro w11 Hg11 Hb11
  go_wp2_with (refine wpList_store_arr rfl _ _ _ rfl _ (bcells M1) rfl rfl _ _ Hb11.out (Try.blockFits K1.out.2) (by rw [bcells_size, bcells_size, K1.out.2, zeros_len]) (oneCell_bcells _) ?_)
  apply Stop.go; intro w12 Ho12 Hb12
  have nA : ro9 w10.heap.size = none := C10.out.none_ge (Nat.le_refl _)
  have C12 := Lib.hid ((C10.out.ext Hg11.out.1).only_none Ho12.out nA)
  have S12 := Lib.hid ((S10.out.ext Hg11.out.1).only Ho12.out S10.out.bel.size)
  obtain ⟨ga, hga⟩ : ∃ x, x = w10.heap.size := ⟨_, rfl⟩
  rw [← hga] at Hb12 nA ⊢
  have Na := Lib.hid nA
  clear C10 S10 Hg11 Hb11 Ho12 hga nA
  go_wp2_with fail
  have CF := c_flush C12.out (by omega) 3 (by omega) (by omega)
  rw [E4.out] at CF
  refine (CF).mono ?_; rintro e w13 ⟨rfl, ro13, hc13, ht13⟩
  have C13 := Lib.hid hc13
  have S13 := Lib.hid (S12.out.tr ht13)
  have A13 := Lib.hid (Hb12.out.tr ht13 Na.out)
  have N13 := Lib.hid (ht13.keep ga Hb12.out.lt Na.out).1
  clear hc13 ht13 CF C12 S12 Hb12 Na
  go_wp2_with fail
  have CF := c_flush C13.out (by omega) 4 (by omega) (by omega)
  rw [E5.out] at CF
  refine (CF).mono ?_; rintro e w14 ⟨rfl, ro14, hc14, ht14⟩
  have C14 := Lib.hid hc14
  have S14 := Lib.hid (S13.out.tr ht14)
  have A14 := Lib.hid (A13.out.tr ht14 N13.out)
  have N14 := Lib.hid (ht14.keep ga A13.out.lt N13.out).1
  clear hc14 ht14 CF C13 S13 A13 N13
  have CR := c_read C14.out (by omega) 4
  rw [R2.out.1, R2.out.2.1, if_neg (show ¬ (false = true) from fun h => by cases h), if_neg (show ¬ (false = true) from fun h => by cases h), if_pos rfl, if_pos rfl] at CR
  obtain ⟨M2, hM2⟩ : ∃ M, x5.bd 4 = M := ⟨_, rfl⟩
  have K2 := Lib.hid (And.intro R2.out.2.2.1 R2.out.2.2.2)
  rw [hM2] at CR K2
  clear hM2
  go_wp2_with fail
  refine (CR).mono ?_; rintro e w15 ⟨rfl, hc15, ht15⟩
  have C15 := Lib.hid hc15
  have S15 := Lib.hid (S14.out.tr ht15)
  have A15 := Lib.hid (A14.out.tr ht15 N14.out)
  have N15 := Lib.hid (ht15.keep ga A14.out.lt N14.out).1
  clear hc15 ht15 CR C14 S14 A14 N14
  go_wp2_with (refine wpList_alloc_row rfl _ rfl _ Try.blockZero ?_)
  apply Stop.go; intro w16 Hg16 Hb16
  go_wp2_with (refine wpList_store_arr rfl _ _ _ rfl _ (bcells M2) rfl rfl _ _ Hb16.out (Try.blockFits K2.out.2) (by rw [bcells_size, bcells_size, K2.out.2, zeros_len]) (oneCell_bcells _) ?_)
  apply Stop.go; intro w17 Ho17 Hb17
  have nB : ro14 w15.heap.size = none := C15.out.none_ge (Nat.le_refl _)
  have C17 := Lib.hid ((C15.out.ext Hg16.out.1).only_none Ho17.out nB)
  have S17 := Lib.hid ((S15.out.ext Hg16.out.1).only Ho17.out S15.out.bel.size)
  have A17 := Lib.hid ((A15.out.ext Hg16.out.1).only Ho17.out (Nat.ne_of_lt A15.out.lt))
  have ca : w17.cell? ⟨ga, 0, none⟩ = some (.int .u8 0) := (A17.out.cell 0).trans (bcell0 K1.out.1)
  have cb : w17.cell? ⟨w15.heap.size, 0, none⟩ = some (.int .u8 9) := (Hb17.out.cell 0).trans (bcell0 K2.out.1)
  have CD := c_done C17.out 2 (by omega) (by omega)
  rw [DD.out] at CD
  have CL := c_left C17.out (by omega)
  clear C15 S15 A15 Hg16 Hb16 Ho17 nB
  go_wp2_with fail
  refine (CD).mono ?_; rintro e w18 ⟨rfl, rfl⟩
  go_wp2_with fail
  refine (CL).mono ?_; rintro e w19 ⟨A5, n5, q5, rfl, hl5, _, _, _, hb5⟩
  have hn5 : n5 = 0 := by rw [← hl5]; exact DL.out
  subst hn5
  have B19 := Lib.hid (S17.out.ext hb5).bel
  clear hl5 hb5 CL CD
  go_wp2_with fail
  go_ret
  exact ⟨rfl, B19.out⟩

end Go.Proofs.Ytknbjdldmednlaa
