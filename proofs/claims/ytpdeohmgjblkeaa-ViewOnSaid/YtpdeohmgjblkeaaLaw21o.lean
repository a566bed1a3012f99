/-
  Layer 21: the walk of ViewOn.
-/
import Derived.Test.YtpdeohmgjblkeaaLaw21w
import Derived.Deep.CutRange
namespace Go.Proofs.Ytpdeohmgjblkeaa
open Go.RowKit
set_option maxRecDepth 10000

/-- What the statement's function tells. -/
def tgV (L : List (List UInt8)) (n1 : Int) (no : Int) : List UInt8 := if decide (n1 ≤ no) then bkV L no else zeros 256
theorem tgV_len {L : List (List UInt8)} (hL : Bks L) (n1 no : Int) : (tgV L n1 no).length = 256 := by
  unfold tgV
  split
  · exact bkV_len hL no
  · exact zeros_len _
theorem tgV_off {L : List (List UInt8)} {n1 no : Int} (h : no < n1 ∨ no < 0 ∨ (L.length : Int) ≤ no) : tgV L n1 no = zeros 256 := by
  unfold tgV
  by_cases h1 : n1 ≤ no
  · rw [decide_eq_true h1, if_pos rfl, bkV_off (by omega)]
  · rw [decide_eq_false h1]; rfl
theorem tgV_on {L : List (List UInt8)} {n1 : Int} {q : Nat} (h : n1 ≤ (q : Int)) (hq : q < L.length) : tgV L n1 (q : Int) = L[q] := by
  unfold tgV
  rw [decide_eq_true h, if_pos rfl, bkV_at hq]
section
variable {P : Program} {ops : Array Oper} {rest : List Oper} {o : Oper} {a : Act} {w : World} {Q : Exit → Act → World → Prop}
theorem wpList_build_one21 (hgd : Region.wanted o (yielded ops a.tmps) = true) (t : TypeId) (i : Nat) (x : Operand) (ho : o.op = .build t #[(i, x)]) (v : Value) (hx : a.eval x = v) (cs : Array Value) (hb : P.built t [(i, v)] = some cs)
    (h : wpList P ops Q rest (a.put o.dst (.agg cs)) w) : wpList P ops Q (o :: rest) a w := by
  refine wpList_wanted hgd fun K hK => ?_
  have hr : (Instr.build t #[(i, v)]).run P w = .ok (.agg cs) w := run_build w t #[(i, v)] cs hb
  unfold Oper.wp execOp
  simp only [ho, Sem.run_bind, List.map_toArray, List.map_cons, List.map_nil, hx, hr, Result.andThen_ok]
  exact hK _ _ h
end
def seven : List UInt8 := 7 :: zeros 255
theorem Try.sevenBuilt : Try.prog.built 49 [(0, .int .u8 7)] = some (bcells seven) := by kernel_rfl
theorem seven_len : seven.length = 256 := rfl
set_option maxHeartbeats 1600000 in
theorem vget_any (L : List (List UInt8)) (hL : Bks L) (n : Nat) (hn : L.length = n) (hn6 : n ≤ 60) (A : Option Addr) (c : Nat) (n1 : Int) (gp gq : Nat) (no : Int) (w : World) (hp : w.cell? ⟨gp, 1, none⟩ = some (.int .i64 n1)) (hq : w.cell? ⟨gq, 0, none⟩ = some (.slice A n c)) (hr : RK w A L) :
    Calls Try.prog 20 #[.int .i64 no, .pointer (some ⟨gp, 0, none⟩), .pointer (some ⟨gq, 0, none⟩)] w fun e w' => ∃ (X : List UInt8) (er : Int), e = .returned (.tuple #[.agg (bcells X), .int .i64 er]) ∧ X.length = 256 ∧ Below w.heap.size w w' ∧ (er = 0 → X = tgV L n1 no) ∧ (er ≠ 0 → tgV L n1 no = zeros 256) := by
  have Hn := Lib.hid hn
  have HL := Lib.hid hL
  have HzL : Hid ((zeros 256).length = 256) := Lib.hid (zeros_len _)
  have H7 : Hid (seven.length = 256) := Lib.hid seven_len
  by_cases h0 : no < n1 ∨ no < 0 ∨ (n : Int) ≤ no
  · have H0 := Lib.hid (tgV_off (L := L) (n1 := n1) (no := no) (by rw [hn]; exact h0))
    have hor : no < n1 ∨ n1 ≤ no ∧ no < 0 ∨ n1 ≤ no ∧ 0 ≤ no ∧ (n : Int) ≤ no := by omega
    clear hn hL h0
    rcases hor with h | ⟨h, h2⟩ | ⟨h, h2, h3⟩
    focus (
      have d1 : decide (no < n1) = true := decide_eq_true h
      clear h)
    rotate_left
    focus (
      have d1 : decide (no < n1) = false := decide_eq_false (by omega)
      have d2 : decide (no < 0) = true := decide_eq_true h2
      clear h h2)
    rotate_left
    focus (
      have d1 : decide (no < n1) = false := decide_eq_false (by omega)
      have d2 : decide (no < 0) = false := decide_eq_false (by omega)
      have d3 : decide ((n : Int) ≤ no) = true := decide_eq_true h3
      clear h h2 h3)
    all_goals
      go_enter Try.func20, Try.ntmps20
      go_wp2_with (refine wpList_alloc_row rfl _ rfl _ Try.blockZero ?_)
      apply Stop.go; intro w1 Hg1 Hb1
      have hp1 : w1.cell? ⟨gp, 1, none⟩ = some (.int .i64 n1) := by rw [Hg1.out.1.cell (block_lt_of_cell hp)]; exact hp
      have hq1 : w1.cell? ⟨gq, 0, none⟩ = some (.slice A n c) := by rw [Hg1.out.1.cell (block_lt_of_cell hq)]; exact hq
      go_wp2_with (first | refine wpList_build_one21 rfl _ _ _ rfl _ rfl _ Try.sevenBuilt ?_ | refine wpList_store_arr rfl _ _ _ rfl _ _ rfl rfl _ _ Hb1.out (Try.blockFits H7.out) (by rw [bcells_size, bcells_size, H7.out, HzL.out]) (oneCell_bcells _) ?_)
      apply Stop.go; intro wc Hoc Hbc
      go_wp2_with ((with_reducible show bodyPost _ _ _ _ _ _); refine bodyPost_cell_tmp rfl _ rfl _ _ Hbc.out _ _ Try.underlying49 (Try.blockFits H7.out) rfl _ rfl ?_)
      apply Stop.go
      exact ⟨seven, 2, ⟨rfl, rfl⟩, H7.out, bonly Hg1.out.1 Hoc.out (Nat.le_refl _), fun h => absurd h (by omega), fun _ => H0.out⟩
  · obtain ⟨q, rfl⟩ := Int.eq_ofNat_of_zero_le (show 0 ≤ no by omega)
    have hqn : q < L.length := by omega
    have H0 := Lib.hid (tgV_on (L := L) (n1 := n1) (q := q) (by omega) hqn)
    have HX := Lib.hid (hL.get hqn)
    obtain ⟨ad, rfl⟩ := hr.addr (by omega)
    have Hr := Lib.hid hr
    have d1 : decide ((q : Int) < n1) = false := decide_eq_false (by omega)
    have d2 : decide ((q : Int) < 0) = false := decide_eq_false (by omega)
    have d3 : decide ((n : Int) ≤ (q : Int)) = false := decide_eq_false (by omega)
    have d4 : decide (n ≤ q) = false := decide_eq_false (by omega)
    have p0 : (0 : Int) ≤ (q : Int) := by omega
    have p1 : (q : Int) < (n : Int) := by omega
    clear hn hL hr h0
    go_enter Try.func20, Try.ntmps20
    go_wp2_with (refine wpList_alloc_row rfl _ rfl _ Try.blockZero ?_)
    apply Stop.go; intro w1 Hg1 Hb1
    have hp1 : w1.cell? ⟨gp, 1, none⟩ = some (.int .i64 n1) := by rw [Hg1.out.1.cell (block_lt_of_cell hp)]; exact hp
    have hq1 : w1.cell? ⟨gq, 0, none⟩ = some (.slice (some ad) n c) := by rw [Hg1.out.1.cell (block_lt_of_cell hq)]; exact hq
    have HR1 := Lib.hid (Hr.out.below Hg1.out.1)
    go_wp2_with (first | refine wpList_load_bk rfl _ _ rfl ad q rfl L HL.out hqn HR1.out _ Try.underlying49 rfl Try.blockSize ?_ | refine wpList_store_arr rfl _ _ _ rfl _ _ rfl rfl _ _ Hb1.out (Try.blockFits HX.out) (by rw [bcells_size, bcells_size, HX.out, HzL.out]) (oneCell_bcells _) ?_)
    apply Stop.go; intro wc Hoc Hbc
    go_wp2_with ((with_reducible show bodyPost _ _ _ _ _ _); refine bodyPost_cell_tmp rfl _ rfl _ _ Hbc.out _ _ Try.underlying49 (Try.blockFits HX.out) rfl _ rfl ?_)
    apply Stop.go
    exact ⟨L[q], 0, ⟨rfl, rfl⟩, HX.out, bonly Hg1.out.1 Hoc.out (Nat.le_refl _), fun _ => H0.out.symm, fun h => absurd rfl h⟩

theorem Try.enterGet21 (args : Array Value) (w : World) : (callFunc 20 args).run Try.prog w = .ok (.enter 20 args) w := by
  simp [go_sem]
/-- What stands in memory behind the two views. -/
structure OnS (l : Lay14) (n0 n1 : Int) (T : Int → List UInt8) (f1 f2 : Value) (g0 g5 g8 g9 g10 : Nat) (w : World) : Prop where
  lay : Blk w g0 26 l.val
  pair : Blk w g5 52 (icells [n0, n1])
  v8 : Blk w g8 29 (vval l f1)
  f8 : FV w l f1 T
  v9 : Blk w g9 29 (vval l f2)
  f9 : FV w l f2 (fun _ => zeros 256)
  v10 : Blk w g10 29 (vval zero14 .nilFunc)
theorem OnS.ext {l : Lay14} {n0 n1 : Int} {T : Int → List UInt8} {f1 f2 : Value} {g0 g5 g8 g9 g10 : Nat} {w w' : World} (h : OnS l n0 n1 T f1 f2 g0 g5 g8 g9 g10 w) (hb : Below w.heap.size w w') : OnS l n0 n1 T f1 f2 g0 g5 g8 g9 g10 w' :=
  ⟨h.lay.ext hb, h.pair.ext hb, h.v8.ext hb, h.f8.below hb, h.v9.ext hb, h.f9.below hb, h.v10.ext hb⟩
set_option maxHeartbeats 6400000 in
theorem viewOn_any (C : VC) (l : Lay14) (A : Option Addr) (n cap : Nat) (L : List (List UInt8)) (hn : L.length = n) (hL : Bks L) (hm : n ≤ maxLen) (n0 n1 : Int) (w : World) (hr : RK w A L) :
    Calls Try.prog 4 #[.agg l.val, .slice A n cap, .agg (icells [n0, n1])] w fun e w' => e = .returned (.bool true) ∧ Below w.heap.size w w' := by
  unfold maxLen at hm
  have Hn := Lib.hid hn
  have Hr := Lib.hid hr
  have HL := Lib.hid hL
  have HzL : Hid ((zeros 256).length = 256) := Lib.hid (zeros_len _)
  clear hn hr hL
  by_cases hbig : 60 < n
  · have d0 : decide ((60 : Int) < (n : Int)) = true := by simp; omega
    clear hbig
    go_enter Try.func4, Try.ntmps4
    go_wp2_with (refine wpList_box_row rfl _ _ rfl _ rfl ?_)
    apply Stop.go; intro w1 Hg1 Hb1
    go_wp2_with (refine wpList_box_row rfl _ _ rfl _ rfl ?_)
    apply Stop.go; intro w2 Hg2 Hb2
    have E2 := Lib.hid (bt Hg1.out.1 Hg2.out.1)
    clear Hg1 Hb1 Hg2 Hb2
    go_wp2_with fail
    refine (works21_any C _).mono ?_; rintro e w3 ⟨rfl, hb3⟩
    go_wp2_with fail
    go_ret
    exact ⟨rfl, bt E2.out hb3⟩
  · have d0 : decide ((60 : Int) < (n : Int)) = false := by simp; omega
    have hn6 : n ≤ 60 := by omega
    have HT := Lib.hid (fun (w : World) h => to21_any A n cap L Hn.out HL.out (by omega) w h)
    clear hbig
    go_enter Try.func4, Try.ntmps4
    go_wp2_with (refine wpList_box_row rfl _ _ rfl _ rfl ?_)
    apply Stop.go; intro w1 Hg1 Hb1
    go_wp2_with (refine wpList_box_row rfl _ _ rfl _ rfl ?_)
    apply Stop.go; intro w2 Hg2 Hb2
    have HG2 := Lib.hid (Hb1.out.ext Hg2.out.1)
    have E2 := Lib.hid (bt Hg1.out.1 Hg2.out.1)
    have z2 := Lib.hid (show w.heap.size < w1.heap.size by have := Hg1.out.2; omega)
    generalize w1.heap.size = g5 at *
    clear Hg1 Hb1 Hg2
    go_wp2_with fail
    refine (HT.out _ (Hr.out.below E2.out)).mono ?_; rintro e w3 ⟨v3, rfl, hv3, hb3⟩
    obtain ⟨A3, c3, rfl, hc3, hm3, hr3⟩ := hv3.read
    rw [Hn.out]
    have HR3 := Lib.hid hr3
    have HG3 := Lib.hid (HG2.out.ext hb3)
    have HP3 := Lib.hid (Hb2.out.ext hb3)
    have E3 := Lib.hid (bt E2.out hb3)
    clear hv3 hc3 hm3 hr3 hb3 HG2 Hb2 E2 HT
    go_upto_region 4 with fail
    have hbn : Below w3.heap.size w3 (w3.alloc (.cells #[.slice A3 n c3] 33)) := (Below.refl _ _).alloc (Nat.le_refl _) _
    have hq4 : Blk (w3.alloc (.cells #[.slice A3 n c3] 33)) w3.heap.size 33 #[.slice A3 n c3] := Blk.new w3 _ _
    generalize w3.alloc (.cells #[.slice A3 n c3] 33) = w4 at *
    have HG4 := Lib.hid (HG3.out.ext hbn)
    have HP4 := Lib.hid (HP3.out.ext hbn)
    have HR4 := Lib.hid (HR3.out.below hbn)
    have E4 := Lib.hid (bt E3.out hbn)
    have HTL := Lib.hid (fun no => tgV_len HL.out n1 no)
    generalize w3.heap.size = g7 at *
    have HFG : Hid (FG w4 (.func (.func 20) #[] #[.pointer (some ⟨g5, 0, none⟩), .pointer (some ⟨g7, 0, none⟩)]) (tgV L n1)) := Lib.hid (Or.inr (Or.inr ⟨_, _, _, rfl, Try.enterGet21, fun w' no hb => vget_any L HL.out n Hn.out hn6 A3 c3 n1 g5 g7 no w' ((HP4.out.ext hb).cell 1) ((hq4.ext hb).cell 0) (HR4.out.below hb)⟩))
    have HTs := Lib.hid (show ∀ q : Nat, n1 ≤ (q : Int) → (h : q < L.length) → tgV L n1 (q : Int) = L[q] from fun q h1 h2 => tgV_on h1 h2)
    have HTo := Lib.hid (show ∀ no : Int, no < n1 ∨ no < 0 ∨ (L.length : Int) ≤ no → tgV L n1 no = zeros 256 from fun no h => tgV_off h)
    have HQ4 := Lib.hid hq4
    generalize tgV L n1 = T at *
    clear hbn hq4 HG3 HP3 HR3 E3
    go_wp2_with (refine wpList_load_blk rfl _ _ rfl _ rfl _ _ HG4.out _ Try.underlying26 rfl Try.laySize ?_)
    refine (C.on_ l _ T HTL.out _ HFG.out).mono ?_; rintro e w5 ⟨f1, rfl, hb5, hf5⟩
    have HG5 := Lib.hid (HG4.out.ext hb5)
    have HP5 := Lib.hid (HP4.out.ext hb5)
    have HQ5 := Lib.hid (HQ4.out.ext hb5)
    have HR5 := Lib.hid (HR4.out.below hb5)
    have HF5 := Lib.hid hf5
    have E5 := Lib.hid (bt E4.out hb5)
    clear hb5 hf5 HG4 HP4 HQ4 HR4 E4 HFG
    go_wp2_with (refine wpList_alloc_row rfl _ rfl _ Try.viewZero ?_)
    apply Stop.go; intro w6 Hg6 Hb6
    go_wp2_with (refine wpList_store_arr rfl _ _ _ rfl _ (vval l f1) rfl rfl _ _ Hb6.out Try.viewSize rfl (FV.one HF5.out) ?_)
    apply Stop.go; intro w7 Ho7 Hb7
    have D7 := Lib.hid (bonly Hg6.out.1 Ho7.out (Nat.le_refl _))
    have HG7 := Lib.hid (HG5.out.ext D7.out)
    have HP7 := Lib.hid (HP5.out.ext D7.out)
    have HQ7 := Lib.hid (HQ5.out.ext D7.out)
    have HR7 := Lib.hid (HR5.out.below D7.out)
    have HF7 := Lib.hid (HF5.out.below D7.out)
    have E7 := Lib.hid (bt E5.out D7.out)
    generalize w5.heap.size = g8 at *
    clear Hg6 Hb6 Ho7 D7 HG5 HP5 HQ5 HR5 HF5 E5
    have HZT : Hid (∀ no : Int, ((fun _ : Int => zeros 256) no).length = 256) := Lib.hid fun _ => zeros_len _
    have HFN : Hid (∀ w : World, FG w .nilFunc (fun _ => zeros 256)) := Lib.hid fun _ => Or.inl ⟨rfl, fun _ => rfl⟩
    go_wp2_with (refine wpList_load_blk rfl _ _ rfl _ rfl _ _ HG7.out _ Try.underlying26 rfl Try.laySize ?_)
    refine (C.on_ l .nilFunc (fun _ => zeros 256) HZT.out _ (HFN.out _)).mono ?_; rintro e w8 ⟨f2, rfl, hb8, hf8⟩
    have HG8 := Lib.hid (HG7.out.ext hb8)
    have HP8 := Lib.hid (HP7.out.ext hb8)
    have HQ8 := Lib.hid (HQ7.out.ext hb8)
    have HR8 := Lib.hid (HR7.out.below hb8)
    have HF8 := Lib.hid (HF7.out.below hb8)
    have HV8 := Lib.hid (Hb7.out.ext hb8)
    have HK8 := Lib.hid hf8
    have E8 := Lib.hid (bt E7.out hb8)
    clear hb8 hf8 HG7 HP7 HQ7 HR7 HF7 Hb7 E7 HFN
    go_wp2_with (refine wpList_alloc_row rfl _ rfl _ Try.viewZero ?_)
    apply Stop.go; intro w9 Hg9 Hb9
    go_wp2_with (refine wpList_store_arr rfl _ _ _ rfl _ (vval l f2) rfl rfl _ _ Hb9.out Try.viewSize rfl (FV.one HK8.out) ?_)
    apply Stop.go; intro wa Hoa Hba
    have Da := Lib.hid (bonly Hg9.out.1 Hoa.out (Nat.le_refl _))
    clear Hg9 Hb9 Hoa
    go_wp2_with (first | refine wpList_alloc_row rfl _ rfl _ Try.viewZero ?_ | refine wpList_build_zero rfl _ rfl _ Try.blockZero _ _ Try.underlying49 Try.byteSize ?_ | refine wpList_alloc_row rfl _ rfl _ Try.blockZero ?_)
    apply Stop.go; intro wb Hgb Hbb
    go_wp2_with (first | refine wpList_alloc_row rfl _ rfl _ Try.viewZero ?_ | refine wpList_build_zero rfl _ rfl _ Try.blockZero _ _ Try.underlying49 Try.byteSize ?_ | refine wpList_alloc_row rfl _ rfl _ Try.blockZero ?_)
    apply Stop.go; intro wc Hgc Hbc
    have Db := Lib.hid (bt Da.out Hgb.out.1)
    have HS := Lib.hid (show OnS l n0 n1 T f1 f2 w.heap.size g5 g8 w8.heap.size wa.heap.size wb from
      ⟨HG8.out.ext Db.out, HP8.out.ext Db.out, HV8.out.ext Db.out, HF8.out.below Db.out, Hba.out.ext Hgb.out.1, HK8.out.below Db.out, Hbb.out⟩)
    have HQb := Lib.hid (HQ8.out.ext Db.out)
    have HRb := Lib.hid (HR8.out.below Db.out)
    have Eb := Lib.hid (bt E8.out Db.out)
    generalize w8.heap.size = g9 at *
    generalize wa.heap.size = g10 at *
    clear Hgb Hbb Db Da Hba HG8 HP8 HV8 HF8 HK8 HQ8 HR8 E8
    go_wp2_with (refine wpList_store_arr rfl _ _ _ rfl _ _ rfl rfl _ _ Hbc.out (Try.blockFits HzL.out) rfl (oneCell_bcells _) ?_)
    apply Stop.go; intro wd Hod Hbd
    have Dd := Lib.hid (bonly Hgc.out.1 Hod.out (Nat.le_refl _))
    have HSd := Lib.hid (HS.out.ext Dd.out)
    have HQd := Lib.hid (HQb.out.ext Dd.out)
    have HRd := Lib.hid (HRb.out.below Dd.out)
    have c0 : wd.cell? ⟨g5, 0, none⟩ = some (.int .i64 n0) := HSd.out.pair.cell 0
    have c1 : wd.cell? ⟨g5, 1, none⟩ = some (.int .i64 n1) := HSd.out.pair.cell 1
    have cb : wd.cell? ⟨w.heap.size, 0, none⟩ = some (.int .i64 l.blocks) := HSd.out.lay.cell 0
    have cq : wd.cell? ⟨g7, 0, none⟩ = some (.slice A3 n c3) := HQd.out.cell 0
    clear Hgc Hbc Hod HQb HRb HSd HQd
    obtain ⟨pb, Hpb⟩ : ∃ p, Hid (decide (n1 ≤ n0 ∧ 0 ≤ n0 ∧ n0 < (n : Int) ∧ n0 < l.blocks) = p) := ⟨_, Lib.hid rfl⟩
    obtain ⟨W, HW⟩ : ∃ W, Hid (vBk l T n0 = W) := ⟨_, Lib.hid rfl⟩
    have HWL := Lib.hid (show W.length = 256 by rw [← HW.out]; exact vBk_len HTL.out n0)
    go_upto_region 8 with fail
    go_cut [48] from 25 to 48 (fun v wx => v = .bool pb ∧ wx = wd)
    case first =>
      have hor : n0 < n1 ∨ n1 ≤ n0 ∧ n0 < 0 ∨ n1 ≤ n0 ∧ 0 ≤ n0 ∧ (n : Int) ≤ n0 ∨ n1 ≤ n0 ∧ 0 ≤ n0 ∧ n0 < (n : Int) ∧ l.blocks ≤ n0 ∨ n1 ≤ n0 ∧ 0 ≤ n0 ∧ n0 < (n : Int) ∧ n0 < l.blocks := by omega
      rcases hor with h | ⟨h, h2⟩ | ⟨h, h2, h3⟩ | ⟨h, h2, h3, h4⟩ | ⟨h, h2, h3, h4⟩
      focus (
        obtain rfl : pb = false := by rw [← Hpb.out]; exact decide_eq_false (by omega)
        have d1 : decide (n1 ≤ n0) = false := decide_eq_false (by omega)
        clear h)
      rotate_left
      focus (
        obtain rfl : pb = false := by rw [← Hpb.out]; exact decide_eq_false (by omega)
        have d1 : decide (n1 ≤ n0) = true := decide_eq_true h
        have d2 : decide (0 ≤ n0) = false := decide_eq_false (by omega)
        clear h h2)
      rotate_left
      focus (
        obtain rfl : pb = false := by rw [← Hpb.out]; exact decide_eq_false (by omega)
        have d1 : decide (n1 ≤ n0) = true := decide_eq_true h
        have d2 : decide (0 ≤ n0) = true := decide_eq_true h2
        have d3 : decide (n0 < (n : Int)) = false := decide_eq_false (by omega)
        clear h h2 h3)
      rotate_left
      focus (
        obtain rfl : pb = false := by rw [← Hpb.out]; exact decide_eq_false (by omega)
        have d1 : decide (n1 ≤ n0) = true := decide_eq_true h
        have d2 : decide (0 ≤ n0) = true := decide_eq_true h2
        have d3 : decide (n0 < (n : Int)) = true := decide_eq_true h3
        have d4 : decide (n0 < l.blocks) = false := decide_eq_false (by omega)
        clear h h2 h3 h4)
      rotate_left
      focus (
        obtain rfl : pb = true := by rw [← Hpb.out]; exact decide_eq_true ⟨h, h2, h3, h4⟩
        have d1 : decide (n1 ≤ n0) = true := decide_eq_true h
        have d2 : decide (0 ≤ n0) = true := decide_eq_true h2
        have d3 : decide (n0 < (n : Int)) = true := decide_eq_true h3
        have d4 : decide (n0 < l.blocks) = true := decide_eq_true h4
        clear h h2 h3 h4)
      all_goals
        go_wp2_with fail
        go_meet
        exact ⟨rfl, rfl⟩
    case rest =>
    obtain ⟨rfl, hw⟩ := hcut
    rw [hw]
    clear hw
    go_upto_if 48 with fail
    go_cut [] from 49 to 53 (fun wx => Only wd wx wb.heap.size ∧ Blk wx wb.heap.size 49 (bcells W))
    case first =>
      cases pb
      · have HWz := Lib.hid (show W = zeros 256 by
          have hp := of_decide_eq_false Hpb.out
          rw [← HW.out]
          by_cases h : 0 ≤ n0 ∧ n0 < l.blocks
          · rw [vBk_on T h, HTo.out n0 (by rw [Hn.out]; omega)]
          · exact vBk_off T h)
        go_wp2_with fail
        go_meet
        exact ⟨Only.refl _ _, by rw [HWz.out]; exact Hbd.out⟩
      · have hp := of_decide_eq_true Hpb.out
        obtain ⟨q, hq⟩ := Int.eq_ofNat_of_zero_le hp.2.1
        have hqL : q < L.length := by rw [Hn.out]; omega
        have HWq := Lib.hid (show W = L[q] by rw [← HW.out, vBk_on T ⟨hp.2.1, hp.2.2.2⟩, hq]; exact HTs.out q (by omega) hqL)
        have p1 : (q : Int) < (n : Int) := by omega
        have p0 : (0 : Int) ≤ (q : Int) := by omega
        rw [hq] at c0
        obtain ⟨ad, rfl⟩ := HRd.out.addr (by omega)
        clear hp hq
        go_wp2_with (first | refine wpList_load_bk rfl _ _ rfl ad q rfl L HL.out hqL HRd.out _ Try.underlying49 rfl Try.blockSize ?_ | (rw [← HWq.out]; refine wpList_store_arr rfl _ _ _ rfl _ _ rfl rfl _ _ Hbd.out (Try.blockFits HWL.out) (by rw [bcells_size, bcells_size, HWL.out, HzL.out]) (oneCell_bcells _) ?_))
        apply Stop.go; intro wx Hox Hbx
        go_wp2_with fail
        go_meet
        exact ⟨Hox.out, Hbx.out⟩
    case rest =>
    obtain ⟨ho, hb⟩ := hcut
    generalize wc = we at *
    have D := Lib.hid (bonly Dd.out ho (Nat.le_refl _))
    have HSe := Lib.hid (HS.out.ext D.out)
    have HWe := Lib.hid hb
    have Ee := Lib.hid (bt Eb.out D.out)
    have HLe := Lib.hid HSe.out.lay
    have HCB := Lib.hid (fun w h => C.block l f1 T HTL.out n0 w h)
    rw [HW.out] at HCB
    have HCZ := Lib.hid (fun w h => C.block l f2 (fun _ => zeros 256) HZT.out n0 w h)
    have hz2 : vBk l (fun _ => zeros 256) n0 = zeros 256 := by unfold vBk; split <;> rfl
    rw [hz2] at HCZ
    have HCY := Lib.hid (fun w => C.block zero14 .nilFunc T HTL.out n0 w FV.nil_)
    have hz3 : vBk zero14 T n0 = zeros 256 := vBk_off T (fun h => by have h2 : n0 < 0 := h.2; omega)
    rw [hz3] at HCY
    have HCI := Lib.hid (fun w => C.image zero14 .nilFunc T HTL.out w FV.nil_)
    rw [show vImg zero14 T (vBn zero14) = [] from rfl] at HCI
    have HCM := Lib.hid (fun w h => C.image l f1 T HTL.out w h)
    have HVO := Lib.hid (@vBn_off l)
    have HVN := Lib.hid (fun (h : l.may = true) => show ((vBn l : Nat) : Int) = l.blocks by have := Lay14.may_iff.1 h; rw [vBn_on h]; omega)
    obtain ⟨nb, HvB⟩ : ∃ nb, Hid (vBn l = nb) := ⟨_, Lib.hid rfl⟩
    rw [HvB.out] at HVO HVN
    clear ho hb HS Dd D c0 c1 cb cq HRd Hbd HTs HTo Hpb HW hz2 hz3 Eb
    go_wp2_with (refine wpList_load_blk rfl _ _ rfl _ rfl _ _ HLe.out _ Try.underlying26 rfl Try.laySize ?_)
    refine (rmay_any l _).mono ?_; rintro e wf ⟨rfl, hbf⟩
    have HSf := Lib.hid (HSe.out.ext hbf)
    have HWf := Lib.hid (HWe.out.ext hbf)
    have Ef := Lib.hid (bt Ee.out hbf)
    clear hbf HSe HWe Ee HLe
    cases hmay : l.may
    focus (
      have Hnb := Lib.hid (HVO.out hmay)
      have e9 : ((nb : Int) == 0) = true := by rw [Hnb.out]; rfl
      have e8 : (nb == 0) = true := by rw [Hnb.out]; rfl
      clear hmay HVO HVN
      go_wp2_with fail)
    rotate_left
    focus (
      have Hnb := Lib.hid (HVN.out hmay)
      have cb : wf.cell? ⟨w.heap.size, 0, none⟩ = some (.int .i64 (nb : Int)) := by rw [Hnb.out]; exact HSf.out.lay.cell 0
      have e9 : ((nb : Int) == (nb : Int)) = true := by simp
      clear hmay HVO HVN
      go_wp2_with fail
      clear cb)
    all_goals
      refine WH.start (S := fun w' : World => OnS l n0 n1 T f1 f2 w.heap.size g5 g8 g9 g10 w' ∧ Blk w' wb.heap.size 49 (bcells W)) [false, false, false, false, false, false, false, false, false, false, false, false, false, false, false, false, false, false, false, false, false, false, false, false, false, false, false, false, false, false, false, false, false, false, false, false, false, false, false, false, false, false, false, false, false] 45 rfl rfl (by kernel_rfl) ⟨HSf.out.ext (bdrew wf 1), HWf.out.ext (bdrew wf 1)⟩ (fun hSn => ?_); obtain ⟨wS, hwS⟩ : ∃ x, (wf).drew = x := ⟨_, rfl⟩; have HE := Lib.hid (show Below (wf).heap.size (wf) wS from hwS ▸ bdrew wf 1); rw [hwS] at hSn ⊢; clear hwS
      refine WH.tv 0 rfl (fun w' hSw => exec_load_blk _ _ rfl _ rfl _ _ (hSw.1.v8) _ (Try.underlying29) rfl (Try.viewSize)) ?_; simp only [setL]
      refine WH.tk 1 ?_; simp only [setL]
      refine WH.tv 2 rfl (fun w' hSw => exec_load_cell _ _ rfl _ rfl (.int .i64 n0) (hSw.1.pair.cell 0) _ (Try.underlying3) rfl) ?_; simp only [setL]
      refine WH.tv 4 rfl (fun w' hSw => exec_load_blk _ _ rfl _ rfl _ _ (hSw.2) _ (Try.underlying49) rfl (Try.blockFits HWL.out)) ?_; simp only [setL]
      refine WH.only 3 _ rfl (by kernel_rfl) rfl (fun K hK => ?_)
      go_simp; refine (HCB.out _ hSn.1.f8).mono ?_; rintro e wg ⟨rfl, hbg⟩; go_simp
      have HE := Lib.hid (bt HE.out hbg)
      have hSn := And.intro (hSn.1.ext hbg) (hSn.2.ext hbg); refine hK _ _ hSn ?_; clear hK; clear K; simp only [setL]
      refine WH.tv 5 rfl (fun w' hSw => exec_eql_arr _ _ _ _ rfl (by kernel_rfl) _ _ Try.underlying49 Try.underlying5 Try.byteSize W W rfl rfl HWL.out HWL.out true (beq_self_eq_true _)) ?_; simp only [setL]
      refine WH.tk 6 ?_; simp only [setL]
      refine WH.tv 7 rfl (fun w' hSw => exec_load_blk _ _ rfl _ rfl _ _ (hSw.1.v9) _ (Try.underlying29) rfl (Try.viewSize)) ?_; simp only [setL]
      refine WH.tk 8 ?_; simp only [setL]
      refine WH.tv 9 rfl (fun w' hSw => exec_load_cell _ _ rfl _ rfl (.int .i64 n0) (hSw.1.pair.cell 0) _ (Try.underlying3) rfl) ?_; simp only [setL]
      refine WH.tv 11 rfl (fun w' hSw => exec_build_zero _ rfl _ Try.blockZero _ _ Try.underlying49 Try.byteSize) ?_; simp only [setL]
      refine WH.only 10 _ rfl (by kernel_rfl) rfl (fun K hK => ?_)
      go_simp; refine (HCZ.out _ hSn.1.f9).mono ?_; rintro e wh ⟨rfl, hbh⟩; go_simp
      have HE := Lib.hid (bt HE.out hbh)
      have hSn := And.intro (hSn.1.ext hbh) (hSn.2.ext hbh); refine hK _ _ hSn ?_; clear hK; clear K; simp only [setL]
      refine WH.tv 12 rfl (fun w' hSw => exec_eql_arr _ _ _ _ rfl (by kernel_rfl) _ _ Try.underlying49 Try.underlying5 Try.byteSize (zeros 256) (zeros 256) rfl rfl HzL.out HzL.out true (beq_self_eq_true _)) ?_; simp only [setL]
      refine WH.tk 13 ?_; simp only [setL]
      refine WH.tk 14 ?_; simp only [setL]
      refine WH.tv 15 rfl (fun w' hSw => exec_load_blk _ _ rfl _ rfl _ _ (hSw.1.v10) _ (Try.underlying29) rfl (Try.viewSize)) ?_; simp only [setL]
      refine WH.tk 16 ?_; simp only [setL]
      refine WH.tv 17 rfl (fun w' hSw => exec_load_cell _ _ rfl _ rfl (.int .i64 n0) (hSw.1.pair.cell 0) _ (Try.underlying3) rfl) ?_; simp only [setL]
      refine WH.tv 19 rfl (fun w' hSw => exec_build_zero _ rfl _ Try.blockZero _ _ Try.underlying49 Try.byteSize) ?_; simp only [setL]
      refine WH.only 18 _ rfl (by kernel_rfl) rfl (fun K hK => ?_)
      go_simp; refine (HCY.out _).mono ?_; rintro e wi ⟨rfl, hbi⟩; go_simp
      have HE := Lib.hid (bt HE.out hbi)
      have hSn := And.intro (hSn.1.ext hbi) (hSn.2.ext hbi); refine hK _ _ hSn ?_; clear hK; clear K; simp only [setL]
      refine WH.tv 20 rfl (fun w' hSw => exec_eql_arr _ _ _ _ rfl (by kernel_rfl) _ _ Try.underlying49 Try.underlying5 Try.byteSize (zeros 256) (zeros 256) rfl rfl HzL.out HzL.out true (beq_self_eq_true _)) ?_; simp only [setL]
      refine WH.tk 21 ?_; simp only [setL]
      refine WH.tk 22 ?_; simp only [setL]
      refine WH.tv 23 rfl (fun w' hSw => exec_load_blk _ _ rfl _ rfl _ _ (hSw.1.v10) _ (Try.underlying29) rfl (Try.viewSize)) ?_; simp only [setL]
      refine WH.only 24 _ rfl (by kernel_rfl) rfl (fun K hK => ?_)
      go_simp; refine (HCI.out _).mono ?_; rintro e wj ⟨vj, rfl, hvj, hbj⟩; go_simp
      obtain ⟨Aj, cj, rfl, hcj, hmj, hrj⟩ := hvj.read
      have HE := Lib.hid (bt HE.out hbj)
      clear hvj hcj hmj hrj
      have hSn := And.intro (hSn.1.ext hbj) (hSn.2.ext hbj); refine hK _ _ hSn ?_; clear hK; clear K; simp only [setL]
      refine WH.tk 25 ?_; simp only [setL]
      refine WH.tk 26 ?_; simp only [setL]
      refine WH.tk 27 ?_; simp only [setL]
      refine WH.tk 28 ?_; simp only [setL]
      refine WH.tv 29 rfl (fun w' hSw => exec_load_blk _ _ rfl _ rfl _ _ (hSw.1.v8) _ (Try.underlying29) rfl (Try.viewSize)) ?_; simp only [setL]
      refine WH.tk 32 ?_; simp only [setL]
      refine WH.only 30 _ rfl (by kernel_rfl) rfl (fun K hK => ?_)
      go_simp; refine (HCM.out _ hSn.1.f8).mono ?_; rintro e wk ⟨vk, rfl, hvk, hbk⟩; go_simp
      obtain ⟨Ak, ck, rfl, hck, hmk, hrk⟩ := hvk.read
      have HE := Lib.hid (bt HE.out hbk)
      clear hvk hck hmk hrk
      rw [vImg_len, HvB.out]
      have hSn := And.intro (hSn.1.ext hbk) (hSn.2.ext hbk); refine hK _ _ hSn ?_; clear hK; clear K; simp only [setL]
      refine WH.tk 31 ?_; simp only [setL]
      refine WH.tk 33 ?_; simp only [setL]
      refine WH.tk 34 ?_; simp only [setL]
      refine WH.tk 35 ?_; simp only [setL]
      refine WH.tk 36 ?_; simp only [setL]
      refine WH.tv 37 rfl (fun w' hSw => exec_load_cells _ _ rfl ⟨g8, 0, none⟩ rfl _ Try.underlying26 (Lay14.val l).toList Try.laySize (vval_cells hSw.1.v8)) ?_; simp only [setL]
      refine WH.tv 38 rfl (fun w' hSw => exec_load_blk _ _ rfl _ rfl _ _ (hSw.1.lay) _ (Try.underlying26) rfl (Try.laySize)) ?_; simp only [setL]
      refine WH.tv 39 rfl (fun w' hSw => exec_eql_agg _ _ _ _ _ rfl (by kernel_rfl) _ _ rfl rfl _ (run_eql_lay_same l _)) ?_; simp only [setL]
      refine WH.tk 40 ?_; simp only [setL]
      refine WH.tk 41 ?_; simp only [setL]
      refine WH.only 42 _ rfl (by kernel_rfl) rfl (fun K hK => ?_)
      go_simp; refine (works21_any C _).mono ?_; rintro e wz ⟨rfl, hbz⟩; go_simp
      have HE := Lib.hid (bt HE.out hbz)
      have hSn := And.intro (hSn.1.ext hbz) (hSn.2.ext hbz); refine hK _ _ hSn ?_; clear hK; clear K; simp only [setL]
      refine WH.tk 43 ?_; simp only [setL]
      refine WH.tk 44 ?_; simp only [setL]
      refine WH.done (by kernel_rfl) ?_
      go_wp2_with fail
      go_ret
      exact ⟨rfl, bt Ef.out HE.out⟩

end Go.Proofs.Ytpdeohmgjblkeaa
