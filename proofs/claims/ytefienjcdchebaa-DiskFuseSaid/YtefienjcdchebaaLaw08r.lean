/-
  The walk of DiskFuse.
-/
import Derived.Test.YtefienjcdchebaaLaw08q
namespace Go.Proofs.Ytefienjcdchebaa
open Go.RowKit

/-- The document's device behind so many writes, with a fuse. -/
def fuseD (L : List UInt8) (F i : Nat) : Doc := ⟨L, ((F - i : Nat) : Int), decide (F < i), min i F, 0⟩
theorem fuseD_on (L : List UInt8) (F i j : Nat) (hj : j < L.length) (v : UInt8) (h : i < F) : (fuseD L F i).go ⟨1, j, v⟩ = (fuseD (L.set j v) F (i + 1), 0, 0) := by
  have e1 : (F - i : Nat) ≠ 0 := by omega
  unfold Doc.go fuseD
  simp only
  rw [if_neg (by decide), if_neg (by decide), if_neg (by simp; omega), if_neg (by omega), if_neg (by decide), if_neg (by omega), if_pos (by omega)]
  congr 2
  · omega
  · simp; omega
  · omega
theorem fuseD_off (L : List UInt8) (F i j : Nat) (hj : j < L.length) (v : UInt8) (h : ¬ i < F) : (fuseD L F i).go ⟨1, j, v⟩ = (fuseD L F (i + 1), 0, 12) := by
  unfold Doc.go fuseD
  simp only
  rw [if_neg (by decide), if_neg (by decide)]
  by_cases hi : F < i
  · rw [if_pos (by simpa using hi)]
    congr 2
    · omega
    · simp; omega
    · omega
  · rw [if_neg (by simpa using hi), if_neg (by omega), if_neg (by decide), if_pos (by omega)]
    congr 2
    · omega
    · simp; omega
    · omega

set_option maxHeartbeats 4000000 in
set_option maxRecDepth 100000 in
theorem diskFuse_any (F : UInt8) (A : Option Addr) (m c : Nat) (l : List St3) (hl : l.length = m) (hm : m ≤ maxLen) (w : World) (hr : R3L w A l) :
    Calls Try.prog 6 #[.int .u8 (F.toNat : Int), .slice A m c] w fun e w' => e = .returned (.bool true) ∧ Below w.heap.size w w' := by
  unfold maxLen at hm
  have hF := F.toNat_lt
  generalize F.toNat = F at *
  have Hl := Lib.hid hl
  have HR := Lib.hid hr
  clear hl hr
  by_cases h60 : 60 < m
  · have d0 : decide ((60 : Int) < m) = true := decide_eq_true (by omega)
    have d0' : decide (60 < m) = true := decide_eq_true h60
    go_enter Try.func6, Try.ntmps6
    go_wp2_with fail
    refine (works_any _).mono ?_; rintro e w9 ⟨rfl, hb9⟩
    go_wp2_with fail
    go_ret
    exact ⟨rfl, hb9⟩
  have d0 : decide ((60 : Int) < m) = false := decide_eq_false (by omega)
  have d0' : decide (60 < m) = false := decide_eq_false h60
  have Hm := Lib.hid (show m ≤ 60 by omega)
  have hwF : IntKind.i64.wrap (F : Int) = F := IntWalk.i64_in _ (by omega)
  have HF := Lib.hid hF
  clear h60 hm
  go_enter Try.func6, Try.ntmps6
  go_wp2_with fail
  refine (dnew_any 20 (by decide) (by decide) _).mono ?_; rintro e w1 ⟨b, g, rfl, hb1, hg1, hd1, hbw1⟩
  have Hbg := Lib.hid (And.intro hb1 hg1)
  have D1 := Lib.hid hd1
  have W1 := Lib.hid hbw1
  clear hb1 hg1 hd1 hbw1
  go_wp2_with fail
  refine (dnew_any 20 (by decide) (by decide) _).mono ?_; rintro e w2 ⟨b', g', rfl, hb1, hg1, hd1, hbw1⟩
  have Hbg' := Lib.hid (And.intro hb1 hg1)
  have X2 : Hid (DV w2 b' g' (lastD (zeros 20) 0 0).dev) := Lib.hid hd1
  have D2 := Lib.hid (D1.out.ext hbw1)
  have W2 := Lib.hid (W1.out.trans (hbw1.mono W1.out.size))
  have HLow := Lib.hid (show w.heap.size ≤ b ∧ w.heap.size ≤ g ∧ w.heap.size ≤ b' ∧ w.heap.size ≤ g' ∧ b < b' ∧ b < g' ∧ g < b' ∧ g < g' from by
    have h1 := D1.out.lt
    have h2 := Hbg.out
    have h3 := Hbg'.out
    have h4 := W1.out.size
    omega)
  clear hb1 hg1 hd1 hbw1 D1 W1 Hbg Hbg'
  go_wp2_with (go_at_call 20; refine (fuse_any b g _ _ _ D2.out (by omega)).mono ?_; rintro _ w3 ⟨rfl, ho3, hd3⟩)
  have D3 : Hid (DV w3 b g (fuseD (zeros 20) F 0).dev) := Lib.hid (by
    have e : (fuseD (zeros 20) F 0).dev = (Dev.new 20).setFuse F := by
      unfold Dev.setFuse
      rw [if_neg (by omega)]
      have e1 : Dev.new 20 = (lastD (zeros 20) 0 0).dev := rfl
      rw [e1]
      simp [fuseD, lastD, Doc.dev]
    rw [e]
    exact hd3)
  have X3 := Lib.hid (X2.out.turn (Turn.of_only ho3 b) (by have := HLow.out; omega) (by have := HLow.out; omega) (by have := HLow.out; omega) (by have := HLow.out; omega))
  have W3 := Lib.hid (bonly W2.out ho3 HLow.out.1)
  clear ho3 hd3 D2 X2 W2
  go_wp2_with fail
  go_loopw [7] (fun i wr => ∃ (k : Nat) (L : List UInt8), k ≤ m ∧ i = .int .i64 k ∧ L.length = 20 ∧ DV wr b g (fuseD L F k).dev ∧ DV wr b' g' (lastD L (min k F) 0).dev ∧ Below w.heap.size w wr) (fun i _ => m - (intOf i).toNat)
  case atStart => exact ⟨0, zeros 20, Nat.zero_le _, rfl, rfl, D3.out, by rw [Nat.zero_min]; exact X3.out, W3.out⟩
  case round =>
    obtain ⟨k, L, hk, rfl, hL, hd, hx, hbw⟩ := hrel
    have HL := Lib.hid hL
    have HD := Lib.hid hd
    have HX := Lib.hid hx
    have HW := Lib.hid hbw
    clear hL hd hx hbw
    have HK := Lib.hid (show k ≤ 60 by have := Hm.out; omega)
    have hwk : IntKind.i64.wrap ((k : Int) + 1) = (k : Int) + 1 := IntWalk.i64_in _ (by have := HK.out; omega)
    by_cases hlt : k < m
    · have hkl : k < l.length := by have := Hl.out; omega
      have d1 : decide (k < m) = true := decide_eq_true hlt
      have z1 : (k : Int) < m := by omega
      have hrw := HR.out.below HW.out
      obtain ⟨ad0, rfl⟩ := hrw.addr hkl
      have hfs := St3.field hrw hkl
      generalize l[k] = s at hfs
      have HC := Lib.hid hfs
      obtain ⟨V, hV, hVb⟩ := wrap_u64_nat s.no
      obtain ⟨J, HJ⟩ : ∃ J, Hid (V % 20 = J) := ⟨_, Lib.hid rfl⟩
      have hJ : J < 20 := by have := HJ.out; omega
      have htm : ((V : Int)).tmod 20 = (J : Int) := by
        rw [Int.tmod_eq_emod_of_nonneg (by omega)]
        have := HJ.out
        omega
      have hwJ : IntKind.i64.wrap (J : Int) = (J : Int) := IntWalk.i64_in _ (by omega)
      have Hlt := Lib.hid hlt
      have HJ20 := Lib.hid hJ
      obtain ⟨v, Hv⟩ : ∃ v, Hid (s.b = v) := ⟨_, Lib.hid rfl⟩
      rw [Hv.out] at HC
      clear hrw hlt hk hkl hfs hJ hVb
      go_wp2_with fail
      refine WH.start (S := fun w' : World => Below wr.heap.size wr w') (List.replicate 16 false) 16 rfl rfl (by kernel_rfl) (bdrew wr 1) (fun hSn => ?_)
      simp only [List.replicate]
      obtain ⟨wS, hwS⟩ : ∃ x, wr.drew = x := ⟨_, rfl⟩
      rw [hwS] at hSn ⊢
      clear hwS
      have HCw : Hid (∀ w', Below wr.heap.size wr w' → w'.cell? ⟨(ad0.add (k * 3)).block, (ad0.add (k * 3)).off + 1, none⟩ = some (.int .i64 s.no) ∧ w'.cell? ⟨(ad0.add (k * 3)).block, (ad0.add (k * 3)).off + 2, none⟩ = some (.int .u8 (v.toNat : Int))) := Lib.hid fun w' t =>
        ⟨by rw [t.cell (block_lt_of_cell HC.out.2.1)]; exact HC.out.2.1, by rw [t.cell (block_lt_of_cell HC.out.2.2)]; exact HC.out.2.2⟩
      refine WH.take 0 _ ?_ rfl (by kernel_rfl) (fun _ _ _ h => h) rfl (by assumption) ?_ ?_; rotate_left; (focus (intro w hSw; (try dsimp only at hSw); (first | (go_simp; done) | (go_simp; with_reducible rfl)))); simp only [Act.put, List.setIfInBounds_toArray, List.set_cons_zero, List.set_cons_succ]
      refine WH.take 1 _ ?_ rfl (by kernel_rfl) (fun _ _ _ h => h) rfl (by assumption) ?_ ?_; rotate_left; (focus (intro w hSw; (try dsimp only at hSw); (first | (go_simp; done) | (go_simp; with_reducible rfl)))); simp only [Act.put, List.setIfInBounds_toArray, List.set_cons_zero, List.set_cons_succ]
      refine WH.take 2 _ ?_ rfl (by kernel_rfl) (fun _ _ _ h => h) rfl (by assumption) ?_ ?_; rotate_left; (focus (intro w hSw; (try dsimp only at hSw); (first | (go_simp; done) | (go_simp; with_reducible rfl)))); simp only [Act.put, List.setIfInBounds_toArray, List.set_cons_zero, List.set_cons_succ]
      refine WH.take 3 _ ?_ rfl (by kernel_rfl) (fun _ _ _ h => h) rfl (by assumption) ?_ ?_; rotate_left; (focus (intro w hSw; (try dsimp only at hSw); (first | (go_simp; done) | (go_simp; with_reducible rfl)))); simp only [Act.put, List.setIfInBounds_toArray, List.set_cons_zero, List.set_cons_succ]
      refine WH.take 4 _ _ rfl (by kernel_rfl) (fun _ _ _ h => h) rfl (by assumption) (fun w' hSw => exec_load_cell _ _ rfl _ rfl (.int .i64 s.no) (HCw.out _ hSw).1 _ Try.underlying3 rfl) ?_; simp only [Act.put, List.setIfInBounds_toArray, List.set_cons_zero, List.set_cons_succ]
      refine WH.take 5 _ ?_ rfl (by kernel_rfl) (fun _ _ _ h => h) rfl (by assumption) ?_ ?_; rotate_left; (focus (intro w hSw; (try dsimp only at hSw); (first | (go_simp; done) | (go_simp; with_reducible rfl)))); simp only [Act.put, List.setIfInBounds_toArray, List.set_cons_zero, List.set_cons_succ]
      refine WH.take 6 _ ?_ rfl (by kernel_rfl) (fun _ _ _ h => h) rfl (by assumption) ?_ ?_; rotate_left; (focus (intro w hSw; (try dsimp only at hSw); (first | (go_simp; done) | (go_simp; with_reducible rfl)))); simp only [Act.put, List.setIfInBounds_toArray, List.set_cons_zero, List.set_cons_succ]
      refine WH.take 7 _ ?_ rfl (by kernel_rfl) (fun _ _ _ h => h) rfl (by assumption) ?_ ?_; rotate_left; (focus (intro w hSw; (try dsimp only at hSw); (first | (go_simp; done) | (go_simp; with_reducible rfl)))); simp only [Act.put, List.setIfInBounds_toArray, List.set_cons_zero, List.set_cons_succ]
      refine WH.take 8 _ ?_ rfl (by kernel_rfl) (fun _ _ _ h => h) rfl (by assumption) ?_ ?_; rotate_left; (focus (intro w hSw; (try dsimp only at hSw); (first | (go_simp; done) | (go_simp; with_reducible rfl)))); simp only [Act.put, List.setIfInBounds_toArray, List.set_cons_zero, List.set_cons_succ]
      refine WH.take 9 _ ?_ rfl (by kernel_rfl) (fun _ _ _ h => h) rfl (by assumption) ?_ ?_; rotate_left; (focus (intro w hSw; (try dsimp only at hSw); (first | (go_simp; done) | (go_simp; with_reducible rfl)))); simp only [Act.put, List.setIfInBounds_toArray, List.set_cons_zero, List.set_cons_succ]
      refine WH.take 10 _ ?_ rfl (by kernel_rfl) (fun _ _ _ h => h) rfl (by assumption) ?_ ?_; rotate_left; (focus (intro w hSw; (try dsimp only at hSw); (first | (go_simp; done) | (go_simp; with_reducible rfl)))); simp only [Act.put, List.setIfInBounds_toArray, List.set_cons_zero, List.set_cons_succ]
      refine WH.take 11 _ ?_ rfl (by kernel_rfl) (fun _ _ _ h => h) rfl (by assumption) ?_ ?_; rotate_left; (focus (intro w hSw; (try dsimp only at hSw); (first | (go_simp; done) | (go_simp; with_reducible rfl)))); simp only [Act.put, List.setIfInBounds_toArray, List.set_cons_zero, List.set_cons_succ]
      refine WH.take 12 _ _ rfl (by kernel_rfl) (fun _ _ _ h => h) rfl (by assumption) (fun w' hSw => exec_load_cell _ _ rfl _ rfl (.int .u8 (v.toNat : Int)) (HCw.out _ hSw).2 _ Try.underlying5 rfl) ?_; simp only [Act.put, List.setIfInBounds_toArray, List.set_cons_zero, List.set_cons_succ]
      refine WH.take 13 _ ?_ rfl (by kernel_rfl) (fun _ _ _ h => h) rfl (by assumption) ?_ ?_; rotate_left; (focus (intro w hSw; (try dsimp only at hSw); (first | (go_simp; done) | (go_simp; with_reducible rfl)))); simp only [Act.put, List.setIfInBounds_toArray, List.set_cons_zero, List.set_cons_succ]
      refine WH.only 14 _ rfl (by kernel_rfl) rfl (fun K hK => ?_)
      refine ow_alloc _ rfl _ Try.stepZero ?_
      apply Stop.go
      intro wN HgN HBa
      have hle := hSn.size
      have hSn := bt hSn HgN.out.1; refine hK _ _ hSn ?_; clear hK; clear K; simp only [Act.put, List.setIfInBounds_toArray, List.set_cons_zero, List.set_cons_succ]
      refine WH.only 15 _ rfl (by kernel_rfl) rfl (fun K hK => ?_)
      refine ow_store _ _ _ rfl _ (#[.int .i64 1, .int .i64 J, .int .u8 (v.toNat : Int)]) rfl rfl _ _ HBa.out Try.stepSize rfl (step_one ⟨1, J, v⟩) ?_
      apply Stop.go
      intro w9 Ho9 HS9
      have hSn := bonly hSn Ho9.out hle; refine hK _ _ hSn ?_; clear hK; clear K; simp only [Act.put, List.set_cons_zero, List.set_cons_succ]
      refine WH.done (by kernel_rfl) ?_
      have HW9 := Lib.hid (bt HW.out hSn)
      have HD9 := Lib.hid (HD.out.ext hSn)
      have HX9 := Lib.hid (HX.out.ext hSn)
      have Hp := Lib.hid (show b < wS.heap.size ∧ g < wS.heap.size ∧ b' < wS.heap.size ∧ g' < wS.heap.size ∧ w.heap.size ≤ wS.heap.size from by
        have h1 := HD.out.lt
        have h2 := HX.out.lt
        have h3 := HW.out.size
        omega)
      obtain ⟨p, HP⟩ : ∃ p, Hid (wS.heap.size = p) := ⟨_, Lib.hid rfl⟩
      rw [HP.out] at HS9 Hp ⊢
      clear hSn HCw Ho9 HBa HgN hle HD HX HW
      by_cases hkF : k < F
      · have dF : decide (k < F) = true := decide_eq_true hkF
        have HDo : ∀ w', DV w' b g (fuseD L F k).dev → Calls Try.prog 11 #[.pointer (some ⟨b, 0, none⟩), .agg #[.int .i64 1, .int .i64 J, .int .u8 (v.toNat : Int)]] w' fun e w'' => e = .returned (.tuple #[.agg (bcells (zeros 256)), .int .i64 0]) ∧ Turn w' w'' b g ∧ DV w'' b g (fuseD (L.set J v) F (k + 1)).dev := fun w' h => by
          have hh := do_any b g (fuseD L F k).dev ⟨1, J, v⟩ w' h (by show (0 : Int) ≤ 1; decide) (by show (1 : Int) ≤ 3; decide) (by show (J : Int) < _; have := HJ20.out; omega) (by show min k F < _; have := HK.out; omega) (by show (0 : Nat) < _; decide)
          rw [Doc.go_dev _ _ (by show (0 : Int) ≤ 1; decide) (by show (1 : Int) ≤ 3; decide), fuseD_on L F k J (by have := HL.out; have := HJ20.out; omega) v hkF] at hh
          exact hh
        have HXo : ∀ w', DV w' b' g' (lastD L (min k F) 0).dev → Calls Try.prog 11 #[.pointer (some ⟨b', 0, none⟩), .agg #[.int .i64 1, .int .i64 J, .int .u8 (v.toNat : Int)]] w' fun e w'' => e = .returned (.tuple #[.agg (bcells (zeros 256)), .int .i64 0]) ∧ Turn w' w'' b' g' ∧ DV w'' b' g' (lastD (L.set J v) (min (k + 1) F) 0).dev := fun w' h => by
          have hh := do_any b' g' (lastD L (min k F) 0).dev ⟨1, J, v⟩ w' h (by show (0 : Int) ≤ 1; decide) (by show (1 : Int) ≤ 3; decide) (by show (J : Int) < _; have := HJ20.out; omega) (by show min k F < _; have := HK.out; omega) (by show (0 : Nat) < _; decide)
          have e1 : min k F + 1 = min (k + 1) F := by omega
          rw [Doc.go_dev _ _ (by show (0 : Int) ≤ 1; decide) (by show (1 : Int) ≤ 3; decide), lastD_write L (min k F) 0 J (by have := HL.out; have := HJ20.out; omega) v, e1] at hh
          exact hh
        clear hkF
        go_wp2_with (first | refine wpList_load_blk rfl _ _ rfl _ rfl _ _ HS9.out _ Try.underlying31 rfl Try.stepSize ?_ | (go_at_call 11; refine (HDo _ HD9.out).mono ?_; rintro _ w10 ⟨rfl, hq10⟩; have Hq10 := Lib.hid hq10; clear hq10) | refine wpList_alloc_row rfl _ rfl _ Try.blockZero ?_)
        apply Stop.go; intro w11 Hg11 Hb11
        go_wp2_with (refine wpList_store_arr rfl _ _ _ rfl _ _ rfl rfl _ _ Hb11.out (Try.blockFits (zeros_len 256)) rfl (oneCell_bcells _) ?_)
        apply Stop.go; intro w12 Ho12 Hb12
        have q10 := Hq10.out
        have l10 := q10.1.size
        have HT12 := Lib.hid ((q10.1.bel Hg11.out.1).new Ho12.out l10)
        have hd10 := q10.2.lt
        have HD12 := Lib.hid ((q10.2.ext Hg11.out.1).turn (Turn.of_only Ho12.out w10.heap.size) (by omega) (by omega) (by omega) (by omega))
        have HX12 := Lib.hid (HX9.out.turn HT12.out (by have := HLow.out; omega) (by have := HLow.out; omega) (by have := HLow.out; omega) (by have := HLow.out; omega))
        have HS12 := Lib.hid (HS9.out.turn HT12.out (by have := Hp.out; omega) (by have := Hp.out; omega))
        have HW12 := Lib.hid (HW9.out.trans (HT12.out.low HW9.out.size HLow.out.1 HLow.out.2.1))
        clear q10 l10 hd10 Hq10 Hg11 Ho12 Hb12 Hb11 HDo HT12 HX9 HD9 HS9 HW9
        go_wp2_with (first | refine wpList_load_blk rfl _ _ rfl _ rfl _ _ HS12.out _ Try.underlying31 rfl Try.stepSize ?_ | (go_at_call 11; refine (HXo _ HX12.out).mono ?_; rintro _ w13 ⟨rfl, hq13⟩; have Hq13 := Lib.hid hq13; clear hq13))
        have HD13 := Lib.hid (HD12.out.turn Hq13.out.1 (by have := HLow.out; omega) (by have := HLow.out; omega) (by have := HLow.out; omega) (by have := HLow.out; omega))
        have HW13 := Lib.hid (HW12.out.trans (Hq13.out.1.low HW12.out.size HLow.out.2.2.1 HLow.out.2.2.2.1))
        go_roundw
        case rel => exact ⟨k + 1, L.set J v, by have := Hlt.out; omega, by first | go_num | rfl, by rw [List.length_set]; exact HL.out, HD13.out, Hq13.out.2, HW13.out⟩
        case measure =>
          have hk40 := HK.out
          have := Hlt.out
          simp [intOf]
          omega
      · have dF : decide (k < F) = false := decide_eq_false hkF
        have HDo : ∀ w', DV w' b g (fuseD L F k).dev → Calls Try.prog 11 #[.pointer (some ⟨b, 0, none⟩), .agg #[.int .i64 1, .int .i64 J, .int .u8 (v.toNat : Int)]] w' fun e w'' => e = .returned (.tuple #[.agg (bcells (zeros 256)), .int .i64 12]) ∧ Turn w' w'' b g ∧ DV w'' b g (fuseD L F (k + 1)).dev := fun w' h => by
          have hh := do_any b g (fuseD L F k).dev ⟨1, J, v⟩ w' h (by show (0 : Int) ≤ 1; decide) (by show (1 : Int) ≤ 3; decide) (by show (J : Int) < _; have := HJ20.out; omega) (by show min k F < _; have := HK.out; omega) (by show (0 : Nat) < _; decide)
          rw [Doc.go_dev _ _ (by show (0 : Int) ≤ 1; decide) (by show (1 : Int) ≤ 3; decide), fuseD_off L F k J (by have := HL.out; have := HJ20.out; omega) v hkF] at hh
          exact hh
        have e1 : min k F = min (k + 1) F := by omega
        rw [e1] at HX9
        clear hkF e1
        go_wp2_with (first | refine wpList_load_blk rfl _ _ rfl _ rfl _ _ HS9.out _ Try.underlying31 rfl Try.stepSize ?_ | (go_at_call 11; refine (HDo _ HD9.out).mono ?_; rintro _ w10 ⟨rfl, hq10⟩; have Hq10 := Lib.hid hq10; clear hq10) | refine wpList_alloc_row rfl _ rfl _ Try.blockZero ?_)
        apply Stop.go; intro w11 Hg11 Hb11
        go_wp2_with (refine wpList_store_arr rfl _ _ _ rfl _ _ rfl rfl _ _ Hb11.out (Try.blockFits (zeros_len 256)) rfl (oneCell_bcells _) ?_)
        apply Stop.go; intro w12 Ho12 Hb12
        have q10 := Hq10.out
        have l10 := q10.1.size
        have HT12 := Lib.hid ((q10.1.bel Hg11.out.1).new Ho12.out l10)
        have hd10 := q10.2.lt
        have HD12 := Lib.hid ((q10.2.ext Hg11.out.1).turn (Turn.of_only Ho12.out w10.heap.size) (by omega) (by omega) (by omega) (by omega))
        have HX12 := Lib.hid (HX9.out.turn HT12.out (by have := HLow.out; omega) (by have := HLow.out; omega) (by have := HLow.out; omega) (by have := HLow.out; omega))
        have HW12 := Lib.hid (HW9.out.trans (HT12.out.low HW9.out.size HLow.out.1 HLow.out.2.1))
        clear q10 l10 hd10 Hq10 Hg11 Ho12 Hb12 Hb11 HDo HT12 HX9 HD9 HS9 HW9
        go_wp2_with fail
        go_roundw
        case rel => exact ⟨k + 1, L, by have := Hlt.out; omega, by first | go_num | rfl, HL.out, HD12.out, HX12.out, HW12.out⟩
        case measure =>
          have hk40 := HK.out
          have := Hlt.out
          simp [intOf]
          omega
    · have d1 : decide (k < m) = false := decide_eq_false hlt
      obtain rfl : k = m := by omega
      have HI1 := image_any b ⟨g, 0, none⟩ (fuseD L F k).dev.bl.length (fuseD L F k).dev wr HD.out.ds HD.out.bks (RK.of_blk HD.out.bks HD.out.blk) (by simp [fuseD, Doc.dev]; have := HL.out; omega) HD.out.len
      have hl1 : (fuseD L F k).dev.bl.length = 20 := by simp [fuseD, Doc.dev]; exact HL.out
      have hl2 : (lastD L (min k F) 0).dev.bl.length = 20 := by simp [lastD, Doc.dev]; exact HL.out
      have hb12 : (lastD L (min k F) 0).dev.bl = (fuseD L F k).dev.bl := rfl
      rw [hl1] at HI1
      have HI2 : ∀ w', Below wr.heap.size wr w' → Calls Try.prog 17 #[.pointer (some ⟨b', 0, none⟩)] w' fun e w'' => ∃ g c', e = .returned (.slice (some ⟨g, 0, none⟩) 20 c') ∧ w'.heap.size ≤ g ∧ g < w''.heap.size ∧ RK w'' (some ⟨g, 0, none⟩) (fuseD L F k).dev.bl ∧ 20 ≤ c' ∧ c' ≤ maxLen ∧ Below w'.heap.size w' w'' := fun w' h => by
        have hx := HX.out.ext h
        have hh := image_any b' ⟨g', 0, none⟩ (lastD L (min k F) 0).dev.bl.length (lastD L (min k F) 0).dev w' hx.ds hx.bks (RK.of_blk hx.bks hx.blk) (by omega) hx.len
        rw [hl2, hb12] at hh
        exact hh
      have HBks := Lib.hid HD.out.bks
      have Hl1 := Lib.hid hl1
      clear hlt hk hwk hl1 hl2 hb12
      obtain ⟨wL, hwL⟩ : ∃ x, x = wr := ⟨_, rfl⟩
      subst hwL
      go_wp2_with (go_at_call 17; refine HI1.mono ?_; rintro _ w5 ⟨ga, ca, rfl, hq5⟩; have Hq5 := Lib.hid hq5; clear hq5 HI1)
      have b5 := Hq5.out.2.2.2.2.2
      have HI3 := HI2 w5 b5
      have HDn : ∀ w', Below wL.heap.size wL w' → Calls Try.prog 13 #[.pointer (some ⟨b, 0, none⟩)] w' fun e w'' => e = .returned (.bool (decide (F < k))) ∧ w'' = w' := fun w' h => down_any b _ _ w' (HD.out.ext h).ds
      have dkF : decide (F < k) = decide ((F : Int) < k) := by rw [decide_eq_decide]; omega
      obtain ⟨B, HB⟩ : ∃ B, Hid (decide (F < k) = B) := ⟨_, Lib.hid rfl⟩
      have HB' : decide ((F : Int) < k) = B := by rw [← dkF]; exact HB.out
      have HB2 : decide (F < k) = B := HB.out
      clear HI2 b5 dkF
      rw [HB.out] at HDn
      go_wp2_with (first | (go_at_call 17; refine HI3.mono ?_; rintro _ w6 ⟨gb, cb, rfl, hq6⟩; have Hq6 := Lib.hid hq6; have Hb6 := Lib.hid (bt Hq5.out.2.2.2.2.2 hq6.2.2.2.2.2); clear hq6 HI3) | (go_at_call 13; refine (HDn _ Hb6.out).mono ?_; rintro _ w6 ⟨rfl, rfl⟩))
      have Ra := Lib.hid (Hq5.out.2.2.1.below Hq6.out.2.2.2.2.2)
      have Rb := Lib.hid Hq6.out.2.2.1
      have HW6 := Lib.hid (bt HW.out Hb6.out)
      clear HDn
      go_loopw [13] (fun i wx => ∃ j : Nat, j ≤ 20 ∧ i = .int .i64 j ∧ Below w6.heap.size w6 wx) (fun i _ => 20 - (intOf i).toNat)
      case atStart => exact ⟨0, Nat.zero_le _, rfl, Below.refl _ _⟩
      case round =>
        obtain ⟨j, hj, rfl, hbx⟩ := hrel
        have HBx := Lib.hid hbx
        clear hbx
        by_cases hjl : j < 20
        · have d2 : decide (j < 20) = true := decide_eq_true hjl
          have d2' : decide ((j : Int) < 20) = true := decide_eq_true (by omega)
          have z2 : (j : Int) < 20 := by omega
          have hwj1 : IntKind.i64.wrap ((j : Int) + 1) = (j : Int) + 1 := IntWalk.i64_in _ (by omega)
          have hjb : j < (fuseD L F k).dev.bl.length := by have := Hl1.out; omega
          have HL1 := Lib.hid (HBks.out.get hjb)
          have HRa := Lib.hid (Ra.out.below HBx.out)
          have HRb := Lib.hid (Rb.out.below HBx.out)
          have Hj := Lib.hid hjl
          clear hjl hj
          go_wp2_with fail
          refine WH.start (S := fun w' : World => Below wr.heap.size wr w') (List.replicate 9 false) 9 rfl rfl (by kernel_rfl) (bdrew wr 1) (fun hSn => ?_)
          simp only [List.replicate]
          obtain ⟨wS, hwS⟩ : ∃ x, wr.drew = x := ⟨_, rfl⟩
          rw [hwS] at hSn ⊢
          clear hwS
          refine WH.take 0 _ ?_ rfl (by kernel_rfl) (fun _ _ _ h => h) rfl (by assumption) ?_ ?_; rotate_left; (focus (intro w hSw; (try dsimp only at hSw); (first | (go_simp; done) | (go_simp; with_reducible rfl)))); simp only [Act.put, List.setIfInBounds_toArray, List.set_cons_zero, List.set_cons_succ]
          refine WH.take 1 _ ?_ rfl (by kernel_rfl) (fun _ _ _ h => h) rfl (by assumption) ?_ ?_; rotate_left; (focus (intro w hSw; (try dsimp only at hSw); (first | (go_simp; done) | (go_simp; with_reducible rfl)))); simp only [Act.put, List.setIfInBounds_toArray, List.set_cons_zero, List.set_cons_succ]
          refine WH.take 2 _ ?_ rfl (by kernel_rfl) (fun _ _ _ h => h) rfl (by assumption) ?_ ?_; rotate_left; (focus (intro w hSw; (try dsimp only at hSw); (first | (go_simp; done) | (go_simp; with_reducible rfl)))); simp only [Act.put, List.setIfInBounds_toArray, List.set_cons_zero, List.set_cons_succ]
          refine WH.take 3 _ _ rfl (by kernel_rfl) (fun _ _ _ h => h) rfl (by assumption) (fun w' hSw => exec_load_bk _ _ rfl ⟨ga, 0, none⟩ j (by rw [addr_add0]; rfl) (fuseD L F k).dev.bl HBks.out hjb (HRa.out.below hSw) _ Try.underlying35 rfl Try.blockSize) ?_; simp only [Act.put, List.setIfInBounds_toArray, List.set_cons_zero, List.set_cons_succ]
          refine WH.take 4 _ ?_ rfl (by kernel_rfl) (fun _ _ _ h => h) rfl (by assumption) ?_ ?_; rotate_left; (focus (intro w hSw; (try dsimp only at hSw); (first | (go_simp; done) | (go_simp; with_reducible rfl)))); simp only [Act.put, List.setIfInBounds_toArray, List.set_cons_zero, List.set_cons_succ]
          refine WH.take 5 _ ?_ rfl (by kernel_rfl) (fun _ _ _ h => h) rfl (by assumption) ?_ ?_; rotate_left; (focus (intro w hSw; (try dsimp only at hSw); (first | (go_simp; done) | (go_simp; with_reducible rfl)))); simp only [Act.put, List.setIfInBounds_toArray, List.set_cons_zero, List.set_cons_succ]
          refine WH.take 6 _ ?_ rfl (by kernel_rfl) (fun _ _ _ h => h) rfl (by assumption) ?_ ?_; rotate_left; (focus (intro w hSw; (try dsimp only at hSw); (first | (go_simp; done) | (go_simp; with_reducible rfl)))); simp only [Act.put, List.setIfInBounds_toArray, List.set_cons_zero, List.set_cons_succ]
          refine WH.take 7 _ _ rfl (by kernel_rfl) (fun _ _ _ h => h) rfl (by assumption) (fun w' hSw => exec_load_bk _ _ rfl ⟨gb, 0, none⟩ j (by rw [addr_add0]; rfl) (fuseD L F k).dev.bl HBks.out hjb (HRb.out.below hSw) _ Try.underlying35 rfl Try.blockSize) ?_; simp only [Act.put, List.setIfInBounds_toArray, List.set_cons_zero, List.set_cons_succ]
          refine WH.take 8 _ _ rfl (by kernel_rfl) (fun _ _ _ h => h) rfl (by assumption) (fun w' hSw => exec_neq_arr _ _ _ _ rfl (by kernel_rfl) _ _ Try.underlying35 Try.underlying5 Try.byteSize ((fuseD L F k).dev.bl[j]) ((fuseD L F k).dev.bl[j]) rfl rfl HL1.out HL1.out false (by simp)) ?_; simp only [Act.put, List.setIfInBounds_toArray, List.set_cons_zero, List.set_cons_succ]
          refine WH.done (by kernel_rfl) ?_
          have HS := Lib.hid hSn
          clear hSn
          go_wp2_with fail
          go_roundw
          case rel => exact ⟨j + 1, by have := Hj.out; omega, by first | go_num | rfl, bt HBx.out HS.out⟩
          case measure =>
            have := Hj.out
            simp [intOf]
            omega
        · have d2 : decide (j < 20) = false := decide_eq_false hjl
          have d2' : decide ((j : Int) < 20) = false := decide_eq_false (by omega)
          clear hjl hj
          go_wp2_with fail
          refine (works_any _).mono ?_; rintro e w9 ⟨rfl, hb9⟩
          go_wp2_with fail
          go_ret
          exact ⟨rfl, bt HW6.out (bt HBx.out hb9)⟩

end Go.Proofs.Ytefienjcdchebaa
