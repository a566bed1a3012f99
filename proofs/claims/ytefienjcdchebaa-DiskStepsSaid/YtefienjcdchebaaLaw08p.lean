/-
  The walk of DiskSteps.
-/
import Derived.Test.YtefienjcdchebaaLaw08s
import Derived.BigQuiet
import Derived.Deep.QuietTactic
namespace Go.Proofs.Ytefienjcdchebaa
open Go.RowKit

set_option maxHeartbeats 4000000 in
set_option maxRecDepth 100000 in
theorem diskSteps_any (n : Int) (hlo : -9223372036854775808 ≤ n) (hhi : n < 9223372036854775808) (A : Option Addr) (m c : Nat) (l : List St3) (hl : l.length = m) (hm : m ≤ maxLen) (w : World) (hr : R3L w A l) :
    Calls Try.prog 3 #[.int .i64 n, .slice A m c] w fun e w' => e = .returned (.bool true) ∧ Below w.heap.size w w' := by
  unfold maxLen at hm
  have Hl := Lib.hid hl
  have HR := Lib.hid hr
  clear hl hr
  by_cases h40 : 40 < m
  · have d0 : decide ((40 : Int) < m) = true := decide_eq_true (by omega)
    have d0' : decide (40 < m) = true := decide_eq_true h40
    go_enter Try.func3, Try.ntmps3
    go_wp2_with fail
    refine (works_any _).mono ?_; rintro e w9 ⟨rfl, hb9⟩
    go_wp2_with fail
    go_ret
    exact ⟨rfl, hb9⟩
  have d0 : decide ((40 : Int) < m) = false := decide_eq_false (by omega)
  have d0' : decide (40 < m) = false := decide_eq_false h40
  have Hm := Lib.hid (show m ≤ 40 by omega)
  clear h40 hm
  have HNle := Lib.hid (devSize_le n)
  go_enter Try.func3, Try.ntmps3
  go_wp2_with fail
  refine (dnew_any n hlo hhi _).mono ?_; rintro e w1 ⟨b, g, rfl, hb1, hg1, hd1, hbw1⟩
  have Hbg := Lib.hid (And.intro hb1 hg1)
  have D1 := Lib.hid hd1
  have W1 := Lib.hid hbw1
  clear hb1 hg1 hd1 hbw1
  go_wp2_with fail
  refine (rnew_any n hlo hhi _).mono ?_; rintro e w2 ⟨h, rfl, g1, g2, hrb, hbw2⟩
  have D2 := Lib.hid (D1.out.ext hbw2)
  have W2 := Lib.hid (W1.out.trans (hbw2.mono W1.out.size))
  have R2 := Lib.hid hrb
  have Hh := Lib.hid (And.intro g1 g2)
  have L1 := Lib.hid D1.out.lt
  clear hrb hbw2 g1 g2
  go_wp2_with (refine wpList_alloc_row rfl _ rfl _ Try.docZero ?_)
  apply Stop.go; intro w3 Hg3 Hb3
  go_wp2_with (refine wpList_store_arr rfl _ _ _ rfl _ _ rfl rfl _ _ Hb3.out Try.docSize rfl (xcells_one _ _ _ _ _ _ _) ?_)
  apply Stop.go; intro w4 Ho4 Hb4
  obtain ⟨q, Hq⟩ : ∃ q, Hid (w2.heap.size = q) := ⟨_, Lib.hid rfl⟩
  obtain ⟨N, HN⟩ : ∃ N, Hid (devSize n = N) := ⟨_, Lib.hid rfl⟩
  have s3 := Hg3.out.1.size
  have HB4 : Hid (Both w4 w.heap.size b g q (Doc.new n) ⟨h, 0, none⟩ (devSize n) N 0) := Lib.hid (by
    have hl1 := L1.out
    have hh := Hh.out
    have hbg := Hbg.out
    have hq := Hq.out
    have w1s := W1.out.size
    have hz : (zeros (devSize n)).length = devSize n := zeros_len _
    have t := Turn.of_only Ho4.out w2.heap.size
    have d := (D2.out.ext Hg3.out.1).turn t (by omega) (by omega) (by omega) (by omega)
    rw [← Doc.new_dev] at d
    refine ⟨d, ?_, (R2.out.below Hg3.out.1).turn t (by show h ≠ _; omega) (by show h ≠ _; omega), by rw [← HN.out]; exact hz, ?_, ⟨by show h ≠ _; omega, by show h ≠ _; omega, by show h ≠ _; omega, ?_⟩, ⟨Nat.le_refl _, Nat.le_refl _⟩, by omega, ⟨hbg.1, hbg.2, by omega⟩⟩
    · rw [← hq]
      have hx : (Doc.new n).cells ⟨h, 0, none⟩ (devSize n) = xcells (some ⟨h, 0, none⟩) (devSize n) (devSize n) (-1) false 0 0 := by
        show xcells _ (zeros (devSize n)).length _ _ _ _ _ = _
        rw [hz]
        rfl
      rw [hx]
      exact Hb4.out
    · have := HNle.out
      rw [← HN.out]
      unfold maxLen
      omega
    · show h < _
      rw [Ho4.out.size]
      omega)
  have W4 := Lib.hid (bonly (W2.out.trans (Hg3.out.1.mono W2.out.size)) Ho4.out (by have := Hq.out; have := W2.out.size; omega))
  rw [HN.out] at HNle
  rw [Hq.out]
  clear Hb4 Ho4 Hg3 Hb3 s3 R2 Hh L1 W2 D2 W1 D1 Hbg Hq hlo hhi
  go_wp2_with fail
  go_loopw [7] (fun i wr => ∃ (k : Nat) (x : Doc) (ad : Addr) (cc : Nat), k ≤ m ∧ i = .int .i64 k ∧ Both wr w.heap.size b g q x ad cc N k ∧ Below w.heap.size w wr) (fun i _ => m - (intOf i).toNat)
  case atStart => exact ⟨0, _, _, _, Nat.zero_le _, rfl, HB4.out, W4.out⟩
  case round =>
    obtain ⟨k, x, ad, cc, hk, rfl, hbo, hbw⟩ := hrel
    have HB := Lib.hid hbo
    have HW := Lib.hid hbw
    clear hbo hbw
    have HK := Lib.hid (show k ≤ 40 by have := Hm.out; omega)
    have hwk : IntKind.i64.wrap ((k : Int) + 1) = (k : Int) + 1 := IntWalk.i64_in _ (by have := HK.out; omega)
    by_cases hlt : k < m
    · have hkl : k < l.length := by have := Hl.out; omega
      have d1 : decide (k < m) = true := decide_eq_true hlt
      have z1 : (k : Int) < m := by omega
      have hrw := HR.out.below HW.out
      obtain ⟨ad0, rfl⟩ := hrw.addr hkl
      have HC := Lib.hid (hrw.cells hkl)
      have Hno := Lib.hid (hrw.bounds hkl)
      obtain ⟨s, Hs⟩ : ∃ s, Hid (l[k] = s) := ⟨_, Lib.hid rfl⟩
      rw [Hs.out] at HC Hno
      have Hlt := Lib.hid hlt
      clear hrw hlt hk
      go_wp2_with (first | refine wpList_load_cells rfl _ _ rfl (ad0.add (k * 3)) rfl _ Try.underlying31 [.int .i64 s.do_, .int .i64 s.no, .int .u8 (s.b.toNat : Int)] Try.stepSize HC.out ?_ | refine wpList_alloc_row rfl _ rfl _ Try.stepZero ?_)
      apply Stop.go; intro w5 Hg5 Hb5
      go_wp2_with (refine wpList_store_arr rfl _ _ _ rfl _ _ rfl rfl _ _ Hb5.out Try.stepSize rfl (step_one s) ?_)
      apply Stop.go; intro w6 Ho6 HS6
      have hl0 := HB.out.lt
      have ha0 := HB.out.blk.2.2.2
      have HB6 := Lib.hid ((HB.out.ext Hg5.out.1).other Ho6.out (by omega) (by omega) (by omega) (by omega))
      have HW6 := Lib.hid (bonly (bt HW.out Hg5.out.1) Ho6.out HW.out.size)
      have hbs := Lib.hid (And.intro hl0 ha0)
      have HZ6 := Lib.hid (show w.heap.size ≤ wr.heap.size from HW.out.size)
      obtain ⟨p, Hp⟩ : ∃ p, Hid (wr.heap.size = p) := ⟨_, Lib.hid rfl⟩
      rw [Hp.out] at HS6 hbs HZ6 ⊢
      clear hl0 ha0 Ho6 Hb5 Hg5 HW HB HC
      obtain ⟨c0, c1, c2⟩ := cells3_of HS6.out
      by_cases hin : 0 ≤ s.do_ ∧ s.do_ ≤ 3
      rotate_left
      focus (
        by_cases hneg : s.do_ < 0
        focus (
          have d2 : decide (s.do_ < 0) = true := decide_eq_true hneg
          clear hneg hin
          go_wp2_with fail)
        rotate_left
        focus (
          have d2 : decide (s.do_ < 0) = false := decide_eq_false hneg
          have d3 : decide (3 < s.do_) = true := decide_eq_true (by omega)
          clear hneg hin
          go_wp2_with fail)
        rotate_left
        all_goals
          go_roundw
          case rel =>
            have hk40 := HK.out
            exact ⟨k + 1, x, ad, cc, by have := Hlt.out; omega, by first | go_num | rfl, HB6.out.more, HW6.out⟩
          case measure =>
            have hk40 := HK.out
            have := Hlt.out
            simp [intOf]
            omega)
      have d2 : decide (s.do_ < 0) = false := decide_eq_false (by omega)
      have d3 : decide (3 < s.do_) = false := decide_eq_false (by omega)
      obtain ⟨⟨y, v, E⟩, Hy⟩ : ∃ r, Hid (x.go s = r) := ⟨_, Lib.hid rfl⟩
      have hxl := HB6.out.len
      have hcn := HB6.out.cnt
      have hK := HK.out
      have hcp := HB6.out.cap
      have hNl := HNle.out
      have HGo := rgo_any x s ad cc w6 HB6.out.rb (by omega) (by omega) hin.1 hin.2 HB6.out.dv.fuse (by omega) (by omega) HB6.out.blk.2.2.2
      have HDo : ∀ w', DV w' b g x.dev → Calls Try.prog 11 #[.pointer (some ⟨b, 0, none⟩), .agg #[.int .i64 s.do_, .int .i64 s.no, .int .u8 (s.b.toNat : Int)]] w' fun e w'' => e = .returned (.tuple #[.agg (bcells (full v)), .int .i64 E]) ∧ Turn w' w'' b g ∧ DV w'' b g y.dev := fun w' h => by
        have hh := do_any b g x.dev s w' h hin.1 hin.2 Hno.out (by show x.wr < _; omega) (by show x.rd < _; omega)
        rw [Doc.go_dev x s hin.1 hin.2, Hy.out] at hh
        exact hh
      have hlen := Doc.go_len x s
      have hcnt := Doc.go_cnt x s
      rw [Hy.out] at HGo hlen hcnt
      simp only at HGo hlen hcnt
      rw [hxl] at HGo hlen
      have Hlen := Lib.hid hlen
      have Hcnt := Lib.hid (show y.wr ≤ k + 1 ∧ y.rd ≤ k + 1 by omega)
      clear hlen hcnt hxl hcn hK hcp hNl hin
      go_wp2_with (first | refine wpList_load_blk rfl _ _ rfl _ rfl _ _ HB6.out.cells _ Try.underlying28 rfl Try.docSize ?_ | refine wpList_load_blk rfl _ _ rfl _ rfl _ _ HS6.out _ Try.underlying31 rfl Try.stepSize ?_ | (go_at_call 10; refine HGo.mono ?_; rintro _ w7 ⟨ad', cc', rfl, hq7⟩; have Hq7 := Lib.hid hq7; clear hq7) | refine wpList_alloc_row rfl _ rfl _ Try.docZero ?_)
      apply Stop.go; intro w8 Hg8 Hb8
      go_wp2_with (refine wpList_store_arr rfl _ _ _ rfl _ (y.cells ad' cc') rfl rfl _ _ Hb8.out Try.docSize rfl (xcells_one _ _ _ _ _ _ _) ?_)
      apply Stop.go; intro w9 Ho9 Hb9
      clear HGo c0 c1 c2
      have q7 := Hq7.out
      have HB9 := Lib.hid (((HB6.out.ext q7.2.2.2.2.2).ext Hg8.out.1).other Ho9.out (by have := HB6.out.lt; have := q7.2.2.2.2.2.size; omega) (by have := HB6.out.lt; have := q7.2.2.2.2.2.size; omega) (by have := HB6.out.lt; have := q7.2.2.2.2.2.size; omega) (by have := HB6.out.blk; have := q7.2.2.2.2.2.size; omega))
      have HS9 := Lib.hid (((HS6.out.ext q7.2.2.2.2.2).ext Hg8.out.1).only Ho9.out (by have := HS6.out.lt; have := q7.2.2.2.2.2.size; omega))
      have R9 := Lib.hid ((q7.1.below Hg8.out.1).turn (Turn.of_only Ho9.out w7.heap.size) (by have := q7.2.2.2.2.1; omega) (by have := q7.2.2.2.2.1; omega))
      have HW9 := Lib.hid (bonly (bt (HW6.out.trans (q7.2.2.2.2.2.mono HW6.out.size)) Hg8.out.1) Ho9.out (by have := HW6.out.size; have := q7.2.2.2.2.2.size; omega))
      have Hs9 := Lib.hid (show w6.heap.size ≤ w7.heap.size ∧ w7.heap.size < w9.heap.size from ⟨q7.2.2.2.2.2.size, by have := Ho9.out.size; have := Hg8.out.2; omega⟩)
      have Had := Lib.hid (show ad'.block ≠ b ∧ ad'.block ≠ g ∧ ad'.block ≠ q ∧ ad'.block < w7.heap.size ∧ N ≤ cc' ∧ cc' ≤ maxLen from by
        have h1 := HB6.out.blk
        have h2 := HB6.out.lt
        rcases q7.2.2.2.1 with rfl | h3
        · exact ⟨h1.1, h1.2.1, h1.2.2.1, q7.2.2.2.2.1, q7.2.1, q7.2.2.1⟩
        · exact ⟨by omega, by omega, by omega, q7.2.2.2.2.1, q7.2.1, q7.2.2.1⟩)
      obtain ⟨r, Hr⟩ : ∃ r, Hid (w7.heap.size = r) := ⟨_, Lib.hid rfl⟩
      have HLq := Lib.hid HB6.out.lt
      clear q7 Ho9 Hg8 Hb8 Hq7
      rw [Hr.out] at Hb9 Hs9 Had ⊢
      have HQ9 := Lib.hid HB9.out.cells
      go_wp2_with (first | refine wpList_load_blk rfl _ _ rfl _ rfl _ _ Hb9.out _ Try.underlying28 rfl Try.docSize ?_ | refine wpList_store_arr rfl _ _ _ rfl _ (y.cells ad' cc') rfl rfl _ _ HQ9.out Try.docSize rfl (xcells_one _ _ _ _ _ _ _) ?_)
      apply Stop.go; intro w10 Ho10 Hb10
      have D10 := Lib.hid (HB9.out.dv.turn (Turn.of_only Ho10.out q) (Ne.symm HB9.out.ne.1) (Ne.symm HB9.out.ne.1) (Ne.symm HB9.out.ne.2) (Ne.symm HB9.out.ne.2))
      have R10 := Lib.hid (R9.out.turn (Turn.of_only Ho10.out q) Had.out.2.2.1 Had.out.2.2.1)
      have HS10 := Lib.hid (HS9.out.only Ho10.out (by have := HLq.out; have := hbs.out; have := HB9.out.lt; omega))
      have HW10 := Lib.hid (bonly HW9.out Ho10.out HB9.out.low.2.2)
      have Hs10 := Lib.hid (show w10.heap.size = w9.heap.size from Ho10.out.size)
      have HLow := Lib.hid HB9.out.low
      have HNe := Lib.hid HB9.out.ne
      clear Hb9 HB9 HS9 R9 HW9 HQ9 Ho10 HB6 HW6 HS6
      go_wp2_with (first | refine wpList_load_blk rfl _ _ rfl _ rfl _ _ HS10.out _ Try.underlying31 rfl Try.stepSize ?_ | (go_at_call 11; refine (HDo _ D10.out).mono ?_; rintro _ w11 ⟨rfl, hq11⟩; have Hq11 := Lib.hid hq11; clear hq11) | refine wpList_alloc_row rfl _ rfl _ Try.blockZero ?_)
      apply Stop.go; intro w12 Hg12 Hb12
      go_wp2_with (refine wpList_store_arr rfl _ _ _ rfl _ _ rfl rfl _ _ Hb12.out (Try.blockFits (full_len v)) (by rw [bcells_size, bcells_size, full_len, zeros_len]) (oneCell_bcells _) ?_)
      apply Stop.go; intro w13 Ho13 Hb13
      clear HDo
      have hs11 := Hq11.out.1.size
      have HB13 : Hid (Both w13 w.heap.size b g q y ad' cc' N (k + 1)) := Lib.hid (by
        have h1 := HNe.out
        have h2 := Had.out
        have h3 := HLq.out
        have h4 := Hs10.out
        have h5 := Hs9.out
        have t := Turn.of_only Ho13.out w11.heap.size
        exact ⟨(Hq11.out.2.ext Hg12.out.1).turn t (by omega) (by omega) (by omega) (by omega), ((Hb10.out.turn Hq11.out.1 h1.1 h1.2).ext Hg12.out.1).only Ho13.out (by omega),
          ((R10.out.turn Hq11.out.1 h2.1 h2.2.1).below Hg12.out.1).turn t (by omega) (by omega), Hlen.out, h2.2.2.2.2, ⟨h2.1, h2.2.1, h2.2.2.1, by have := Ho13.out.size; have := Hg12.out.2; omega⟩, Hcnt.out, h1, HLow.out⟩)
      have HW13 := Lib.hid (bonly (bt (HW10.out.trans (Hq11.out.1.low HW10.out.size HLow.out.1 HLow.out.2.1)) Hg12.out.1) Ho13.out (by have := HW10.out.size; omega))
      obtain ⟨u, Hu⟩ : ∃ u, Hid (w11.heap.size = u) := ⟨_, Lib.hid rfl⟩
      rw [Hu.out] at Hb13 ⊢
      clear hs11 Hq11 Hg12 Ho13 Hb12 Hb10 D10 R10 HS10 HW10 Hs10 HLow HNe HLq Had Hs9 Hr hbs HZ6 Hp
      have HFu := fun w' => full_any v w'
      have HDn : ∀ w', Below w13.heap.size w13 w' → Calls Try.prog 13 #[.pointer (some ⟨b, 0, none⟩)] w' fun e w'' => e = .returned (.bool y.off) ∧ w'' = w' := fun w' h => down_any b _ _ w' (HB13.out.dv.ext h).ds
      have HWr : ∀ w', Below w13.heap.size w13 w' → Calls Try.prog 14 #[.pointer (some ⟨b, 0, none⟩)] w' fun e w'' => e = .returned (.int .i64 (y.wr : Int)) ∧ w'' = w' := fun w' h => writes_any b _ _ w' (HB13.out.dv.ext h).ds
      have HRd : ∀ w', Below w13.heap.size w13 w' → Calls Try.prog 15 #[.pointer (some ⟨b, 0, none⟩)] w' fun e w'' => e = .returned (.int .i64 (y.rd : Int)) ∧ w'' = w' := fun w' h => reads_any b _ _ w' (HB13.out.dv.ext h).ds
      have HSz : ∀ w', Below w13.heap.size w13 w' → Calls Try.prog 16 #[.pointer (some ⟨b, 0, none⟩)] w' fun e w'' => e = .returned (.int .i64 (y.l.length : Int)) ∧ w'' = w' := fun w' h => by
        have hh := size_any b _ _ _ _ w' (HB13.out.dv.ext h).ds
        have hb : y.dev.bl.length = y.l.length := by simp [Doc.dev]
        rw [hb] at hh
        exact hh
      have HQ13 : Hid (Blk w13 q 28 #[.slice (some ad') y.l.length cc', .int .i64 y.fuse, .bool y.off, .int .i64 y.wr, .int .i64 y.rd]) := Lib.hid HB13.out.cells
      go_wp2_with fail
      refine WH.start (S := fun w' : World => Below w13.heap.size w13 w') (List.replicate 38 false) 38 rfl rfl (by kernel_rfl) (bdrew w13 1) (fun hSn => ?_)
      simp only [List.replicate]
      obtain ⟨wS, hwS⟩ : ∃ x, w13.drew = x := ⟨_, rfl⟩
      rw [hwS] at hSn ⊢
      clear hwS
      refine WH.take 0 _ ?_ rfl (by kernel_rfl) (fun _ _ _ h => h) rfl (by assumption) ?_ ?_; rotate_left; (focus (intro w hSw; (try dsimp only at hSw); (first | (go_simp; done) | (go_simp; with_reducible rfl)))); simp only [Act.put, List.setIfInBounds_toArray, List.set_cons_zero, List.set_cons_succ]
      refine WH.take 1 _ ?_ rfl (by kernel_rfl) (fun _ _ _ h => h) rfl (by assumption) ?_ ?_; rotate_left; (focus (intro w hSw; (try dsimp only at hSw); (first | (go_simp; done) | (go_simp; with_reducible rfl)))); simp only [Act.put, List.setIfInBounds_toArray, List.set_cons_zero, List.set_cons_succ]
      refine WH.take 2 _ ?_ rfl (by kernel_rfl) (fun _ _ _ h => h) rfl (by assumption) ?_ ?_; rotate_left; (focus (intro w hSw; (try dsimp only at hSw); (first | (go_simp; done) | (go_simp; with_reducible rfl)))); simp only [Act.put, List.setIfInBounds_toArray, List.set_cons_zero, List.set_cons_succ]
      refine WH.take 3 _ ?_ rfl (by kernel_rfl) (fun _ _ _ h => h) rfl (by assumption) ?_ ?_; rotate_left; (focus (intro w hSw; (try dsimp only at hSw); (first | (go_simp; done) | (go_simp; with_reducible rfl)))); simp only [Act.put, List.setIfInBounds_toArray, List.set_cons_zero, List.set_cons_succ]
      refine WH.take 4 _ _ rfl (by kernel_rfl) (fun _ _ _ h => h) rfl (by assumption) (fun w' hSw => exec_load_blk _ _ rfl _ rfl _ _ (Hb13.out.ext hSw) _ (Try.underlying35) rfl (Try.blockFits (full_len v))) ?_; simp only [Act.put, List.setIfInBounds_toArray, List.set_cons_zero, List.set_cons_succ]
      refine WH.take 5 _ ?_ rfl (by kernel_rfl) (fun _ _ _ h => h) rfl (by assumption) ?_ ?_; rotate_left; (focus (intro w hSw; (try dsimp only at hSw); (first | (go_simp; done) | (go_simp; with_reducible rfl)))); simp only [Act.put, List.setIfInBounds_toArray, List.set_cons_zero, List.set_cons_succ]
      refine WH.only 6 _ rfl (by kernel_rfl) rfl (fun K hK => ?_)
      go_simp; refine (HFu _).mono ?_; rintro e wF ⟨rfl, hbF⟩; go_simp
      have hSn := bt hSn hbF; refine hK _ _ hSn ?_; clear hK; clear K; simp only [List.set_cons_zero, List.set_cons_succ]
      refine WH.take 7 _ _ rfl (by kernel_rfl) (fun _ _ _ h => h) rfl (by assumption) (fun w' hSw => exec_neq_arr _ _ _ _ rfl (by kernel_rfl) _ _ Try.underlying35 Try.underlying5 Try.byteSize (full v) (full v) rfl rfl (full_len v) (full_len v) false (by simp)) ?_; simp only [Act.put, List.setIfInBounds_toArray, List.set_cons_zero, List.set_cons_succ]
      refine WH.take 8 _ ?_ rfl (by kernel_rfl) (fun _ _ _ h => h) rfl (by assumption) ?_ ?_; rotate_left; (focus (intro w hSw; (try dsimp only at hSw); (first | (go_simp; done) | (go_simp; with_reducible rfl)))); simp only [Act.put, List.setIfInBounds_toArray, List.set_cons_zero, List.set_cons_succ]
      refine WH.take 9 _ ?_ rfl (by kernel_rfl) (fun _ _ _ h => h) rfl (by assumption) ?_ ?_; rotate_left; (focus (intro w hSw; (try dsimp only at hSw); (first | (go_simp; done) | (go_simp; with_reducible rfl)))); simp only [Act.put, List.setIfInBounds_toArray, List.set_cons_zero, List.set_cons_succ]
      refine WH.take 10 _ ?_ rfl (by kernel_rfl) (fun _ _ _ h => h) rfl (by assumption) ?_ ?_; rotate_left; (focus (intro w hSw; (try dsimp only at hSw); (first | (go_simp; done) | (go_simp; with_reducible rfl)))); simp only [Act.put, List.setIfInBounds_toArray, List.set_cons_zero, List.set_cons_succ]
      refine WH.take 12 _ ?_ rfl (by kernel_rfl) (fun _ _ _ h => h) rfl (by assumption) ?_ ?_; rotate_left; (focus (intro w hSw; (try dsimp only at hSw); (first | (go_simp; done) | (go_simp; with_reducible rfl)))); simp only [Act.put, List.setIfInBounds_toArray, List.set_cons_zero, List.set_cons_succ]
      refine WH.take 13 _ _ rfl (by kernel_rfl) (fun _ _ _ h => h) rfl (by assumption) (fun w' hSw => exec_load_cell _ _ rfl _ rfl (.bool y.off) ((HQ13.out.ext hSw).cell 2) _ (Try.underlying4) rfl) ?_; simp only [Act.put, List.setIfInBounds_toArray, List.set_cons_zero, List.set_cons_succ]
      refine WH.only 11 _ rfl (by kernel_rfl) rfl (fun K hK => ?_)
      go_simp; refine (HDn _ hSn).mono ?_; rintro e wG ⟨rfl, rfl⟩; go_simp
      have hSn := hSn; refine hK _ _ hSn ?_; clear hK; clear K; simp only [List.set_cons_zero, List.set_cons_succ]
      refine WH.take 14 _ ?_ rfl (by kernel_rfl) (fun _ _ _ h => h) rfl (by assumption) ?_ ?_; rotate_left; (focus (intro w hSw; (try dsimp only at hSw); (first | (go_simp; done) | (go_simp; with_reducible rfl)))); simp only [Act.put, List.setIfInBounds_toArray, List.set_cons_zero, List.set_cons_succ]
      refine WH.take 15 _ ?_ rfl (by kernel_rfl) (fun _ _ _ h => h) rfl (by assumption) ?_ ?_; rotate_left; (focus (intro w hSw; (try dsimp only at hSw); (first | (go_simp; done) | (go_simp; with_reducible rfl)))); simp only [Act.put, List.setIfInBounds_toArray, List.set_cons_zero, List.set_cons_succ]
      refine WH.take 16 _ ?_ rfl (by kernel_rfl) (fun _ _ _ h => h) rfl (by assumption) ?_ ?_; rotate_left; (focus (intro w hSw; (try dsimp only at hSw); (first | (go_simp; done) | (go_simp; with_reducible rfl)))); simp only [Act.put, List.setIfInBounds_toArray, List.set_cons_zero, List.set_cons_succ]
      refine WH.take 17 _ ?_ rfl (by kernel_rfl) (fun _ _ _ h => h) rfl (by assumption) ?_ ?_; rotate_left; (focus (intro w hSw; (try dsimp only at hSw); (first | (go_simp; done) | (go_simp; with_reducible rfl)))); simp only [Act.put, List.setIfInBounds_toArray, List.set_cons_zero, List.set_cons_succ]
      refine WH.take 19 _ ?_ rfl (by kernel_rfl) (fun _ _ _ h => h) rfl (by assumption) ?_ ?_; rotate_left; (focus (intro w hSw; (try dsimp only at hSw); (first | (go_simp; done) | (go_simp; with_reducible rfl)))); simp only [Act.put, List.setIfInBounds_toArray, List.set_cons_zero, List.set_cons_succ]
      refine WH.take 20 _ _ rfl (by kernel_rfl) (fun _ _ _ h => h) rfl (by assumption) (fun w' hSw => exec_load_cell _ _ rfl _ rfl (.int .i64 (y.wr : Int)) ((HQ13.out.ext hSw).cell 3) _ (Try.underlying3) rfl) ?_; simp only [Act.put, List.setIfInBounds_toArray, List.set_cons_zero, List.set_cons_succ]
      refine WH.only 18 _ rfl (by kernel_rfl) rfl (fun K hK => ?_)
      go_simp; refine (HWr _ hSn).mono ?_; rintro e wH ⟨rfl, rfl⟩; go_simp
      have hSn := hSn; refine hK _ _ hSn ?_; clear hK; clear K; simp only [List.set_cons_zero, List.set_cons_succ]
      refine WH.take 21 _ ?_ rfl (by kernel_rfl) (fun _ _ _ h => h) rfl (by assumption) ?_ ?_; rotate_left; (focus (intro w hSw; (try dsimp only at hSw); (first | (go_simp; done) | (go_simp; with_reducible rfl)))); simp only [Act.put, List.setIfInBounds_toArray, List.set_cons_zero, List.set_cons_succ]
      refine WH.take 22 _ ?_ rfl (by kernel_rfl) (fun _ _ _ h => h) rfl (by assumption) ?_ ?_; rotate_left; (focus (intro w hSw; (try dsimp only at hSw); (first | (go_simp; done) | (go_simp; with_reducible rfl)))); simp only [Act.put, List.setIfInBounds_toArray, List.set_cons_zero, List.set_cons_succ]
      refine WH.take 23 _ ?_ rfl (by kernel_rfl) (fun _ _ _ h => h) rfl (by assumption) ?_ ?_; rotate_left; (focus (intro w hSw; (try dsimp only at hSw); (first | (go_simp; done) | (go_simp; with_reducible rfl)))); simp only [Act.put, List.setIfInBounds_toArray, List.set_cons_zero, List.set_cons_succ]
      refine WH.take 24 _ ?_ rfl (by kernel_rfl) (fun _ _ _ h => h) rfl (by assumption) ?_ ?_; rotate_left; (focus (intro w hSw; (try dsimp only at hSw); (first | (go_simp; done) | (go_simp; with_reducible rfl)))); simp only [Act.put, List.setIfInBounds_toArray, List.set_cons_zero, List.set_cons_succ]
      refine WH.take 26 _ ?_ rfl (by kernel_rfl) (fun _ _ _ h => h) rfl (by assumption) ?_ ?_; rotate_left; (focus (intro w hSw; (try dsimp only at hSw); (first | (go_simp; done) | (go_simp; with_reducible rfl)))); simp only [Act.put, List.setIfInBounds_toArray, List.set_cons_zero, List.set_cons_succ]
      refine WH.take 27 _ _ rfl (by kernel_rfl) (fun _ _ _ h => h) rfl (by assumption) (fun w' hSw => exec_load_cell _ _ rfl _ rfl (.int .i64 (y.rd : Int)) ((HQ13.out.ext hSw).cell 4) _ (Try.underlying3) rfl) ?_; simp only [Act.put, List.setIfInBounds_toArray, List.set_cons_zero, List.set_cons_succ]
      refine WH.only 25 _ rfl (by kernel_rfl) rfl (fun K hK => ?_)
      go_simp; refine (HRd _ hSn).mono ?_; rintro e wI ⟨rfl, rfl⟩; go_simp
      have hSn := hSn; refine hK _ _ hSn ?_; clear hK; clear K; simp only [List.set_cons_zero, List.set_cons_succ]
      refine WH.take 28 _ ?_ rfl (by kernel_rfl) (fun _ _ _ h => h) rfl (by assumption) ?_ ?_; rotate_left; (focus (intro w hSw; (try dsimp only at hSw); (first | (go_simp; done) | (go_simp; with_reducible rfl)))); simp only [Act.put, List.setIfInBounds_toArray, List.set_cons_zero, List.set_cons_succ]
      refine WH.take 29 _ ?_ rfl (by kernel_rfl) (fun _ _ _ h => h) rfl (by assumption) ?_ ?_; rotate_left; (focus (intro w hSw; (try dsimp only at hSw); (first | (go_simp; done) | (go_simp; with_reducible rfl)))); simp only [Act.put, List.setIfInBounds_toArray, List.set_cons_zero, List.set_cons_succ]
      refine WH.take 30 _ ?_ rfl (by kernel_rfl) (fun _ _ _ h => h) rfl (by assumption) ?_ ?_; rotate_left; (focus (intro w hSw; (try dsimp only at hSw); (first | (go_simp; done) | (go_simp; with_reducible rfl)))); simp only [Act.put, List.setIfInBounds_toArray, List.set_cons_zero, List.set_cons_succ]
      refine WH.take 31 _ ?_ rfl (by kernel_rfl) (fun _ _ _ h => h) rfl (by assumption) ?_ ?_; rotate_left; (focus (intro w hSw; (try dsimp only at hSw); (first | (go_simp; done) | (go_simp; with_reducible rfl)))); simp only [Act.put, List.setIfInBounds_toArray, List.set_cons_zero, List.set_cons_succ]
      refine WH.take 33 _ ?_ rfl (by kernel_rfl) (fun _ _ _ h => h) rfl (by assumption) ?_ ?_; rotate_left; (focus (intro w hSw; (try dsimp only at hSw); (first | (go_simp; done) | (go_simp; with_reducible rfl)))); simp only [Act.put, List.setIfInBounds_toArray, List.set_cons_zero, List.set_cons_succ]
      refine WH.take 34 _ _ rfl (by kernel_rfl) (fun _ _ _ h => h) rfl (by assumption) (fun w' hSw => exec_load_cell _ _ rfl _ rfl (.slice (some ad') y.l.length cc') ((HQ13.out.ext hSw).cell 0) _ (Try.underlying26) rfl) ?_; simp only [Act.put, List.setIfInBounds_toArray, List.set_cons_zero, List.set_cons_succ]
      refine WH.take 35 _ ?_ rfl (by kernel_rfl) (fun _ _ _ h => h) rfl (by assumption) ?_ ?_; rotate_left; (focus (intro w hSw; (try dsimp only at hSw); (first | (go_simp; done) | (go_simp; with_reducible rfl)))); simp only [Act.put, List.setIfInBounds_toArray, List.set_cons_zero, List.set_cons_succ]
      refine WH.only 32 _ rfl (by kernel_rfl) rfl (fun K hK => ?_)
      go_simp; refine (HSz _ hSn).mono ?_; rintro e wJ ⟨rfl, rfl⟩; go_simp
      have hSn := hSn; refine hK _ _ hSn ?_; clear hK; clear K; simp only [List.set_cons_zero, List.set_cons_succ]
      refine WH.take 36 _ ?_ rfl (by kernel_rfl) (fun _ _ _ h => h) rfl (by assumption) ?_ ?_; rotate_left; (focus (intro w hSw; (try dsimp only at hSw); (first | (go_simp; done) | (go_simp; with_reducible rfl)))); simp only [Act.put, List.setIfInBounds_toArray, List.set_cons_zero, List.set_cons_succ]
      refine WH.take 37 _ ?_ rfl (by kernel_rfl) (fun _ _ _ h => h) rfl (by assumption) ?_ ?_; rotate_left; (focus (intro w hSw; (try dsimp only at hSw); (first | (go_simp; done) | (go_simp; with_reducible rfl)))); simp only [Act.put, List.setIfInBounds_toArray, List.set_cons_zero, List.set_cons_succ]
      refine WH.done (by kernel_rfl) ?_
      have HBJ := Lib.hid (HB13.out.ext hSn)
      have HWJ := Lib.hid (bt HW13.out hSn)
      clear HFu HDn HWr HRd HSz HQ13 HB13 HW13 Hb13 hSn
      go_wp2_with fail
      go_roundw
      case rel => exact ⟨k + 1, y, ad', cc', by have := Hlt.out; omega, by first | go_num | rfl, HBJ.out, HWJ.out⟩
      case measure =>
        have hk40 := HK.out
        have := Hlt.out
        simp [intOf]
        omega
    · have d1 : decide (k < m) = false := decide_eq_false hlt
      obtain ⟨wL, hwL⟩ : ∃ x, x = wr := ⟨_, rfl⟩
      subst hwL
      have hNl := HNle.out
      have hxl := HB.out.len
      have hbl : x.dev.bl.length = N := by rw [← hxl]; simp [Doc.dev]
      have HIm := image_any b ⟨g, 0, none⟩ x.dev.bl.length x.dev wL HB.out.dv.ds HB.out.dv.bks (RK.of_blk HB.out.dv.bks HB.out.dv.blk) (by omega) (by omega)
      rw [hbl] at HIm
      have Hxl := Lib.hid hxl
      have Hbl := Lib.hid hbl
      have HQ : Hid (Blk wL q 28 #[.slice (some ad) x.l.length cc, .int .i64 x.fuse, .bool x.off, .int .i64 x.wr, .int .i64 x.rd]) := Lib.hid HB.out.cells
      rw [hxl] at HQ
      clear hlt hk hxl hbl
      go_wp2_with (go_at_call 17; refine HIm.mono ?_; rintro _ w5 ⟨gi, ci, rfl, hgi, hgl, hrk, hc1, hc2, hb5⟩; have Hrk := Lib.hid hrk; have Hci := Lib.hid (And.intro hc1 hc2); have H5 := Lib.hid hb5; have HQ5 := (HQ.out.ext hb5).cell 0; simp only [List.getElem?_toArray, List.getElem?_cons_zero] at HQ5; clear hrk hc1 hc2 hb5)
      go_loopw [15] (fun i wx => ∃ j : Nat, j ≤ N ∧ i = .int .i64 j ∧ Below w5.heap.size w5 wx) (fun i _ => N - (intOf i).toNat)
      case atStart => exact ⟨0, Nat.zero_le _, rfl, Below.refl _ _⟩
      case round =>
        obtain ⟨j, hj, rfl, hbx⟩ := hrel
        have HBx := Lib.hid hbx
        clear hbx
        by_cases hjl : j < N
        · have d2 : decide (j < N) = true := decide_eq_true hjl
          have z2 : (j : Int) < N := by omega
          have hwj : IntKind.i64.wrap ((j : Int) + 1) = (j : Int) + 1 := IntWalk.i64_in _ (by have := HNle.out; omega)
          have hjx : j < x.l.length := by have := Hxl.out; omega
          have hjb : j < x.dev.bl.length := by have := Hbl.out; omega
          obtain ⟨ad1, e1, hcell⟩ := HB.out.rb j hjx
          injection e1 with e1
          subst e1
          have hgb : (ad.add j).block < wL.heap.size := block_lt_of_cell hcell
          have HV := Lib.hid (show x.dev.bl[j] = full x.l[j] by simp [Doc.dev])
          have HL1 := Lib.hid (HB.out.dv.bks.get hjb)
          have HK5 := Lib.hid (bt H5.out HBx.out)
          generalize x.l[j] = v at *
          have HFu := fun w' => full_any v w'
          have HCx : Hid (∀ w', Below wr.heap.size wr w' → w'.cell? (ad.add j) = some (.int .u8 (v.toNat : Int))) := Lib.hid fun w' h => by
            rw [(bt HK5.out h).cell hgb]
            exact hcell
          have HQx := Lib.hid (HQ.out.ext HK5.out)
          have HRx := Lib.hid (Hrk.out.below HBx.out)
          have Hj := Lib.hid hjl
          clear hjl hcell hgb hj
          go_wp2_with fail
          refine WH.start (S := fun w' : World => Below wr.heap.size wr w') (List.replicate 11 false) 11 rfl rfl (by kernel_rfl) (bdrew wr 1) (fun hSn => ?_)
          simp only [List.replicate]
          obtain ⟨wS, hwS⟩ : ∃ x, wr.drew = x := ⟨_, rfl⟩
          rw [hwS] at hSn ⊢
          clear hwS
          refine WH.take 0 _ ?_ rfl (by kernel_rfl) (fun _ _ _ h => h) rfl (by assumption) ?_ ?_; rotate_left; (focus (intro w hSw; (try dsimp only at hSw); (first | (go_simp; done) | (go_simp; with_reducible rfl)))); simp only [Act.put, List.setIfInBounds_toArray, List.set_cons_zero, List.set_cons_succ]
          refine WH.take 1 _ ?_ rfl (by kernel_rfl) (fun _ _ _ h => h) rfl (by assumption) ?_ ?_; rotate_left; (focus (intro w hSw; (try dsimp only at hSw); (first | (go_simp; done) | (go_simp; with_reducible rfl)))); simp only [Act.put, List.setIfInBounds_toArray, List.set_cons_zero, List.set_cons_succ]
          refine WH.take 2 _ ?_ rfl (by kernel_rfl) (fun _ _ _ h => h) rfl (by assumption) ?_ ?_; rotate_left; (focus (intro w hSw; (try dsimp only at hSw); (first | (go_simp; done) | (go_simp; with_reducible rfl)))); simp only [Act.put, List.setIfInBounds_toArray, List.set_cons_zero, List.set_cons_succ]
          refine WH.take 3 _ _ rfl (by kernel_rfl) (fun _ _ _ h => h) rfl (by assumption) (fun w' hSw => exec_load_bk _ _ rfl ⟨gi, 0, none⟩ j (by rw [addr_add0]; rfl) x.dev.bl HB.out.dv.bks hjb (HRx.out.below hSw) _ Try.underlying35 rfl Try.blockSize) ?_; simp only [Act.put, List.setIfInBounds_toArray, List.set_cons_zero, List.set_cons_succ]
          refine WH.take 4 _ ?_ rfl (by kernel_rfl) (fun _ _ _ h => h) rfl (by assumption) ?_ ?_; rotate_left; (focus (intro w hSw; (try dsimp only at hSw); (first | (go_simp; done) | (go_simp; with_reducible rfl)))); simp only [Act.put, List.setIfInBounds_toArray, List.set_cons_zero, List.set_cons_succ]
          refine WH.take 5 _ _ rfl (by kernel_rfl) (fun _ _ _ h => h) rfl (by assumption) (fun w' hSw => exec_load_cell _ _ rfl _ rfl (.slice (some ad) N cc) ((HQx.out.ext hSw).cell 0) _ (Try.underlying26) rfl) ?_; simp only [Act.put, List.setIfInBounds_toArray, List.set_cons_zero, List.set_cons_succ]
          refine WH.take 6 _ ?_ rfl (by kernel_rfl) (fun _ _ _ h => h) rfl (by assumption) ?_ ?_; rotate_left; (focus (intro w hSw; (try dsimp only at hSw); (first | (go_simp; done) | (go_simp; with_reducible rfl)))); simp only [Act.put, List.setIfInBounds_toArray, List.set_cons_zero, List.set_cons_succ]
          refine WH.take 7 _ ?_ rfl (by kernel_rfl) (fun _ _ _ h => h) rfl (by assumption) ?_ ?_; rotate_left; (focus (intro w hSw; (try dsimp only at hSw); (first | (go_simp; done) | (go_simp; with_reducible rfl)))); simp only [Act.put, List.setIfInBounds_toArray, List.set_cons_zero, List.set_cons_succ]
          refine WH.take 8 _ _ rfl (by kernel_rfl) (fun _ _ _ h => h) rfl (by assumption) (fun w' hSw => exec_load_cell _ _ rfl _ rfl (.int .u8 (v.toNat : Int)) (HCx.out _ hSw) _ Try.underlying5 rfl) ?_; simp only [Act.put, List.setIfInBounds_toArray, List.set_cons_zero, List.set_cons_succ]
          refine WH.only 9 _ rfl (by kernel_rfl) rfl (fun K hK => ?_)
          go_simp; refine (HFu _).mono ?_; rintro e wF ⟨rfl, hbF⟩; go_simp
          have hSn := bt hSn hbF; refine hK _ _ hSn ?_; clear hK; clear K; simp only [List.set_cons_zero, List.set_cons_succ]
          refine WH.take 10 _ _ rfl (by kernel_rfl) (fun _ _ _ h => h) rfl (by assumption) (fun w' hSw => exec_neq_arr _ _ _ _ rfl (by kernel_rfl) _ _ Try.underlying35 Try.underlying5 Try.byteSize (x.dev.bl[j]) (full v) rfl rfl HL1.out (full_len v) false (by rw [HV.out]; simp)) ?_; simp only [Act.put, List.setIfInBounds_toArray, List.set_cons_zero, List.set_cons_succ]
          refine WH.done (by kernel_rfl) ?_
          have HBn := Lib.hid (bt HBx.out hSn)
          clear HFu hSn hbF
          go_wp2_with fail
          go_roundw
          case rel => exact ⟨j + 1, by have := Hj.out; omega, by first | go_num | rfl, HBn.out⟩
          case measure =>
            have hk40 := HNle.out
            have := Hj.out
            simp [intOf]
            omega
        · have d2 : decide (j < N) = false := decide_eq_false hjl
          clear hjl hj
          go_wp2_with fail
          refine (works_any _).mono ?_; rintro e w9 ⟨rfl, hb9⟩
          go_wp2_with fail
          go_ret
          exact ⟨rfl, bt HW.out (bt (bt H5.out HBx.out) hb9)⟩

end Go.Proofs.Ytefienjcdchebaa
