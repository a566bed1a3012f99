/-
  Contracts of the document's answer 07: Lay, Was, In, Meet, Same, Much, All, Bytes, SameAll.
-/
import Derived.Test.YtknbjdldmednlaaGreatGrQ
import Derived.Test.YtknbjdldmednlaaGreatRef01b
import Derived.Test.YtknbjdldmednlaaGreatGrF
import Derived.Test.YtknbjdldmednlaaGreatSame
namespace Go.Proofs.YtknbjdldmednlaaGreat
open Go.RowKit

theorem rlayL_layP {L : List UInt8} (hL : L.length = 256) {p : Pt} (h : p.right = true) : rlayL L p.at_ p.data = layP L p := by
  have h1 := Pt.right_iff.1 h
  unfold rlayL layP
  rw [h, if_pos (by simp; omega), if_pos rfl, List.take_of_length_le (by omega)]
  rfl
set_option maxHeartbeats 400000 in
theorem rlaypO_any (B : Option Addr) (nb cb : Nat) (L : List UInt8) (hL : L.length = 256) (hnb : L.length = nb) (hcb : nb ≤ cb) (hmb : cb ≤ maxLen) (p : Pt) (A : Option Addr) (n c : Nat) (w : World) (hb : RB w B L) (hp : PV w p A n c) :
    Calls Tryz.prog 97 #[.slice B nb cb, .agg #[.int .i64 p.at_, .slice A n c]] w (RetBO w B (layP L p)) := by
  have HL := Lib.hid hL
  have Hnb := Lib.hid hnb
  have Hb := Lib.hid hb
  have Hp := Lib.hid hp
  have Hcb := Lib.hid (show nb ≤ cb ∧ cb ≤ maxLen from ⟨hcb, hmb⟩)
  clear hL hnb hb hp hcb hmb
  go_enter Tryz.func97, Tryz.ntmps97
  go_wp2_with (refine wpList_box_row rfl _ _ rfl _ rfl ?_)
  apply Stop.go; intro w1 Hg1 Hb1
  go_wp2_with (refine wpList_load_blk rfl _ _ rfl _ rfl _ _ Hb1.out _ Tryz.underlying39 rfl Tryz.rpatchSize ?_)
  refine (right_any p A n c _ (Hp.out.below Hg1.out.1)).mono ?_; rintro e w2 ⟨rfl, hb2⟩
  have Hb2 := Lib.hid (bt Hg1.out.1 hb2)
  have Hx2 := Lib.hid (Hb1.out.ext hb2)
  clear hb2
  cases hr : p.right
  · have Hl := Lib.hid (layP_wrong (L := L) hr)
    clear hr
    go_wp2_with fail
    go_ret
    rw [Hl.out]
    exact ⟨_, _, _, rfl, Hnb.out, Hcb.out.1, Hcb.out.2, Hb.out.below Hb2.out, Hb2.out, Or.inl rfl⟩
  · have Hl := Lib.hid (rlayL_layP HL.out hr)
    clear hr
    have c0 : w2.cell? ⟨w.heap.size, 0, none⟩ = some (.int .i64 p.at_) := Hx2.out.cell 0
    have c1 : w2.cell? ⟨w.heap.size, 1, none⟩ = some (.slice A n c) := Hx2.out.cell 1
    go_wp2_with fail
    refine (rlayO_any B nb cb L Hnb.out (by have := Hnb.out; have := HL.out; omega) p.at_ A n c p.data Hp.out.len _ (Hb.out.below Hb2.out) (Hp.out.read.below Hb2.out)).mono ?_; rintro e w3 ⟨B3, n3, c3, rfl, h1, h2, h3, h4, h5, h6⟩
    have H6 := Lib.hid (show ∀ ad, B3 = some ad → w.heap.size ≤ ad.block from fun ad e => by
      rcases h6 with h6 | h6
      · rw [h6] at e; cases e
      · exact Nat.le_trans Hb2.out.size (h6 ad e))
    clear h6
    rw [Hl.out] at h1 h4
    have H1 := Lib.hid h1
    have H4 := Lib.hid h4
    have H5 := Lib.hid (bt Hb2.out h5)
    clear h1 h4 h5
    go_wp2_with fail
    go_ret
    exact ⟨_, _, _, rfl, H1.out, h2, h3, H4.out, H5.out, Or.inr H6.out⟩


set_option maxHeartbeats 800000 in
theorem rin_any (p : Pt) (A : Option Addr) (n c : Nat) (i : Nat) (_hi : i < 256) (w : World) (hp : PV w p A n c) :
    Calls Tryz.prog 104 #[.agg #[.int .i64 p.at_, .slice A n c], .int .i64 i] w fun e w' => e = .returned (.bool (p.has i)) ∧ Below w.heap.size w w' := by
  have Hp := Lib.hid hp
  clear hp
  go_enter Tryz.func104, Tryz.ntmps104
  go_wp2_with (refine wpList_box_row rfl _ _ rfl _ rfl ?_)
  apply Stop.go; intro w1 Hg1 Hb1
  go_wp2_with (refine wpList_load_blk rfl _ _ rfl _ rfl _ _ Hb1.out _ Tryz.underlying39 rfl Tryz.rpatchSize ?_)
  refine (right_any p A n c _ (Hp.out.below Hg1.out.1)).mono ?_; rintro e w2 ⟨rfl, hb2⟩
  have Hb2 := Lib.hid (bt Hg1.out.1 hb2)
  have Hx2 := Lib.hid (Hb1.out.ext hb2)
  clear hb2
  cases hr : p.right
  · have Hh := Lib.hid (show p.has i = false by unfold Pt.has; rw [hr]; rfl)
    clear hr
    go_wp2_with fail
    go_ret
    rw [Hh.out]
    exact ⟨rfl, Hb2.out⟩
  · have h := Pt.right_iff.1 hr
    rw [Hp.out.len] at h
    obtain ⟨h1, h2, h3, h4⟩ := h
    obtain ⟨q, hq⟩ := Int.eq_ofNat_of_zero_le h3
    have Hh := Lib.hid (show p.has i = decide (q ≤ i ∧ i < q + n) by unfold Pt.has Pt.lo; rw [hr, hq, Hp.out.len]; rfl)
    have c0 : w2.cell? ⟨w.heap.size, 0, none⟩ = some (.int .i64 p.at_) := Hx2.out.cell 0
    have c1 : w2.cell? ⟨w.heap.size, 1, none⟩ = some (.slice A n c) := Hx2.out.cell 1
    rw [hq] at c0
    have h5 : q + n ≤ 256 := by omega
    have hw : IntKind.i64.wrap ((q : Int) + (n : Int)) = (q : Int) + (n : Int) := IntWalk.i64_in _ (by omega)
    clear hr h3 h4 hq
    by_cases g1 : q ≤ i
    · have d1 : decide (q ≤ i) = true := by simpa using g1
      by_cases g2 : i < q + n
      · have d2 : decide ((i : Int) < (q : Int) + (n : Int)) = true := by simp; omega
        go_wp2_with fail
        go_ret
        rw [Hh.out, decide_eq_true ⟨g1, g2⟩]
        exact ⟨rfl, Hb2.out⟩
      · have d2 : decide ((i : Int) < (q : Int) + (n : Int)) = false := by simp; omega
        go_wp2_with fail
        go_ret
        rw [Hh.out, decide_eq_false (fun h => g2 h.2)]
        exact ⟨rfl, Hb2.out⟩
    · have d1 : decide (q ≤ i) = false := by simpa using g1
      go_wp2_with fail
      go_ret
      rw [Hh.out, decide_eq_false (fun h => g1 h.1)]
      exact ⟨rfl, Hb2.out⟩

set_option maxHeartbeats 800000 in
theorem rmeet_any (p : Pt) (A : Option Addr) (n c : Nat) (q : Pt) (A' : Option Addr) (n' c' : Nat) (w : World) (hp : PV w p A n c) (hq : PV w q A' n' c') :
    Calls Tryz.prog 96 #[.agg #[.int .i64 p.at_, .slice A n c], .agg #[.int .i64 q.at_, .slice A' n' c']] w fun e w' => e = .returned (.bool (meetP p q)) ∧ Below w.heap.size w w' := by
  have Hp := Lib.hid hp
  have Hq := Lib.hid hq
  clear hp hq
  go_enter Tryz.func96, Tryz.ntmps96
  go_wp2_with (refine wpList_box_row rfl _ _ rfl _ rfl ?_)
  apply Stop.go; intro w1 Hg1 Hb1
  go_wp2_with (refine wpList_box_row rfl _ _ rfl _ rfl ?_)
  apply Stop.go; intro w2 Hg2 Hb2
  have Hw2 := Lib.hid (bt Hg1.out.1 Hg2.out.1)
  have Hx2 := Lib.hid (Hb1.out.ext Hg2.out.1)
  go_wp2_with fail
  go_loopw [5] (fun i wr => ∃ k : Nat, k ≤ 256 ∧ i = .int .i64 k ∧ (∀ j, j < k → (p.has j && q.has j) = false) ∧ Below w2.heap.size w2 wr) (fun i _ => 256 - (intOf i).toNat)
  case atStart => exact ⟨0, by omega, rfl, fun j h => absurd h (Nat.not_lt_zero _), Below.refl _ _⟩
  case round =>
    obtain ⟨k, hk, rfl, hno, hbw⟩ := hrel
    have Hno := Lib.hid hno
    have Hbw := Lib.hid hbw
    clear hno hbw
    by_cases hlt : k < 256
    · have d0 : decide ((k : Int) < 256) = true := by simp; omega
      have Hxr := Lib.hid (Hx2.out.ext Hbw.out)
      have Hyr := Lib.hid (Hb2.out.ext Hbw.out)
      have Hpr := Lib.hid (Hp.out.below (bt Hw2.out Hbw.out))
      go_wp2_with (refine wpList_load_blk rfl _ _ rfl _ rfl _ _ Hxr.out _ Tryz.underlying39 rfl Tryz.rpatchSize ?_)
      refine (rin_any p A n c k hlt _ Hpr.out).mono ?_; rintro e w3 ⟨rfl, hb3⟩
      have Hb3 := Lib.hid (bt Hbw.out hb3)
      have Hy3 := Lib.hid (Hyr.out.ext hb3)
      have Hq3 := Lib.hid (Hq.out.below (bt Hw2.out Hb3.out))
      clear hb3
      cases h1 : p.has k
      · have H1 := Lib.hid h1
        clear h1
        go_wp2_with fail
        go_roundw
        case rel => exact ⟨k + 1, by omega, by go_num, fun j hj => by
          by_cases hjk : j = k
          · rw [hjk, H1.out]; rfl
          · exact Hno.out j (by omega), Hb3.out⟩
        case measure => simp [intOf]; omega
      · have H1 := Lib.hid h1
        clear h1
        go_wp2_with (refine wpList_load_blk rfl _ _ rfl _ rfl _ _ Hy3.out _ Tryz.underlying39 rfl Tryz.rpatchSize ?_)
        refine (rin_any q A' n' c' k hlt _ Hq3.out).mono ?_; rintro e w4 ⟨rfl, hb4⟩
        have Hb4 := Lib.hid (bt Hb3.out hb4)
        clear hb4
        cases h2 : q.has k
        · have H2 := Lib.hid h2
          clear h2
          go_wp2_with fail
          go_roundw
          case rel => exact ⟨k + 1, by omega, by go_num, fun j hj => by
            by_cases hjk : j = k
            · rw [hjk, H1.out, H2.out]; rfl
            · exact Hno.out j (by omega), Hb4.out⟩
          case measure => simp [intOf]; omega
        · have Hm := Lib.hid (meetP_iff.2 ⟨k, H1.out, h2⟩)
          clear h2
          go_wp2_with fail
          go_ret
          rw [Hm.out]
          exact ⟨rfl, bt Hw2.out Hb4.out⟩
    · have d0 : decide ((k : Int) < 256) = false := by simp; omega
      have Hm := Lib.hid (show meetP p q = false from Bool.eq_false_iff.2 fun h => by
        obtain ⟨i, h1, h2⟩ := meetP_iff.1 h
        have h3 := Hno.out i (by have := Pt.has_lt h1; omega)
        rw [h1, h2] at h3
        cases h3)
      go_wp2_with fail
      go_ret
      rw [Hm.out]
      exact ⟨rfl, bt Hw2.out Hbw.out⟩

set_option maxHeartbeats 800000 in
theorem rsamep_any (p : Pt) (A : Option Addr) (n c : Nat) (q : Pt) (A' : Option Addr) (n' c' : Nat) (w : World) (hp : PV w p A n c) (hq : PV w q A' n' c') :
    Calls Tryz.prog 64 #[.agg #[.int .i64 p.at_, .slice A n c], .agg #[.int .i64 q.at_, .slice A' n' c']] w fun e w' => e = .returned (.bool (sameP p q)) ∧ Below w.heap.size w w' := by
  have Hp := Lib.hid hp
  have Hq := Lib.hid hq
  clear hp hq
  have Hs := Lib.hid (show sameP p q = (decide (p.at_ = q.at_) && decide (p.data = q.data)) from rfl)
  generalize sameP p q = s at *
  by_cases h : p.at_ = q.at_
  all_goals
    have He := Lib.hid h
    first
    | (have d0 : (p.at_ == q.at_) = true := by simp [h])
    | (have d0 : (p.at_ == q.at_) = false := by simp [h])
    clear h
    go_enter Tryz.func64, Tryz.ntmps64
    go_wp2_with (refine wpList_box_row rfl _ _ rfl _ rfl ?_)
    apply Stop.go; intro w1 Hg1 Hb1
    go_wp2_with (refine wpList_box_row rfl _ _ rfl _ rfl ?_)
    apply Stop.go; intro w2 Hg2 Hb2
    have Hw2 := Lib.hid (bt Hg1.out.1 Hg2.out.1)
    have Hp2 := Lib.hid (Hp.out.below Hw2.out)
    have Hq2 := Lib.hid (Hq.out.below Hw2.out)
    have c0 : w2.cell? ⟨w.heap.size, 0, none⟩ = some (.int .i64 p.at_) := (Hb1.out.ext Hg2.out.1).cell 0
    have c1 : w2.cell? ⟨w.heap.size, 1, none⟩ = some (.slice A n c) := (Hb1.out.ext Hg2.out.1).cell 1
    have c2 : w2.cell? ⟨w1.heap.size, 0, none⟩ = some (.int .i64 q.at_) := Hb2.out.cell 0
    have c3 : w2.cell? ⟨w1.heap.size, 1, none⟩ = some (.slice A' n' c') := Hb2.out.cell 1
    go_wp2_with fail
    first
    | (refine (same_any A n c p.data Hp.out.len A' n' c' q.data Hq.out.len (Nat.le_trans Hp.out.cap Hp.out.max) (Nat.le_trans Hq.out.cap Hq.out.max) _ Hp2.out.read Hq2.out.read).mono ?_; rintro e w3 ⟨rfl, kq, rfl⟩
       go_wp2_with fail
       go_ret
       rw [Hs.out, decide_eq_true He.out]
       exact ⟨rfl, bt Hw2.out (bdrew _ _)⟩)
    | (go_ret
       rw [Hs.out, decide_eq_false He.out]
       exact ⟨rfl, Hw2.out⟩)

end Go.Proofs.YtknbjdldmednlaaGreat
