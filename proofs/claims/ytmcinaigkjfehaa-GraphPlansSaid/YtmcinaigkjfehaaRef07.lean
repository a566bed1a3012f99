/-
  Contracts of the document's answer 07: Lay, Was, In, Meet, Same, Much, All, Bytes, SameAll.
-/
import Derived.Test.YtmcinaigkjfehaaPat2
import Derived.Test.YtmcinaigkjfehaaSame
namespace Go.Proofs.Ytmcinaigkjfehaa
open Go.RowKit



set_option maxHeartbeats 800000 in
theorem rin_any (p : Pt) (A : Option Addr) (n c : Nat) (i : Nat) (_hi : i < 256) (w : World) (hp : PV w p A n c) :
    Calls Try.prog 68 #[.agg #[.int .i64 p.at_, .slice A n c], .int .i64 i] w fun e w' => e = .returned (.bool (p.has i)) ∧ Below w.heap.size w w' := by
  have Hp := Lib.hid hp
  clear hp
  go_enter Try.func68, Try.ntmps68
  go_wp2_with (refine wpList_box_row rfl _ _ rfl _ rfl ?_)
  apply Stop.go; intro w1 Hg1 Hb1
  go_wp2_with (refine wpList_load_blk rfl _ _ rfl _ rfl _ _ Hb1.out _ Try.underlying38 rfl Try.rpatchSize ?_)
  refine (right_any p A n c _ (Hp.out.below Hg1.out.1)).mono ?_; rintro e w2 ⟨rfl, hb2⟩
  have Hb2 := Lib.hid (bt Hg1.out.1 hb2)
  have Hx2 := Lib.hid (Hb1.out.ext hb2)
  clear hb2
  cases hr : p.right
  · have Hh := Lib.hid (show p.has i = false by unfold Pt.has; rw [hr]; rfl)
    clear hr
    go_wp2_with fail
    go_ret
    rw [Hh.out]
    exact ⟨rfl, Hb2.out⟩
  · have h := Pt.right_iff.1 hr
    rw [Hp.out.len] at h
    obtain ⟨h1, h2, h3, h4⟩ := h
    obtain ⟨q, hq⟩ := Int.eq_ofNat_of_zero_le h3
    have Hh := Lib.hid (show p.has i = decide (q ≤ i ∧ i < q + n) by unfold Pt.has Pt.lo; rw [hr, hq, Hp.out.len]; rfl)
    have c0 : w2.cell? ⟨w.heap.size, 0, none⟩ = some (.int .i64 p.at_) := Hx2.out.cell 0
    have c1 : w2.cell? ⟨w.heap.size, 1, none⟩ = some (.slice A n c) := Hx2.out.cell 1
    rw [hq] at c0
    have h5 : q + n ≤ 256 := by omega
    have hw : IntKind.i64.wrap ((q : Int) + (n : Int)) = (q : Int) + (n : Int) := IntWalk.i64_in _ (by omega)
    clear hr h3 h4 hq
    by_cases g1 : q ≤ i
    · have d1 : decide (q ≤ i) = true := by simpa using g1
      by_cases g2 : i < q + n
      · have d2 : decide ((i : Int) < (q : Int) + (n : Int)) = true := by simp; omega
        go_wp2_with fail
        go_ret
        rw [Hh.out, decide_eq_true ⟨g1, g2⟩]
        exact ⟨rfl, Hb2.out⟩
      · have d2 : decide ((i : Int) < (q : Int) + (n : Int)) = false := by simp; omega
        go_wp2_with fail
        go_ret
        rw [Hh.out, decide_eq_false (fun h => g2 h.2)]
        exact ⟨rfl, Hb2.out⟩
    · have d1 : decide (q ≤ i) = false := by simpa using g1
      go_wp2_with fail
      go_ret
      rw [Hh.out, decide_eq_false (fun h => g1 h.1)]
      exact ⟨rfl, Hb2.out⟩

set_option maxHeartbeats 800000 in
theorem rmeet_any (p : Pt) (A : Option Addr) (n c : Nat) (q : Pt) (A' : Option Addr) (n' c' : Nat) (w : World) (hp : PV w p A n c) (hq : PV w q A' n' c') :
    Calls Try.prog 52 #[.agg #[.int .i64 p.at_, .slice A n c], .agg #[.int .i64 q.at_, .slice A' n' c']] w fun e w' => e = .returned (.bool (meetP p q)) ∧ Below w.heap.size w w' := by
  have Hp := Lib.hid hp
  have Hq := Lib.hid hq
  clear hp hq
  go_enter Try.func52, Try.ntmps52
  go_wp2_with (refine wpList_box_row rfl _ _ rfl _ rfl ?_)
  apply Stop.go; intro w1 Hg1 Hb1
  go_wp2_with (refine wpList_box_row rfl _ _ rfl _ rfl ?_)
  apply Stop.go; intro w2 Hg2 Hb2
  have Hw2 := Lib.hid (bt Hg1.out.1 Hg2.out.1)
  have Hx2 := Lib.hid (Hb1.out.ext Hg2.out.1)
  go_wp2_with fail
  go_loopw [5] (fun i wr => ∃ k : Nat, k ≤ 256 ∧ i = .int .i64 k ∧ (∀ j, j < k → (p.has j && q.has j) = false) ∧ Below w2.heap.size w2 wr) (fun i _ => 256 - (intOf i).toNat)
  case atStart => exact ⟨0, by omega, rfl, fun j h => absurd h (Nat.not_lt_zero _), Below.refl _ _⟩
  case round =>
    obtain ⟨k, hk, rfl, hno, hbw⟩ := hrel
    have Hno := Lib.hid hno
    have Hbw := Lib.hid hbw
    clear hno hbw
    by_cases hlt : k < 256
    · have d0 : decide ((k : Int) < 256) = true := by simp; omega
      have Hxr := Lib.hid (Hx2.out.ext Hbw.out)
      have Hyr := Lib.hid (Hb2.out.ext Hbw.out)
      have Hpr := Lib.hid (Hp.out.below (bt Hw2.out Hbw.out))
      go_wp2_with (refine wpList_load_blk rfl _ _ rfl _ rfl _ _ Hxr.out _ Try.underlying38 rfl Try.rpatchSize ?_)
      refine (rin_any p A n c k hlt _ Hpr.out).mono ?_; rintro e w3 ⟨rfl, hb3⟩
      have Hb3 := Lib.hid (bt Hbw.out hb3)
      have Hy3 := Lib.hid (Hyr.out.ext hb3)
      have Hq3 := Lib.hid (Hq.out.below (bt Hw2.out Hb3.out))
      clear hb3
      cases h1 : p.has k
      · have H1 := Lib.hid h1
        clear h1
        go_wp2_with fail
        go_roundw
        case rel => exact ⟨k + 1, by omega, by go_num, fun j hj => by
          by_cases hjk : j = k
          · rw [hjk, H1.out]; rfl
          · exact Hno.out j (by omega), Hb3.out⟩
        case measure => simp [intOf]; omega
      · have H1 := Lib.hid h1
        clear h1
        go_wp2_with (refine wpList_load_blk rfl _ _ rfl _ rfl _ _ Hy3.out _ Try.underlying38 rfl Try.rpatchSize ?_)
        refine (rin_any q A' n' c' k hlt _ Hq3.out).mono ?_; rintro e w4 ⟨rfl, hb4⟩
        have Hb4 := Lib.hid (bt Hb3.out hb4)
        clear hb4
        cases h2 : q.has k
        · have H2 := Lib.hid h2
          clear h2
          go_wp2_with fail
          go_roundw
          case rel => exact ⟨k + 1, by omega, by go_num, fun j hj => by
            by_cases hjk : j = k
            · rw [hjk, H1.out, H2.out]; rfl
            · exact Hno.out j (by omega), Hb4.out⟩
          case measure => simp [intOf]; omega
        · have Hm := Lib.hid (meetP_iff.2 ⟨k, H1.out, h2⟩)
          clear h2
          go_wp2_with fail
          go_ret
          rw [Hm.out]
          exact ⟨rfl, bt Hw2.out Hb4.out⟩
    · have d0 : decide ((k : Int) < 256) = false := by simp; omega
      have Hm := Lib.hid (show meetP p q = false from Bool.eq_false_iff.2 fun h => by
        obtain ⟨i, h1, h2⟩ := meetP_iff.1 h
        have h3 := Hno.out i (by have := Pt.has_lt h1; omega)
        rw [h1, h2] at h3
        cases h3)
      go_wp2_with fail
      go_ret
      rw [Hm.out]
      exact ⟨rfl, bt Hw2.out Hbw.out⟩

set_option maxHeartbeats 800000 in
theorem rsamep_any (p : Pt) (A : Option Addr) (n c : Nat) (q : Pt) (A' : Option Addr) (n' c' : Nat) (w : World) (hp : PV w p A n c) (hq : PV w q A' n' c') :
    Calls Try.prog 60 #[.agg #[.int .i64 p.at_, .slice A n c], .agg #[.int .i64 q.at_, .slice A' n' c']] w fun e w' => e = .returned (.bool (sameP p q)) ∧ Below w.heap.size w w' := by
  have Hp := Lib.hid hp
  have Hq := Lib.hid hq
  clear hp hq
  have Hs := Lib.hid (show sameP p q = (decide (p.at_ = q.at_) && decide (p.data = q.data)) from rfl)
  generalize sameP p q = s at *
  by_cases h : p.at_ = q.at_
  all_goals
    have He := Lib.hid h
    first
    | (have d0 : (p.at_ == q.at_) = true := by simp [h])
    | (have d0 : (p.at_ == q.at_) = false := by simp [h])
    clear h
    go_enter Try.func60, Try.ntmps60
    go_wp2_with (refine wpList_box_row rfl _ _ rfl _ rfl ?_)
    apply Stop.go; intro w1 Hg1 Hb1
    go_wp2_with (refine wpList_box_row rfl _ _ rfl _ rfl ?_)
    apply Stop.go; intro w2 Hg2 Hb2
    have Hw2 := Lib.hid (bt Hg1.out.1 Hg2.out.1)
    have Hp2 := Lib.hid (Hp.out.below Hw2.out)
    have Hq2 := Lib.hid (Hq.out.below Hw2.out)
    have c0 : w2.cell? ⟨w.heap.size, 0, none⟩ = some (.int .i64 p.at_) := (Hb1.out.ext Hg2.out.1).cell 0
    have c1 : w2.cell? ⟨w.heap.size, 1, none⟩ = some (.slice A n c) := (Hb1.out.ext Hg2.out.1).cell 1
    have c2 : w2.cell? ⟨w1.heap.size, 0, none⟩ = some (.int .i64 q.at_) := Hb2.out.cell 0
    have c3 : w2.cell? ⟨w1.heap.size, 1, none⟩ = some (.slice A' n' c') := Hb2.out.cell 1
    go_wp2_with fail
    first
    | (refine (same_any A n c p.data Hp.out.len A' n' c' q.data Hq.out.len (Nat.le_trans Hp.out.cap Hp.out.max) (Nat.le_trans Hq.out.cap Hq.out.max) _ Hp2.out.read Hq2.out.read).mono ?_; rintro e w3 ⟨rfl, kq, rfl⟩
       go_wp2_with fail
       go_ret
       rw [Hs.out, decide_eq_true He.out]
       exact ⟨rfl, bt Hw2.out (bdrew _ _)⟩)
    | (go_ret
       rw [Hs.out, decide_eq_false He.out]
       exact ⟨rfl, Hw2.out⟩)

end Go.Proofs.Ytmcinaigkjfehaa
