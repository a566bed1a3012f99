/-
  Contracts of package patch, the small ones: mayBe, end, Check, To, Of, and of the document's Right.
-/
import Derived.Test.YtmcinaigkjfehaaGr1
import Derived.Test.YtmcinaigkjfehaaPatO
import Derived.BigQuiet
import Derived.Deep.QuietTactic
namespace Go.Proofs.Ytmcinaigkjfehaa
open Go.RowKit

theorem Try.patchZero : (Try.prog.info? 48).map (·.zero) = some (some (.agg #[.int .i64 0, .slice none 0 0])) := by kernel_rfl
theorem Try.patchSize : (Try.prog.info? 48).map (·.size) = some 2 := by kernel_rfl
theorem Try.patchInfo : (Try.prog.info? 48).map (fun i => (i.zero, i.size, i.bytes)) = some (some (.agg #[.int .i64 0, .slice none 0 0]), 2, 32) := by kernel_rfl
theorem Try.rpatchZero : (Try.prog.info? 38).map (·.zero) = some (some (.agg #[.int .i64 0, .slice none 0 0])) := by kernel_rfl
theorem Try.rpatchSize : (Try.prog.info? 38).map (·.size) = some 2 := by kernel_rfl
theorem Try.rpatchInfo : (Try.prog.info? 38).map (fun i => (i.zero, i.size, i.bytes)) = some (some (.agg #[.int .i64 0, .slice none 0 0]), 2, 32) := by kernel_rfl

theorem right_ways (p : Pt) (n : Nat) (hn : p.data.length = n) : (p.right = true ∧ 1 ≤ n ∧ n ≤ 256 ∧ 0 ≤ p.at_ ∧ p.at_ ≤ 256 - (n : Int)) ∨ (p.right = false ∧ (n = 0 ∨ (1 ≤ n ∧ (p.at_ < 0 ∨ (0 ≤ p.at_ ∧ 256 - (n : Int) < p.at_))))) := by
  subst hn
  cases h : p.right
  · right
    refine ⟨rfl, ?_⟩
    have h2 : ¬ (1 ≤ p.data.length ∧ p.data.length ≤ 256 ∧ 0 ≤ p.at_ ∧ p.at_ ≤ 256 - (p.data.length : Int)) := fun hh => by
      rw [Pt.right_iff.2 hh] at h; cases h
    omega
  · left
    exact ⟨rfl, Pt.right_iff.1 h⟩

set_option maxHeartbeats 400000 in
theorem mayBe_any (p : Pt) (A : Option Addr) (n c : Nat) (w : World) (hp : PV w p A n c) :
    Calls Try.prog 72 #[.agg #[.int .i64 p.at_, .slice A n c]] w fun e w' => e = .returned (.bool p.right) ∧ Below w.heap.size w w' := by
  have h0 := hp.lo
  have h1 := hp.hi
  have h2 := hp.cap
  have h3 := hp.max
  unfold maxLen at h3
  have hw := right_ways p n hp.len
  clear hp
  generalize p.right = r at *
  generalize p.at_ = z at *
  rcases hw with ⟨rfl, a1, a2, a3, a4⟩ | ⟨rfl, a1 | ⟨a1, a2 | ⟨a2, a3⟩⟩⟩
  focus (
    have d1 : decide (1 ≤ n) = true := by simpa using a1
    have d2 : decide (0 ≤ z) = true := by simpa using a3
    have d3 : decide (z ≤ 256 - (n : Int)) = true := by simpa using a4)
  rotate_left
  focus (
    have d1 : decide (1 ≤ n) = false := by simp; omega)
  rotate_left
  focus (
    have d1 : decide (1 ≤ n) = true := by simpa using a1
    have d2 : decide (0 ≤ z) = false := by simp; omega)
  rotate_left
  focus (
    have d1 : decide (1 ≤ n) = true := by simpa using a1
    have d2 : decide (0 ≤ z) = true := by simpa using a2
    have d3 : decide (z ≤ 256 - (n : Int)) = false := by simp; omega)
  rotate_left
  all_goals
    go_enter Try.func72, Try.ntmps72
    go_wp2_with (refine wpList_box_row rfl _ _ rfl _ rfl ?_)
    apply Stop.go; intro w1 Hg1 Hb1
    have c0 : w1.cell? ⟨w.heap.size, 0, none⟩ = some (.int .i64 z) := Hb1.out.cell 0
    have c1 : w1.cell? ⟨w.heap.size, 1, none⟩ = some (.slice A _ c) := Hb1.out.cell 1
    go_wp2_with fail
    go_ret
    exact ⟨rfl, Hg1.out.1⟩

set_option maxHeartbeats 400000 in
theorem end_any (p : Pt) (A : Option Addr) (n c : Nat) (w : World) (hp : PV w p A n c) (hr : p.right = true) :
    Calls Try.prog 77 #[.agg #[.int .i64 p.at_, .slice A n c]] w fun e w' => e = .returned (.int .i64 (p.at_ + (n : Int))) ∧ Below w.heap.size w w' := by
  have h := Pt.right_iff.1 hr
  rw [hp.len] at h
  clear hp hr
  generalize p.at_ = z at *
  obtain ⟨h1, h2, h3, h4⟩ := h
  have hw : IntKind.i64.wrap (z + (n : Int)) = z + (n : Int) := IntWalk.i64_in _ (by omega)
  go_enter Try.func77, Try.ntmps77
  go_wp2_with (refine wpList_box_row rfl _ _ rfl _ rfl ?_)
  apply Stop.go; intro w1 Hg1 Hb1
  have c0 : w1.cell? ⟨w.heap.size, 0, none⟩ = some (.int .i64 z) := Hb1.out.cell 0
  have c1 : w1.cell? ⟨w.heap.size, 1, none⟩ = some (.slice A n c) := Hb1.out.cell 1
  go_wp2_with fail
  go_ret
  exact ⟨rfl, Hg1.out.1⟩

/-- What Check tells. -/
def checkI (p : Pt) : Int := if p.right then 0 else 2
set_option maxHeartbeats 400000 in
theorem check_any (p : Pt) (A : Option Addr) (n c : Nat) (w : World) (hp : PV w p A n c) :
    Calls Try.prog 57 #[.agg #[.int .i64 p.at_, .slice A n c]] w fun e w' => e = .returned (.int .i64 (checkI p)) ∧ Below w.heap.size w w' := by
  have Hp := Lib.hid hp
  clear hp
  go_enter Try.func57, Try.ntmps57
  go_wp2_with (refine wpList_box_row rfl _ _ rfl _ rfl ?_)
  apply Stop.go; intro w1 Hg1 Hb1
  go_wp2_with (refine wpList_load_blk rfl _ _ rfl _ rfl _ _ Hb1.out _ Try.underlying48 rfl Try.patchSize ?_)
  refine (mayBe_any p A n c _ (Hp.out.below Hg1.out.1)).mono ?_; rintro e w2 ⟨rfl, hb2⟩
  have Hb2 := Lib.hid hb2
  have Hc := Lib.hid (show checkI p = if p.right then 0 else 2 from rfl)
  clear hb2
  generalize p.right = r at *
  cases r
  all_goals
    go_wp2_with fail
    go_ret
    rw [Hc.out]
    exact ⟨rfl, bt Hg1.out.1 Hb2.out⟩

/-- A result that is a patch, whose bytes lie in a new block. -/
def RetPS (w : World) (p : Pt) (e : Ending) (w' : World) : Prop := ∃ g n c, e = .returned (.agg #[.int .i64 p.at_, .slice (some ⟨g, 0, none⟩) n c]) ∧ PV w' p (some ⟨g, 0, none⟩) n c ∧ Below w.heap.size w w' ∧ w.heap.size ≤ g
theorem RetPS.b {w : World} {p : Pt} {e : Ending} {w' : World} (h : RetPS w p e w') : RetPB w.heap.size w p e w' := by
  obtain ⟨g, n, c, h1, h2, h3, h4⟩ := h
  exact ⟨_, n, c, h1, h2, h3, fun ad e => by injection e with e; subst e; exact h4⟩
set_option maxRecDepth 100000 in
set_option maxHeartbeats 800000 in
theorem to_any (p : Pt) (A : Option Addr) (n c : Nat) (w : World) (hp : PV w p A n c) (hn : n ≤ 70368744177664) :
    Calls Try.prog 30 #[.agg #[.int .i64 p.at_, .slice A n c]] w (RetPS w p) := by
  have Hp := Lib.hid hp
  clear hp
  go_enter Try.func30, Try.ntmps30
  go_wp2_with (refine wpList_box_row rfl _ _ rfl _ rfl ?_)
  apply Stop.go; intro w1 Hg1 Hb1
  go_wp2_with (refine wpList_alloc_row rfl _ rfl _ Try.patchZero ?_)
  apply Stop.go; intro w2 Hg2 Hb2
  have Hw2 := Lib.hid (bt Hg1.out.1 Hg2.out.1)
  have Hp2 := Lib.hid (Hp.out.below Hw2.out)
  go_wp2_with fail
  refine WH.start (S := fun w' : World => Below w1.heap.size w1 w') [false, false, false, false, false, false, false, false] 8 rfl rfl (by kernel_rfl) (bt Hg2.out.1 (bdrew w2 1)) (fun hSn => ?_)
  refine WH.take 0 _ ?_ rfl (by kernel_rfl) (fun _ _ _ h => h) rfl (by assumption) ?_ ?_; rotate_left; (focus (intro w hSw; (try dsimp only at hSw); (first | (go_simp; done) | (go_simp; with_reducible rfl)))); simp only [Act.put, List.setIfInBounds_toArray, List.set_cons_zero, List.set_cons_succ]
  refine WH.take 1 _ _ rfl (by kernel_rfl) (fun _ _ _ h => h) rfl (by assumption) (fun w' hSw => exec_load_cell _ _ rfl _ rfl (.int .i64 p.at_) ((Hb1.out.ext hSw).cell 0) _ (Try.underlying3) rfl) ?_; simp only [Act.put, List.setIfInBounds_toArray, List.set_cons_zero, List.set_cons_succ]
  refine WH.take 3 _ ?_ rfl (by kernel_rfl) (fun _ _ _ h => h) rfl (by assumption) ?_ ?_; rotate_left; (focus (intro w hSw; (try dsimp only at hSw); (first | (go_simp; done) | (go_simp; with_reducible rfl)))); simp only [Act.put, List.setIfInBounds_toArray, List.set_cons_zero, List.set_cons_succ]
  refine WH.take 4 _ _ rfl (by kernel_rfl) (fun _ _ _ h => h) rfl (by assumption) (fun w' hSw => exec_load_cell _ _ rfl _ rfl (.slice A n c) ((Hb1.out.ext hSw).cell 1) _ (Try.underlying36) rfl) ?_; simp only [Act.put, List.setIfInBounds_toArray, List.set_cons_zero, List.set_cons_succ]
  refine WH.only 2 _ rfl (by kernel_rfl) rfl (fun K hK => ?_)
  refine ow_build0 _ _ rfl Try.underlying36 Try.byteSize ?_
  have hSn := bt hSn (Grew.alloc w2.drew (.cells #[] 5)).1; refine hK _ _ hSn ?_; clear hK; clear K; simp only [Act.put, List.setIfInBounds_toArray, List.set_cons_zero, List.set_cons_succ]
  refine WH.only 5 _ rfl (by kernel_rfl) rfl (fun K hK => ?_)
  refine ow_append_bytes _ _ _ _ rfl Try.underlying36 Try.byteInfo rfl A n c p.data rfl Hp.out.len (Hp2.out.read.below (bdrew w2 1)) (by omega) ?_
  apply Stop.go
  intro g c' w3 Hr3 Hc3 Hb3
  have D3 := Lib.hid (bt (bdrew w2 1) Hb3.out)
  have hSn := bt Hg2.out.1 D3.out; refine hK _ _ hSn ?_; clear hK; clear K; simp only [Act.put, List.setIfInBounds_toArray, List.set_cons_zero, List.set_cons_succ]
  refine WH.take 6 _ ?_ rfl (by kernel_rfl) (fun _ _ _ h => h) rfl (by assumption) ?_ ?_; rotate_left; (focus (intro w hSw; (try dsimp only at hSw); (first | (go_simp; done) | (go_simp; with_reducible rfl)))); simp only [Act.put, List.setIfInBounds_toArray, List.set_cons_zero, List.set_cons_succ]
  refine WH.only 7 _ rfl (by kernel_rfl) rfl (fun K hK => ?_)
  refine ow_store _ _ _ rfl _ #[.int .i64 p.at_, .slice (some ⟨g, 0, none⟩) n c'] rfl rfl _ _ (Hb2.out.ext D3.out) Try.patchSize rfl (by simp [Value.oneCell']) ?_
  apply Stop.go
  intro w4 Ho4 Hb4
  have hSn := bonly (bt Hg2.out.1 D3.out) Ho4.out (Nat.le_refl _); refine hK _ _ hSn ?_; clear hK; clear K; simp only [Act.put, List.set_cons_zero, List.set_cons_succ]
  refine WH.done (by kernel_rfl) ?_
  have Hne := Lib.hid (show g ≠ w1.heap.size from by have h1 := Hc3.out.2.2; have h2 := Hb2.out.lt; have h3 : w2.drew.heap.size = w2.heap.size := rfl; omega)
  go_wp2_with ((with_reducible show bodyPost _ _ _ _ _ _); refine bodyPost_struct rfl _ rfl _ _ Hb4.out _ Try.underlying48 rfl Try.patchSize rfl ?_)
  apply Stop.go
  have hz1 := Hg1.out.1.size
  have hz2 := Hg2.out.1.size
  have h3 : w2.drew.heap.size = w2.heap.size := rfl
  refine ⟨g, n, c', rfl, ⟨Hp.out.lo, Hp.out.hi, Hp.out.len, Hc3.out.1, Hc3.out.2.1, fun k hk => ?_⟩, bt Hg1.out.1 hSn, ?_⟩
  · obtain ⟨ad, e, hc⟩ := Hr3.out k hk
    injection e with e
    subst e
    refine ⟨_, rfl, ?_⟩
    rw [← hc]
    refine World.cell?_of_block (Ho4.out.block _ ?_)
    rw [block_of_add]
    exact Hne.out
  · have := Hc3.out.2.2
    omega

set_option maxHeartbeats 400000 in
theorem of_any (p : Pt) (A : Option Addr) (n c : Nat) (w : World) (hp : PV w p A n c) :
    Calls Try.prog 44 #[.agg #[.int .i64 p.at_, .slice A n c]] w fun e w' => e = .returned (.agg #[.int .i64 p.at_, .slice A n c]) ∧ PV w' p A n c ∧ Below w.heap.size w w' := by
  have Hp := Lib.hid hp
  clear hp
  go_enter Try.func44, Try.ntmps44
  go_wp2_with (refine wpList_box_row rfl _ _ rfl _ rfl ?_)
  apply Stop.go; intro w1 Hg1 Hb1
  go_wp2_with (refine wpList_alloc_row rfl _ rfl _ Try.rpatchZero ?_)
  apply Stop.go; intro w2 Hg2 Hb2
  have Hw2 := Lib.hid (bt Hg1.out.1 Hg2.out.1)
  have c0 : w2.cell? ⟨w.heap.size, 0, none⟩ = some (.int .i64 p.at_) := (Hb1.out.ext Hg2.out.1).cell 0
  have c1 : w2.cell? ⟨w.heap.size, 1, none⟩ = some (.slice A n c) := (Hb1.out.ext Hg2.out.1).cell 1
  go_wp2_with (refine wpList_store_arr rfl _ _ _ rfl _ #[.int .i64 p.at_, .slice A n c] rfl rfl _ _ Hb2.out Try.rpatchSize rfl (by simp [Value.oneCell']) ?_)
  apply Stop.go; intro w3 Ho3 Hb3
  go_wp2_with ((with_reducible show bodyPost _ _ _ _ _ _); refine bodyPost_struct rfl _ rfl _ _ Hb3.out _ Try.underlying38 rfl Try.rpatchSize rfl ?_)
  apply Stop.go
  have D := bonly Hw2.out Ho3.out Hg1.out.1.size
  exact ⟨Hp.out.below D, D⟩

set_option maxHeartbeats 400000 in
theorem right_any (p : Pt) (A : Option Addr) (n c : Nat) (w : World) (hp : PV w p A n c) :
    Calls Try.prog 37 #[.agg #[.int .i64 p.at_, .slice A n c]] w fun e w' => e = .returned (.bool p.right) ∧ Below w.heap.size w w' := by
  have h0 := hp.lo
  have h1 := hp.hi
  have h2 := hp.cap
  have h3 := hp.max
  unfold maxLen at h3
  have hw := right_ways p n hp.len
  clear hp
  generalize p.right = r at *
  generalize p.at_ = z at *
  rcases hw with ⟨rfl, a1, a2, a3, a4⟩ | ⟨rfl, a1 | ⟨a1, a⟩⟩
  focus (
    have d1 : decide (1 ≤ n) = true := by simpa using a1
    have d0 : decide ((n : Int) ≤ 256) = true := by simp; omega
    have d2 : decide (0 ≤ z) = true := by simpa using a3
    have d3 : decide (z ≤ 256 - (n : Int)) = true := by simpa using a4)
  rotate_left
  focus (
    have d1 : decide (1 ≤ n) = false := by simp; omega)
  rotate_left
  focus (
    have d1 : decide (1 ≤ n) = true := by simpa using a1
    by_cases a5 : n ≤ 256
    focus (
      have d0 : decide ((n : Int) ≤ 256) = true := by simp; omega
      rcases a with a2 | ⟨a2, a3⟩
      focus (
        have d2 : decide (0 ≤ z) = false := by simp; omega)
      rotate_left
      focus (
        have d2 : decide (0 ≤ z) = true := by simpa using a2
        have d3 : decide (z ≤ 256 - (n : Int)) = false := by simp; omega))
    rotate_right
    focus (
      have d0 : decide ((n : Int) ≤ 256) = false := by simp; omega))
  rotate_left
  all_goals
    go_enter Try.func37, Try.ntmps37
    go_wp2_with (refine wpList_box_row rfl _ _ rfl _ rfl ?_)
    apply Stop.go; intro w1 Hg1 Hb1
    have c0 : w1.cell? ⟨w.heap.size, 0, none⟩ = some (.int .i64 z) := Hb1.out.cell 0
    have c1 : w1.cell? ⟨w.heap.size, 1, none⟩ = some (.slice A _ c) := Hb1.out.cell 1
    go_wp2_with fail
    go_ret
    exact ⟨rfl, Hg1.out.1⟩

end Go.Proofs.Ytmcinaigkjfehaa
