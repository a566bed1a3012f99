/-
  Texts of this claim joined: Rets, Pat1, Pat2, OpenV, OpenC, RowsN, OwnL, ChgA.
-/
import Derived.Test.YtpmbpklbiocclaaGreatRows
import Derived.Test.YtpmbpklbiocclaaGreatGrAA
import Derived.Test.YtpmbpklbiocclaaGreatPatO
import Derived.BigQuiet
import Derived.Deep.QuietTactic
import Derived.Lib.SliceRun
import Derived.Test.YtpmbpklbiocclaaGreatGrAC
import Derived.Test.YtpmbpklbiocclaaGreatGrAB
import Derived.Deep.Grids
import Derived.Great.BuildSlice
import Derived.Great.FillDense
import Derived.Deep.AppendLies

/-
  Facts on bytes and blocks as this program has them; results that are bytes, or a block.
-/
namespace Go.Proofs.YtpmbpklbiocclaaGreat
open Go.RowKit

theorem Tryz.byteInfo : (Tryz.prog.info? 5).map (fun i => (i.zero, i.size, i.bytes)) = some (some (.int .u8 0), 1, 1) := by kernel_rfl
theorem Tryz.byteSize : (Tryz.prog.info? 5).map (·.size) = some 1 := by kernel_rfl
theorem Tryz.blockSize : (Tryz.prog.info? 50).map (·.size) = some 256 := by kernel_rfl
theorem Tryz.blockZero : (Tryz.prog.info? 50).map (·.zero) = some (some (.agg (bcells (zeros 256)))) := by kernel_rfl
theorem Tryz.blockFits {l : List UInt8} (h : l.length = 256) : (Tryz.prog.info? 50).map (·.size) = some (bcells l).size := by rw [bcells_size, h]; exact Tryz.blockSize

def RetB (w : World) (l : List UInt8) (e : Ending) (w' : World) : Prop := ∃ A n c, e = .returned (.slice A n c) ∧ l.length = n ∧ n ≤ c ∧ c ≤ maxLen ∧ RB w' A l ∧ Below w.heap.size w w'
def RetA (w : World) (l : List UInt8) (e : Ending) (w' : World) : Prop := e = .returned (.agg (bcells l)) ∧ Below w.heap.size w w'

end Go.Proofs.YtpmbpklbiocclaaGreat

/-
  Contracts of package patch, the small ones: mayBe, end, Check, To, Of, and of the document's Right.
-/
namespace Go.Proofs.YtpmbpklbiocclaaGreat
open Go.RowKit

theorem Tryz.patchZero : (Tryz.prog.info? 64).map (·.zero) = some (some (.agg #[.int .i64 0, .slice none 0 0])) := by kernel_rfl
theorem Tryz.patchSize : (Tryz.prog.info? 64).map (·.size) = some 2 := by kernel_rfl
theorem Tryz.rpatchSize : (Tryz.prog.info? 58).map (·.size) = some 2 := by kernel_rfl

theorem right_ways (p : Pt) (n : Nat) (hn : p.data.length = n) : (p.right = true ∧ 1 ≤ n ∧ n ≤ 256 ∧ 0 ≤ p.at_ ∧ p.at_ ≤ 256 - (n : Int)) ∨ (p.right = false ∧ (n = 0 ∨ (1 ≤ n ∧ (p.at_ < 0 ∨ (0 ≤ p.at_ ∧ 256 - (n : Int) < p.at_))))) := by
  subst hn
  cases h : p.right
  · right
    refine ⟨rfl, ?_⟩
    have h2 : ¬ (1 ≤ p.data.length ∧ p.data.length ≤ 256 ∧ 0 ≤ p.at_ ∧ p.at_ ≤ 256 - (p.data.length : Int)) := fun hh => by
      rw [Pt.right_iff.2 hh] at h; cases h
    omega
  · left
    exact ⟨rfl, Pt.right_iff.1 h⟩

set_option maxHeartbeats 400000 in
theorem mayBe_any (p : Pt) (A : Option Addr) (n c : Nat) (w : World) (hp : PV w p A n c) :
    Calls Tryz.prog 78 #[.agg #[.int .i64 p.at_, .slice A n c]] w fun e w' => e = .returned (.bool p.right) ∧ Below w.heap.size w w' := by
  have h0 := hp.lo
  have h1 := hp.hi
  have h2 := hp.cap
  have h3 := hp.max
  unfold maxLen at h3
  have hw := right_ways p n hp.len
  clear hp
  generalize p.right = r at *
  generalize p.at_ = z at *
  rcases hw with ⟨rfl, a1, a2, a3, a4⟩ | ⟨rfl, a1 | ⟨a1, a2 | ⟨a2, a3⟩⟩⟩
  focus (
    have d1 : decide (1 ≤ n) = true := by simpa using a1
    have d2 : decide (0 ≤ z) = true := by simpa using a3
    have d3 : decide (z ≤ 256 - (n : Int)) = true := by simpa using a4)
  rotate_left
  focus (
    have d1 : decide (1 ≤ n) = false := by simp; omega)
  rotate_left
  focus (
    have d1 : decide (1 ≤ n) = true := by simpa using a1
    have d2 : decide (0 ≤ z) = false := by simp; omega)
  rotate_left
  focus (
    have d1 : decide (1 ≤ n) = true := by simpa using a1
    have d2 : decide (0 ≤ z) = true := by simpa using a2
    have d3 : decide (z ≤ 256 - (n : Int)) = false := by simp; omega)
  rotate_left
  all_goals
    go_enter Tryz.func78, Tryz.ntmps78
    go_wp2_with (refine wpList_box_row rfl _ _ rfl _ rfl ?_)
    apply Stop.go; intro w1 Hg1 Hb1
    have c0 : w1.cell? ⟨w.heap.size, 0, none⟩ = some (.int .i64 z) := Hb1.out.cell 0
    have c1 : w1.cell? ⟨w.heap.size, 1, none⟩ = some (.slice A _ c) := Hb1.out.cell 1
    go_wp2_with fail
    go_ret
    exact ⟨rfl, Hg1.out.1⟩


def checkI (p : Pt) : Int := if p.right then 0 else 2
set_option maxHeartbeats 400000 in
theorem check_any (p : Pt) (A : Option Addr) (n c : Nat) (w : World) (hp : PV w p A n c) :
    Calls Tryz.prog 44 #[.agg #[.int .i64 p.at_, .slice A n c]] w fun e w' => e = .returned (.int .i64 (checkI p)) ∧ Below w.heap.size w w' := by
  have Hp := Lib.hid hp
  clear hp
  go_enter Tryz.func44, Tryz.ntmps44
  go_wp2_with (refine wpList_box_row rfl _ _ rfl _ rfl ?_)
  apply Stop.go; intro w1 Hg1 Hb1
  go_wp2_with (refine wpList_load_blk rfl _ _ rfl _ rfl _ _ Hb1.out _ Tryz.underlying64 rfl Tryz.patchSize ?_)
  refine (mayBe_any p A n c _ (Hp.out.below Hg1.out.1)).mono ?_; rintro e w2 ⟨rfl, hb2⟩
  have Hb2 := Lib.hid hb2
  have Hc := Lib.hid (show checkI p = if p.right then 0 else 2 from rfl)
  clear hb2
  generalize p.right = r at *
  cases r
  all_goals
    go_wp2_with fail
    go_ret
    rw [Hc.out]
    exact ⟨rfl, bt Hg1.out.1 Hb2.out⟩

def RetPS (w : World) (p : Pt) (e : Ending) (w' : World) : Prop := ∃ g n c, e = .returned (.agg #[.int .i64 p.at_, .slice (some ⟨g, 0, none⟩) n c]) ∧ PV w' p (some ⟨g, 0, none⟩) n c ∧ Below w.heap.size w w' ∧ w.heap.size ≤ g
theorem RetPS.b {w : World} {p : Pt} {e : Ending} {w' : World} (h : RetPS w p e w') : RetPB w.heap.size w p e w' := by
  obtain ⟨g, n, c, h1, h2, h3, h4⟩ := h
  exact ⟨_, n, c, h1, h2, h3, fun ad e => by injection e with e; subst e; exact h4⟩
set_option maxRecDepth 100000 in
set_option maxHeartbeats 800000 in
theorem to_any (p : Pt) (A : Option Addr) (n c : Nat) (w : World) (hp : PV w p A n c) (hn : n ≤ 70368744177664) :
    Calls Tryz.prog 51 #[.agg #[.int .i64 p.at_, .slice A n c]] w (RetPS w p) := by
  have Hp := Lib.hid hp
  clear hp
  go_enter Tryz.func51, Tryz.ntmps51
  go_wp2_with (refine wpList_box_row rfl _ _ rfl _ rfl ?_)
  apply Stop.go; intro w1 Hg1 Hb1
  go_wp2_with (refine wpList_alloc_row rfl _ rfl _ Tryz.patchZero ?_)
  apply Stop.go; intro w2 Hg2 Hb2
  have Hw2 := Lib.hid (bt Hg1.out.1 Hg2.out.1)
  have Hp2 := Lib.hid (Hp.out.below Hw2.out)
  go_wp2_with fail
  refine WH.start (S := fun w' : World => Below w1.heap.size w1 w') [false, false, false, false, false, false, false, false] 8 rfl rfl (by kernel_rfl) (bt Hg2.out.1 (bdrew w2 1)) (fun hSn => ?_)
  refine WH.tk 0 ?_; simp only [setL]
  refine WH.tv 1 rfl (fun w' hSw => exec_load_cell _ _ rfl _ rfl (.int .i64 p.at_) ((Hb1.out.ext hSw).cell 0) _ (Tryz.underlying3) rfl) ?_; simp only [setL]
  refine WH.tk 3 ?_; simp only [setL]
  refine WH.tv 4 rfl (fun w' hSw => exec_load_cell _ _ rfl _ rfl (.slice A n c) ((Hb1.out.ext hSw).cell 1) _ (Tryz.underlying56) rfl) ?_; simp only [setL]
  refine WH.only 2 _ rfl (by kernel_rfl) rfl (fun K hK => ?_)
  refine ow_build0 _ _ rfl Tryz.underlying56 Tryz.byteSize ?_
  have hSn := bt hSn (Grew.alloc w2.drew (.cells #[] 5)).1; refine hK _ _ hSn ?_; clear hK; clear K; simp only [setL]
  refine WH.only 5 _ rfl (by kernel_rfl) rfl (fun K hK => ?_)
  refine ow_append_bytes _ _ _ _ rfl Tryz.underlying56 Tryz.byteInfo rfl A n c p.data rfl Hp.out.len (Hp2.out.read.below (bdrew w2 1)) (by omega) ?_
  apply Stop.go
  intro g c' w3 Hr3 Hc3 Hb3
  have D3 := Lib.hid (bt (bdrew w2 1) Hb3.out)
  have hSn := bt Hg2.out.1 D3.out; refine hK _ _ hSn ?_; clear hK; clear K; simp only [setL]
  refine WH.tk 6 ?_; simp only [setL]
  refine WH.only 7 _ rfl (by kernel_rfl) rfl (fun K hK => ?_)
  refine ow_store _ _ _ rfl _ #[.int .i64 p.at_, .slice (some ⟨g, 0, none⟩) n c'] rfl rfl _ _ (Hb2.out.ext D3.out) Tryz.patchSize rfl (by simp [Value.oneCell']) ?_
  apply Stop.go
  intro w4 Ho4 Hb4
  have hSn := bonly (bt Hg2.out.1 D3.out) Ho4.out (Nat.le_refl _); refine hK _ _ hSn ?_; clear hK; clear K; simp only [setL]
  refine WH.done (by kernel_rfl) ?_
  have Hne := Lib.hid (show g ≠ w1.heap.size from by have h1 := Hc3.out.2.2; have h2 := Hb2.out.lt; have h3 : w2.drew.heap.size = w2.heap.size := rfl; omega)
  go_wp2_with ((with_reducible show bodyPost _ _ _ _ _ _); refine bodyPost_struct rfl _ rfl _ _ Hb4.out _ Tryz.underlying64 rfl Tryz.patchSize rfl ?_)
  apply Stop.go
  have hz1 := Hg1.out.1.size
  have hz2 := Hg2.out.1.size
  have h3 : w2.drew.heap.size = w2.heap.size := rfl
  refine ⟨g, n, c', rfl, ⟨Hp.out.lo, Hp.out.hi, Hp.out.len, Hc3.out.1, Hc3.out.2.1, fun k hk => ?_⟩, bt Hg1.out.1 hSn, ?_⟩
  · obtain ⟨ad, e, hc⟩ := Hr3.out k hk
    injection e with e
    subst e
    refine ⟨_, rfl, ?_⟩
    rw [← hc]
    refine World.cell?_of_block (Ho4.out.block _ ?_)
    rw [block_of_add]
    exact Hne.out
  · have := Hc3.out.2.2
    omega


set_option maxHeartbeats 400000 in
theorem right_any (p : Pt) (A : Option Addr) (n c : Nat) (w : World) (hp : PV w p A n c) :
    Calls Tryz.prog 83 #[.agg #[.int .i64 p.at_, .slice A n c]] w fun e w' => e = .returned (.bool p.right) ∧ Below w.heap.size w w' := by
  have h0 := hp.lo
  have h1 := hp.hi
  have h2 := hp.cap
  have h3 := hp.max
  unfold maxLen at h3
  have hw := right_ways p n hp.len
  clear hp
  generalize p.right = r at *
  generalize p.at_ = z at *
  rcases hw with ⟨rfl, a1, a2, a3, a4⟩ | ⟨rfl, a1 | ⟨a1, a⟩⟩
  focus (
    have d1 : decide (1 ≤ n) = true := by simpa using a1
    have d0 : decide ((n : Int) ≤ 256) = true := by simp; omega
    have d2 : decide (0 ≤ z) = true := by simpa using a3
    have d3 : decide (z ≤ 256 - (n : Int)) = true := by simpa using a4)
  rotate_left
  focus (
    have d1 : decide (1 ≤ n) = false := by simp; omega)
  rotate_left
  focus (
    have d1 : decide (1 ≤ n) = true := by simpa using a1
    by_cases a5 : n ≤ 256
    focus (
      have d0 : decide ((n : Int) ≤ 256) = true := by simp; omega
      rcases a with a2 | ⟨a2, a3⟩
      focus (
        have d2 : decide (0 ≤ z) = false := by simp; omega)
      rotate_left
      focus (
        have d2 : decide (0 ≤ z) = true := by simpa using a2
        have d3 : decide (z ≤ 256 - (n : Int)) = false := by simp; omega))
    rotate_right
    focus (
      have d0 : decide ((n : Int) ≤ 256) = false := by simp; omega))
  rotate_left
  all_goals
    go_enter Tryz.func83, Tryz.ntmps83
    go_wp2_with (refine wpList_box_row rfl _ _ rfl _ rfl ?_)
    apply Stop.go; intro w1 Hg1 Hb1
    have c0 : w1.cell? ⟨w.heap.size, 0, none⟩ = some (.int .i64 z) := Hb1.out.cell 0
    have c1 : w1.cell? ⟨w.heap.size, 1, none⟩ = some (.slice A _ c) := Hb1.out.cell 1
    go_wp2_with fail
    go_ret
    exact ⟨rfl, Hg1.out.1⟩

end Go.Proofs.YtpmbpklbiocclaaGreat

/-
  Contracts of package patch: Lay, part, Was, Same, Meet.
-/
namespace Go.Proofs.YtpmbpklbiocclaaGreat
set_option maxRecDepth 10000
open Go.RowKit

set_option maxHeartbeats 800000 in
theorem play_any (L : List UInt8) (hL : L.length = 256) (p : Pt) (A : Option Addr) (n c : Nat) (w : World) (hp : PV w p A n c) :
    Calls Tryz.prog 66 #[.agg (bcells L), .agg #[.int .i64 p.at_, .slice A n c]] w (RetA w (layP L p)) := by
  have HL := Lib.hid hL
  have Hp := Lib.hid hp
  clear hL hp
  go_enter Tryz.func66, Tryz.ntmps66
  go_wp2_with (refine wpList_box_row rfl _ _ rfl _ rfl ?_)
  apply Stop.go; intro w1 Hg1 Hb1
  go_wp2_with (refine wpList_box_row rfl _ _ rfl _ rfl ?_)
  apply Stop.go; intro w2 Hg2 Hb2
  go_wp2_with (refine wpList_alloc_row rfl _ rfl _ Tryz.blockZero ?_)
  apply Stop.go; intro w3 Hg3 Hb3
  have Hx2 := Lib.hid (Hb2.out.ext Hg3.out.1)
  have Hx1 := Lib.hid ((Hb1.out.ext Hg2.out.1).ext Hg3.out.1)
  have Hw3 := Lib.hid (bt (bt Hg1.out.1 Hg2.out.1) Hg3.out.1)
  have Z1 := Lib.hid Hg1.out.2
  have Z2 := Lib.hid Hg2.out.2
  have Hp3 := Lib.hid (Hp.out.below Hw3.out)
  go_wp2_with (refine wpList_load_blk rfl _ _ rfl _ rfl _ _ Hx2.out _ Tryz.underlying64 rfl Tryz.patchSize ?_)
  refine (mayBe_any p A n c _ Hp3.out).mono ?_; rintro e w4 ⟨rfl, hb4⟩
  have Hb4 := Lib.hid hb4
  have Hx4 := Lib.hid (Hx2.out.ext hb4)
  have Hy4 := Lib.hid (Hx1.out.ext hb4)
  have Hr4 := Lib.hid (Hb3.out.ext hb4)
  have Hp4 := Lib.hid (Hp3.out.below hb4)
  have Hw4 := Lib.hid (bt Hw3.out hb4)
  clear hb4
  cases hr : p.right
  · have Hl := Lib.hid (layP_wrong (L := L) hr)
    clear hr
    go_wp2_with (first | refine wpList_load_arr rfl _ _ rfl _ rfl _ _ Hy4.out _ _ Tryz.underlying50 (Tryz.blockFits HL.out) ?_ | refine wpList_store_arr rfl _ _ _ rfl _ _ rfl rfl _ _ Hr4.out (Tryz.blockFits HL.out) (by rw [bcells_size, bcells_size, HL.out, zeros_len]) (oneCell_bcells _) ?_)
    apply Stop.go; intro w5 Ho5 Hb5
    go_wp2_with ((with_reducible show bodyPost _ _ _ _ _ _); refine bodyPost_cell rfl _ rfl _ _ Hb5.out _ _ Tryz.underlying50 (Tryz.blockFits HL.out) rfl ?_)
    apply Stop.go
    have h1 := Hg1.out.1.size
    have h2 := Hg2.out.1.size
    exact ⟨by rw [Hl.out], bonly Hw4.out Ho5.out (by omega)⟩
  · have h := Pt.right_iff.1 hr
    rw [Hp.out.len] at h
    obtain ⟨h1, h2, h3, h4⟩ := h
    obtain ⟨q, hq⟩ := Int.eq_ofNat_of_zero_le h3
    have hlo : p.lo = q := by unfold Pt.lo; rw [hq]; rfl
    have Hl := Lib.hid (show layP L p = splice L q p.data by unfold layP; rw [hr, ← hlo]; rfl)
    have HM : Hid ((splice L q p.data).length = 256) := Lib.hid (by rw [splice_len _ _ _ (by rw [HL.out, Hp.out.len]; omega), HL.out])
    rw [hq] at Hx4 h4
    clear hr hlo
    go_wp2_with fail
    refine WH.start (S := fun w' : World => Blk w' w1.heap.size 64 #[.int .i64 q, .slice A n c]) [false, false, false, false, false, false] 6 rfl rfl (by kernel_rfl) (Hx4.out.ext (bdrew w4 1)) (fun hSn => ?_)
    refine WH.tk 0 ?_; simp only [setL]
    refine WH.tv 1 rfl (fun w' hSw => exec_load_cell _ _ rfl _ rfl (.int .i64 q) (hSw.cell 0) _ (Tryz.underlying3) rfl) ?_; simp only [setL]
    refine WH.tv 2 rfl (fun w' hSw => exec_slice_l _ _ _ rfl _ _ Tryz.underlying50 Tryz.byteSize _ rfl _ _ rfl q rfl (by omega)) ?_; simp only [setL]
    refine WH.tk 3 ?_; simp only [setL]
    refine WH.tv 4 rfl (fun w' hSw => exec_load_cell _ _ rfl _ rfl (.slice A n c) (hSw.cell 1) _ (Tryz.underlying56) rfl) ?_; simp only [setL]
    refine WH.only 5 _ rfl (by kernel_rfl) rfl (fun K hK => ?_)
    refine ow_copy _ _ _ _ rfl _ Tryz.underlying56 Tryz.byteSize _ _ _ _ _ _ rfl (Hy4.out.ext (bdrew w4 1)) (by rw [HL.out]; omega) A n c p.data rfl Hp.out.len (Hp4.out.read.below (bdrew w4 1)) ?_
    apply Stop.go
    intro w5 Ho5 Hb5
    have hSn := hSn.only Ho5.out (by rw [Z1.out]; omega); refine hK _ _ hSn ?_; clear hK; clear K; simp only [setL]
    refine WH.done (by kernel_rfl) ?_
    rw [List.take_of_length_le (by rw [Hp.out.len]; omega)] at Hb5
    have Hr5 := Lib.hid ((Hr4.out.ext (bdrew w4 1)).only Ho5.out (by rw [Z2.out, Z1.out]; omega))
    go_wp2_with (first | refine wpList_load_arr rfl _ _ rfl _ rfl _ _ Hb5.out _ _ Tryz.underlying50 (Tryz.blockFits HM.out) ?_ | refine wpList_store_arr rfl _ _ _ rfl _ _ rfl rfl _ _ Hr5.out (Tryz.blockFits HM.out) (by rw [bcells_size, bcells_size, HM.out, zeros_len]) (oneCell_bcells _) ?_)
    apply Stop.go; intro w6 Ho6 Hb6
    go_wp2_with ((with_reducible show bodyPost _ _ _ _ _ _); refine bodyPost_cell rfl _ rfl _ _ Hb6.out _ _ Tryz.underlying50 (Tryz.blockFits HM.out) rfl ?_)
    apply Stop.go
    exact ⟨by rw [Hl.out], bonly (bonly (bt Hw4.out (bdrew w4 1)) Ho5.out (Nat.le_refl _)) Ho6.out (by rw [Z2.out, Z1.out]; omega)⟩

set_option maxHeartbeats 400000 in
theorem clone_any (ad : Addr) (n c : Nat) (l : List UInt8) (hn : l.length = n) (hm : n ≤ 140737488355328) (w : World) (hr : RB w (some ad) l) :
    Calls Tryz.prog 48 #[.slice (some ad) n c] w fun e w' => ∃ g c', e = .returned (.slice (some ⟨g, 0, none⟩) n c') ∧ RB w' (some ⟨g, 0, none⟩) l ∧ n ≤ c' ∧ c' ≤ maxLen ∧ w.heap.size ≤ g ∧ Below w.heap.size w w' := by
  have Hn := Lib.hid hn
  have Hr := Lib.hid hr
  clear hn hr
  have qn : ∀ w' : World, (binOp .eql 56 (.slice (some ad) n c) (.slice none 0 0)).run Tryz.prog w' = .ok (.bool false) w' := fun w' => Lib.run_eql_slice_nil w' _ _ (some ad) n c 0 0 Tryz.underlying56
  go_enter Tryz.func48, Tryz.ntmps48
  go_wp2_with (first | refine wpList_build0 rfl _ _ rfl Tryz.underlying56 Tryz.byteSize ?_ | (at_builtin; refine wpList_append_bytes rfl _ _ _ _ rfl Tryz.underlying56 Tryz.byteInfo rfl (some ad) n c l rfl Hn.out Hr.out hm ?_))
  apply Stop.go
  intro g c' w1 Hr1 Hc1 Hb1
  go_wp2_with fail
  go_ret
  exact ⟨g, c', rfl, Hr1.out, Hc1.out.1, Hc1.out.2.1, Hc1.out.2.2, Hb1.out⟩







end Go.Proofs.YtpmbpklbiocclaaGreat

/-
  Lists of numbers and of bools that came in. Plain; no program is named here.
-/
namespace Go.Proofs.YtpmbpklbiocclaaGreat
open Go.ChangeShapes Go.WideShapes Go.ChangeAt Go.RowKit

section
variable {H : Type} {enc : TypeId × Value → H} {P : Program}
theorem open_int_list {w : World} {base : Nat} {r : Reach} {b0 : Nat} {t e : TypeId} {k : IntKind} {v : Value} {d : DataW H} {ps : List MemPlace} {spare : Nat → Bool} {held : Bool} (ht : P.underlying t = some (.slice e)) (he : P.underlying e = some (.int k)) (hc : P.cellsOf e = 1)
    (hv : Value.okWide P w r b0 t v) (h : DataW.Trod enc P w base spare held t v d ps) :
    ∃ (A : Option Addr) (n c : Nat) (l : List Int), v = .slice A n c ∧ l.length = n ∧ n ≤ c ∧ c ≤ maxLen ∧ RC w A (l.map (Value.int k)) ∧ ∀ z ∈ l, (Lit.int k z).wf = true := by
  obtain ⟨a0, n, c, rfl⟩ := okWide_slice ht hv
  obtain ⟨fuel, hf⟩ := h
  rcases open_ints ht he hc hf with ⟨hcs, _⟩ | ⟨a, n', c', zs, hcs, _, hl, hm, hz, _, hcell, hw⟩
  · simp [Value.cells] at hcs
    obtain ⟨rfl, rfl, rfl⟩ := hcs
    exact ⟨none, 0, 0, [], rfl, rfl, by omega, by unfold maxLen; omega, RC.nil_ _ _, by simp⟩
  · simp [Value.cells] at hcs
    obtain ⟨rfl, rfl, rfl⟩ := hcs
    have hnz : n ≤ zs.length := by rw [hz]; split <;> omega
    refine ⟨some a, n, c, zs.take n, rfl, by simp; omega, hl, hm, fun j hj => ⟨a, rfl, ?_⟩, fun z h => hw z (List.mem_of_mem_take h)⟩
    have hj' : j < n := by simp at hj; omega
    rw [hcell j (by omega)]
    simp [List.getD, show j < zs.length by omega]
end

end Go.Proofs.YtpmbpklbiocclaaGreat

/-
  Changes that came in (structs of two numbers, a patch, a slice of numbers), and slices of these. Plain; no program is named here.
-/
namespace Go.Proofs.YtpmbpklbiocclaaGreat
open Go.ChangeShapes Go.WideShapes Go.ChangeAt Go.RowKit

structure RCg (w : World) (v0 v1 v2 v3 v4 : Value) (c : Cg) : Prop where
  e0 : v0 = .int .i64 c.id
  e1 : v1 = .int .i64 c.block
  lo0 : -9223372036854775808 ≤ c.id
  hi0 : c.id < 9223372036854775808
  lo1 : -9223372036854775808 ≤ c.block
  hi1 : c.block < 9223372036854775808
  p : RP w v2 v3 c.p
  needs : ∃ A m, v4 = .slice A c.needs.length m ∧ c.needs.length ≤ m ∧ m ≤ maxLen ∧ RC w A (ivals c.needs)
  nb : ∀ z ∈ c.needs, -9223372036854775808 ≤ z ∧ z < 9223372036854775808
theorem RCg.below {w w' : World} {v0 v1 v2 v3 v4 : Value} {c : Cg} (h : RCg w v0 v1 v2 v3 v4 c) (hb : Below w.heap.size w w') : RCg w' v0 v1 v2 v3 v4 c := by
  obtain ⟨A, m, e, h1, h2, h3⟩ := h.needs
  exact ⟨h.e0, h.e1, h.lo0, h.hi0, h.lo1, h.hi1, h.p.below hb, ⟨A, m, e, h1, h2, h3.below hb⟩, h.nb⟩
def RCL (w : World) (A : Option Addr) (l : List Cg) : Prop :=
  ∀ k (h : k < l.length), ∃ ad v0 v1 v2 v3 v4, A = some ad ∧ w.cell? (ad.add (k * 5)) = some v0 ∧ w.cell? (ad.add (k * 5 + 1)) = some v1 ∧ w.cell? (ad.add (k * 5 + 2)) = some v2 ∧ w.cell? (ad.add (k * 5 + 3)) = some v3 ∧ w.cell? (ad.add (k * 5 + 4)) = some v4 ∧ RCg w v0 v1 v2 v3 v4 l[k]
theorem RCL.below {w w' : World} {A : Option Addr} {l : List Cg} (h : RCL w A l) (hb : Below w.heap.size w w') : RCL w' A l := fun k hk => by
  obtain ⟨ad, v0, v1, v2, v3, v4, e, h0, h1, h2, h3, h4, hp⟩ := h k hk
  exact ⟨ad, v0, v1, v2, v3, v4, e, by rw [hb.cell (block_lt_of_cell h0), h0], by rw [hb.cell (block_lt_of_cell h1), h1], by rw [hb.cell (block_lt_of_cell h2), h2], by rw [hb.cell (block_lt_of_cell h3), h3], by rw [hb.cell (block_lt_of_cell h4), h4], hp.below hb⟩

section
variable {H : Type} {enc : TypeId × Value → H} {P : Program}
theorem open_nums_at {w : World} {base fuel : Nat} {t e : TypeId} {cs : List Value} {x : DataW H × List MemPlace} {spare : Nat → Bool} {held : Bool} (ht : P.underlying t = some (.slice e)) (he : P.underlying e = some (.int .i64)) (hc : P.cellsOf e = 1)
    (hf : DataW.trod enc P w base spare held fuel t cs = some x) :
    ∃ (A : Option Addr) (n c : Nat) (l : List Int), cs = [.slice A n c] ∧ l.length = n ∧ n ≤ c ∧ c ≤ maxLen ∧ RC w A (ivals l) ∧ ∀ z ∈ l, -9223372036854775808 ≤ z ∧ z < 9223372036854775808 := by
  rcases open_ints ht he hc hf with ⟨hcs, _⟩ | ⟨a, n, c, zs, hcs, _, hl, hm, hz, _, hcell, hw⟩
  · exact ⟨none, 0, 0, [], hcs, rfl, by omega, by unfold maxLen; omega, RC.nil_ _ _, by simp⟩
  · have hnz : n ≤ zs.length := by rw [hz]; split <;> omega
    refine ⟨some a, n, c, zs.take n, hcs, by simp; omega, hl, hm, fun j hj => ⟨a, rfl, ?_⟩, fun z h => ?_⟩
    · have hj' : j < n := by simp [ivals] at hj; omega
      rw [hcell j (by omega)]
      simp [ivals, List.getD, show j < zs.length by omega]
    · have hb := bounds_i64 (hw z (List.mem_of_mem_take h))
      exact ⟨hb.1, by omega⟩
theorem open_change_at {w : World} {base fuel : Nat} {s sp e en : TypeId} {f0 f1 f2 f3 p0 p1 : Field} {spare : Nat → Bool} {held : Bool} {c0 c1 c2 c3 c4 : Value} {x : DataW H × List MemPlace}
    (hs : P.underlying s = some (.struct #[f0, f1, f2, f3])) (h0 : P.underlying f0.type = some (.int .i64)) (k0 : P.cellsOf f0.type = 1) (h1 : P.underlying f1.type = some (.int .i64)) (k1 : P.cellsOf f1.type = 1)
    (h2 : f2.type = sp) (k2 : P.cellsOf f2.type = 2) (h3 : P.underlying f3.type = some (.slice en)) (k3 : P.cellsOf f3.type = 1) (hen : P.underlying en = some (.int .i64)) (kn : P.cellsOf en = 1)
    (hp : P.underlying sp = some (.struct #[p0, p1])) (hp0 : P.underlying p0.type = some (.int .i64)) (kp0 : P.cellsOf p0.type = 1) (hp1 : P.underlying p1.type = some (.slice e)) (kp1 : P.cellsOf p1.type = 1) (he : P.underlying e = some (.int .u8)) (hc : P.cellsOf e = 1) (op0 : p0.offset = 0) (op1 : p1.offset = 1)
    (o0 : f0.offset = 0) (o1 : f1.offset = 1) (o2 : f2.offset = 2) (o3 : f3.offset = 4)
    (h : DataW.trod enc P w base spare held fuel s [c0, c1, c2, c3, c4] = some x) : ∃ p, RCg w c0 c1 c2 c3 c4 p := by
  obtain ⟨y0, y1, y2, y3, n, hx, _, g0, g1, g2, g3⟩ := Go.Joins.trod_struct4 hs h
  rw [o0, k0] at g0
  rw [o1, k1] at g1
  rw [o2, k2] at g2
  rw [o3, k3] at g3
  simp at g0 g1 g2 g3
  obtain ⟨z0, e0, -, w0⟩ := DataW.trod_int h0 g0
  obtain ⟨z1, e1, -, w1⟩ := DataW.trod_int h1 g1
  rw [h2] at g2
  obtain ⟨pt, hpt⟩ := open_patch_at (c0 := c2) (c1 := c3) hp hp0 kp0 hp1 kp1 he hc op0 op1 g2
  obtain ⟨A, m, c, l, e3, hl, hm, hcm, hr, hb⟩ := open_nums_at h3 hen kn g3
  simp at e0 e1 e3
  subst e0; subst e1; subst e3; subst hl
  have b0 := bounds_i64 w0
  have b1 := bounds_i64 w1
  exact ⟨⟨z0, z1, pt, l⟩, rfl, rfl, b0.1, by show z0 < _; omega, b1.1, by show z1 < _; omega, hpt, ⟨A, c, rfl, hm, hcm, hr⟩, hb⟩
theorem open_changes {w : World} {base : Nat} {r : Reach} {b0 : Nat} {t s sp e en : TypeId} {f0 f1 f2 f3 p0 p1 : Field} {v : Value} {d : DataW H} {ps : List MemPlace} {held : Bool} (ht : P.underlying t = some (.slice s))
    (hs : P.underlying s = some (.struct #[f0, f1, f2, f3])) (hC : P.cellsOf s = 5) (h0 : P.underlying f0.type = some (.int .i64)) (k0 : P.cellsOf f0.type = 1) (h1 : P.underlying f1.type = some (.int .i64)) (k1 : P.cellsOf f1.type = 1)
    (h2 : f2.type = sp) (k2 : P.cellsOf f2.type = 2) (h3 : P.underlying f3.type = some (.slice en)) (k3 : P.cellsOf f3.type = 1) (hen : P.underlying en = some (.int .i64)) (kn : P.cellsOf en = 1)
    (hp : P.underlying sp = some (.struct #[p0, p1])) (hp0 : P.underlying p0.type = some (.int .i64)) (kp0 : P.cellsOf p0.type = 1) (hp1 : P.underlying p1.type = some (.slice e)) (kp1 : P.cellsOf p1.type = 1) (he : P.underlying e = some (.int .u8)) (hc : P.cellsOf e = 1) (op0 : p0.offset = 0) (op1 : p1.offset = 1)
    (o0 : f0.offset = 0) (o1 : f1.offset = 1) (o2 : f2.offset = 2) (o3 : f3.offset = 4) (hv : Value.okWide P w r b0 t v) (h : DataW.Trod enc P w base (fun _ => true) held t v d ps) :
    ∃ (A : Option Addr) (n c : Nat) (l : List Cg), v = .slice A n c ∧ l.length = n ∧ n ≤ c ∧ c ≤ maxLen ∧ RCL w A l := by
  obtain ⟨a0, n, c, rfl⟩ := okWide_slice ht hv
  obtain ⟨fuel, hf⟩ := h
  rcases Go.Deep.open_slice ht hf with ⟨hcs, _⟩ | ⟨a, n', c', m, k, D, Pl, hcs, _, hl, hm, hmm, _, hx⟩
  · simp [Value.cells] at hcs
    obtain ⟨rfl, rfl, rfl⟩ := hcs
    exact ⟨none, 0, 0, [], rfl, rfl, by omega, by unfold maxLen; omega, fun k hk => absurd hk (by simp)⟩
  · simp only [if_true] at hmm
    simp [Value.cells] at hcs
    obtain ⟨rfl, rfl, rfl⟩ := hcs
    rw [hC] at hx
    have hall : ∀ i, i < m → ∃ p : Cg, ∃ v0 v1 v2 v3 v4, w.cell? (a.add (i * 5)) = some v0 ∧ w.cell? (a.add (i * 5 + 1)) = some v1 ∧ w.cell? (a.add (i * 5 + 2)) = some v2 ∧ w.cell? (a.add (i * 5 + 3)) = some v3 ∧ w.cell? (a.add (i * 5 + 4)) = some v4 ∧ RCg w v0 v1 v2 v3 v4 p := fun i hi => by
      obtain ⟨cs', g1, g2⟩ := hx i hi
      obtain ⟨_, hlen, hg⟩ := World.cells?_some g1
      match cs', hlen with
      | [c0, c1, c2, c3, c4], _ =>
        obtain ⟨p, hp'⟩ := open_change_at (c0 := c0) (c1 := c1) (c2 := c2) (c3 := c3) (c4 := c4) hs h0 k0 h1 k1 h2 k2 h3 k3 hen kn hp hp0 kp0 hp1 kp1 he hc op0 op1 o0 o1 o2 o3 g2
        have e0 := hg 0 (by omega)
        have e1 := hg 1 (by omega)
        have e2 := hg 2 (by omega)
        have e3 := hg 3 (by omega)
        have e4 := hg 4 (by omega)
        rw [add_of_add] at e0 e1 e2 e3 e4
        exact ⟨p, c0, c1, c2, c3, c4, by simpa using e0, by simpa using e1, by simpa using e2, by simpa using e3, by simpa using e4, hp'⟩
    obtain ⟨B, hB⟩ := Go.Deep.choose_lt (α := Cg) (p := fun i p => ∃ v0 v1 v2 v3 v4, w.cell? (a.add (i * 5)) = some v0 ∧ w.cell? (a.add (i * 5 + 1)) = some v1 ∧ w.cell? (a.add (i * 5 + 2)) = some v2 ∧ w.cell? (a.add (i * 5 + 3)) = some v3 ∧ w.cell? (a.add (i * 5 + 4)) = some v4 ∧ RCg w v0 v1 v2 v3 v4 p) hall
    refine ⟨some a, n, c, (List.range n).map B, rfl, by simp, hl, hm, fun j hj => ?_⟩
    have hj' : j < n := by simpa using hj
    obtain ⟨v0, v1, v2, v3, v4, g0, g1, g2, g3, g4, hp'⟩ := hB j (by omega)
    exact ⟨a, v0, v1, v2, v3, v4, rfl, g0, g1, g2, g3, g4, by simpa using hp'⟩
end

end Go.Proofs.YtpmbpklbiocclaaGreat

/-
  Rows of structs of N one-cell fields, of the call's own: one struct made as a slice, appended, read. Plain; no program is named here.
-/
namespace Go.Proofs.YtpmbpklbiocclaaGreat
open Go.RowKit

theorem flatN_len {N : Nat} {L : List (List Value)} (h : ∀ r ∈ L, r.length = N) : L.flatten.length = L.length * N := by
  induction L with
  | nil => simp
  | cons x L ih =>
    rw [List.flatten_cons, List.length_append, ih (fun r hr => h r (List.mem_cons_of_mem _ hr)), h x (by simp), List.length_cons, Nat.add_mul, Nat.one_mul, Nat.add_comm]
theorem flatN_get {N : Nat} {L : List (List Value)} (h : ∀ r ∈ L, r.length = N) {k i : Nat} (hk : k < L.length) (hi : i < N) : L.flatten[k * N + i]? = L[k][i]? := by
  induction L generalizing k with
  | nil => simp at hk
  | cons x L ih =>
    have hx := h x (by simp)
    rw [List.flatten_cons]
    cases k with
    | zero =>
      rw [Nat.zero_mul, Nat.zero_add, List.getElem?_append_left (by omega)]
      rfl
    | succ k =>
      have hk' : k < L.length := by simpa using hk
      rw [List.getElem?_append_right (by rw [hx, Nat.add_mul]; omega)]
      have e : (k + 1) * N + i - x.length = k * N + i := by rw [hx, Nat.add_mul]; omega
      rw [e, ih (fun r hr => h r (List.mem_cons_of_mem _ hr)) hk']
      rfl
def RN (w : World) (A : Option Addr) (N : Nat) (L : List (List Value)) : Prop :=
  ∀ k (h : k < L.length) i, i < N → ∃ ad x, A = some ad ∧ L[k][i]? = some x ∧ w.cell? (ad.add (k * N + i)) = some x
theorem RN.below {w w' : World} {A : Option Addr} {N : Nat} {L : List (List Value)} (h : RN w A N L) (hb : Below w.heap.size w w') : RN w' A N L := fun k hk i hi => by
  obtain ⟨ad, x, e, hx, hc⟩ := h k hk i hi
  exact ⟨ad, x, e, hx, by rw [hb.cell (block_lt_of_cell hc), hc]⟩
def OwnN (w : World) (B : Nat) (e : TypeId) (N : Nat) (v : Value) (L : List (List Value)) : Prop := (∀ r ∈ L, r.length = N) ∧ w.ownsRow B e N v L.length L.flatten
theorem OwnN.nil_ (w : World) (B : Nat) (e : TypeId) (N : Nat) : OwnN w B e N (.slice none 0 0) [] := ⟨fun r hr => by simp at hr, World.ownsRow_nil w B e N⟩
theorem OwnN.lt {w : World} {B : Nat} {e : TypeId} {N : Nat} {v : Value} {L : List (List Value)} (h : OwnN w B e N v L) : ∀ k, v.ownBlock = some k → B ≤ k ∧ k < w.heap.size := World.ownsRow.lt h.2
theorem OwnN.ext {w w' : World} {B : Nat} {e : TypeId} {N : Nat} {v : Value} {L : List (List Value)} (h : OwnN w B e N v L) (hb : Below w.heap.size w w') : OwnN w' B e N v L := by
  obtain ⟨hL, hl, h | ⟨g, cap, cur, hv, hbg, hg, h⟩⟩ := h
  · exact ⟨hL, hl, Or.inl h⟩
  · exact ⟨hL, hl, Or.inr ⟨g, cap, cur, hv, hbg, Blk.ext hg hb, h⟩⟩
theorem OwnN.read {w : World} {B : Nat} {e : TypeId} {N : Nat} {v : Value} {L : List (List Value)} (h : OwnN w B e N v L) : ∃ A c, v = .slice A L.length c ∧ L.length ≤ c ∧ c ≤ maxLen ∧ RN w A N L := by
  obtain ⟨hL, hl, h | ⟨g, cap, cur, hv, hb, hg, hn, hc, hs, ht⟩⟩ := h
  · refine ⟨none, 0, by rw [h.1, h.2], by omega, by unfold maxLen; omega, fun k hk => ?_⟩
    have := h.2
    omega
  · refine ⟨_, cap, hv, hn, hc, fun k hk i hi => ?_⟩
    have hil : i < L[k].length := by rw [hL _ (List.getElem_mem hk)]; exact hi
    refine ⟨_, L[k][i], rfl, List.getElem?_eq_getElem hil, ?_⟩
    have h2 : (cur.toList.take (L.length * N))[k * N + i]? = L.flatten[k * N + i]? := by rw [ht]
    have hlt : k * N + i < L.length * N := by
      have : (k + 1) * N ≤ L.length * N := Nat.mul_le_mul_right N hk
      rw [Nat.add_mul] at this
      omega
    rw [List.getElem?_take_of_lt hlt, flatN_get hL hk hi, List.getElem?_eq_getElem hil] at h2
    rw [addr_add0, cell_of_row w g _ cur e (0, 0) hg]
    simpa using h2
theorem OwnN.zero (w : World) (B : Nat) (e : TypeId) (N g : Nat) (hB : B ≤ g) (hg : Blk w g e #[]) : OwnN w B e N (.slice (some ⟨g, 0, none⟩) 0 0) [] :=
  ⟨fun r hr => by simp at hr, by simp, Or.inr ⟨g, 0, #[], rfl, hB, hg, Nat.le_refl _, by unfold maxLen; omega, by simp, by simp⟩⟩

section
variable {P : Program} {ops : Array Oper} {rest : List Oper} {o : Oper} {a : Act} {w : World} {K : Act → World → Prop} {Q : Exit → Act → World → Prop}
theorem run_build_row (P : Program) (w : World) (t e : TypeId) (ht : P.underlying t = some (.slice e)) (N by_ : Nat) (z : Value) (hi : (P.info? e).map (fun i => (i.zero, i.size, i.bytes)) = some (some z, N, by_)) (h0 : 0 < N) (hN : N ≤ 65536) (cs : Array Value) (hcs : cs.size = N) :
    (Instr.buildSlice t 1 #[(0, .agg cs)]).run P w = .ok (.slice (some ⟨w.heap.size, 0, none⟩) 1 1) (w.alloc (.cells cs e)) := by
  obtain ⟨i, h1, h2, h3, h4⟩ := info_parts hi
  have hsz : ((Array.range (1 * N)).map (z.cells[· % z.cells.size]!)).size = N := by rw [Array.size_map, Array.size_range, Nat.one_mul]
  have hf : Instr.fill (fun j => some (j * N, N)) ((Array.range (1 * N)).map (z.cells[· % z.cells.size]!)) [(0, .agg cs)] = some cs := by
    generalize (Array.range (1 * N)).map (z.cells[· % z.cells.size]!) = c0 at hsz
    have hw := Go.Great.fill_whole (s := N) h0 [.agg cs] c0 (fun v hv => by
      rw [List.mem_singleton] at hv
      subst hv
      exact hcs) (by rw [hsz, List.length_singleton, Nat.one_mul])
    have e1 : (([.agg cs] : List Value).flatMap fun v => v.cells.toList).toArray = cs := by
      rw [List.flatMap_cons, List.flatMap_nil, List.append_nil]
      exact Array.toArray_toList
    rw [e1] at hw
    exact hw
  exact run_buildSlice (P := P) w t e 1 #[(0, .agg cs)] cs i z ht h1 h2 (by rw [h3]; omega) (by rw [h3]; omega) (by rw [h3]; exact hf)
theorem ow_build_row (t e : TypeId) (x : Operand) (ho : o.op = .buildSlice t 1 #[(0, x)]) (ht : P.underlying t = some (.slice e)) (N by_ : Nat) (z : Value) (hi : (P.info? e).map (fun i => (i.zero, i.size, i.bytes)) = some (some z, N, by_)) (h0 : 0 < N) (hN : N ≤ 65536)
    (cs : Array Value) (hx : a.eval x = .agg cs) (hcs : cs.size = N) (h : Stop (∀ w', Hid (Grew w w') → Hid (Blk w' w.heap.size e cs) → K (a.put o.dst (.slice (some ⟨w.heap.size, 0, none⟩) 1 1)) w')) : o.wp P a w K Q := by
  unfold Oper.wp execOp
  simp only [ho, hx, Sem.run_bind, List.map_toArray, List.map_cons, List.map_nil, run_build_row P w t e ht N by_ z hi h0 hN cs hcs, Result.andThen_ok]
  exact h _ (Grew.alloc w _) (Blk.new w e _)
theorem wpList_build_row (hgd : Region.wanted o (yielded ops a.tmps) = true) (t e : TypeId) (x : Operand) (ho : o.op = .buildSlice t 1 #[(0, x)]) (ht : P.underlying t = some (.slice e)) (N by_ : Nat) (z : Value) (hi : (P.info? e).map (fun i => (i.zero, i.size, i.bytes)) = some (some z, N, by_)) (h0 : 0 < N) (hN : N ≤ 65536)
    (cs : Array Value) (hx : a.eval x = .agg cs) (hcs : cs.size = N) (h : Stop (∀ w', Hid (Grew w w') → Hid (Blk w' w.heap.size e cs) → wpList P ops Q rest (a.put o.dst (.slice (some ⟨w.heap.size, 0, none⟩) 1 1)) w')) : wpList P ops Q (o :: rest) a w :=
  wpList_wanted hgd fun _ hK => ow_build_row t e x ho ht N by_ z hi h0 hN cs hx hcs (fun w' h1 h2 => hK _ _ (h w' h1 h2))
theorem run_append_row (P : Program) (w : World) (t ty e : TypeId) (ht : P.underlying t = some (.slice e)) (N by_ : Nat) (z : Value) (hi : (P.info? e).map (fun i => (i.zero, i.size, i.bytes)) = some (some z, N, by_)) (hz : z.cells.size = N) (h0 : 0 < N)
    (B : Nat) (v : Value) (L : List (List Value)) (hown : OwnN w B e N v L) (ad : Addr) (n c : Nat) (M : List (List Value)) (hM : ∀ r ∈ M, r.length = N ∧ ∀ u ∈ r, u.oneCell' = true) (hn : M.length = n) (hn0 : 0 < n) (hr : RN w (some ad) N M) (hB : B ≤ w.heap.size) (hlen : L.length + n ≤ 140737488355328) (hby : (L.length + n) * by_ ≤ 140737488355328) :
    ∃ g cap w', (Builtin.append_ #[t, t] ty #[v, .slice (some ad) n c]).run P w = .ok (.slice (some ⟨g, 0, none⟩) (L.length + n) cap) w' ∧ OwnN w' B e N (.slice (some ⟨g, 0, none⟩) (L.length + n) cap) (L ++ M) ∧ Below B w w' ∧ w.grownBy w' v.ownBlock ∧ (v.ownBlock = some g ∨ g = w.heap.size) ∧ g < w'.heap.size := by
  obtain ⟨i, h1, h2, h3, h4⟩ := info_parts hi
  have hM1 : ∀ r ∈ M, r.length = N := fun r hr => (hM r hr).1
  have hfl := flatN_len hM1
  obtain ⟨g, cap, w', hrun, ho, hg, hw, hlt⟩ := run_append_lies (P := P) (w := w) t ty B e i z N by_ ht h1 h2 h3 h4 hz h0 v L.length _ hown.2 ad n c M.flatten (by rw [hfl, hn]) (fun j u hj => by
    have hjl : j < M.length * N := by
      have := (List.getElem?_eq_some_iff.1 hj).1
      rwa [hfl] at this
    have hk : j / N < M.length := (Nat.div_lt_iff_lt_mul h0).2 hjl
    obtain ⟨ad', x, e1, hx, hc⟩ := hr (j / N) hk (j % N) (Nat.mod_lt _ h0)
    injection e1 with e1
    subst e1
    have hjj : j / N * N + j % N = j := by rw [Nat.mul_comm]; exact Nat.div_add_mod j N
    rw [hjj] at hc
    have h5 := flatN_get hM1 hk (Nat.mod_lt j h0)
    rw [hjj, hj, hx] at h5
    injection h5 with h5
    rw [hc, h5]) (fun u hu => by
    obtain ⟨r, hr1, hr2⟩ := List.mem_flatten.1 hu
    exact (hM r hr1).2 u hr2) hn0 (by unfold maxLen; omega) hby hB w.heap.size rfl
  refine ⟨g, cap, w', hrun, ⟨fun r hr => ?_, ?_⟩, (Below.refl B w).grown hg hB (fun k hk => (hown.lt k hk).1), hg, hw, hlt⟩
  · rcases List.mem_append.1 hr with hr | hr
    · exact hown.1 r hr
    · exact hM1 r hr
  · rw [List.length_append, hn, List.flatten_append]
    exact ho
theorem RN.one {w : World} {g N : Nat} {e : TypeId} {cs : Array Value} (hg : Blk w g e cs) (hcs : cs.size = N) : RN w (some ⟨g, 0, none⟩) N [cs.toList] := fun k hk i hi => by
  have h0 : k = 0 := by simpa using hk
  subst h0
  refine ⟨_, cs[i]'(by omega), rfl, by simp [show i < cs.size by omega], ?_⟩
  rw [addr_add0, Nat.zero_mul, Nat.zero_add, hg.cell, Array.getElem?_eq_getElem (by omega)]
theorem ow_append_row1 (s x : Operand) (t e : TypeId) (ho : o.op = .call { callee := .builtin .append, args := #[s, x], argTypes := #[t, t] })
    (ht : P.underlying t = some (.slice e)) (N by_ : Nat) (z : Value) (hi : (P.info? e).map (fun i => (i.zero, i.size, i.bytes)) = some (some z, N, by_)) (hz : z.cells.size = N) (h0 : 0 < N)
    (B : Nat) (v : Value) (L : List (List Value)) (hs : a.eval s = v) (hown : OwnN w B e N v L) (g0 : Nat) (cs : Array Value) (hx : a.eval x = .slice (some ⟨g0, 0, none⟩) 1 1) (hg : Blk w g0 e cs) (hcs : cs.size = N) (h1 : cs.all (·.oneCell') = true) (hB : B ≤ w.heap.size) (hlen : L.length + 1 ≤ 140737488355328) (hby : (L.length + 1) * by_ ≤ 140737488355328)
    (h : Stop (∀ g cap w', Hid (OwnN w' B e N (.slice (some ⟨g, 0, none⟩) (L.length + 1) cap) (L ++ [cs.toList])) → Hid (Below B w w') → Hid (w.grownBy w' v.ownBlock) → Hid ((v.ownBlock = some g ∨ g = w.heap.size) ∧ g < w'.heap.size) → K (a.put o.dst (.slice (some ⟨g, 0, none⟩) (L.length + 1) cap)) w')) : o.wp P a w K Q := by
  obtain ⟨g, cap, w', hrun, g1, g2, g3, g4, g5⟩ := run_append_row P w t o.type e ht N by_ z hi hz h0 B v L hown ⟨g0, 0, none⟩ 1 1 [cs.toList] (fun r hr => by
    rw [List.mem_singleton] at hr
    subst hr
    exact ⟨by rw [Array.length_toList]; exact hcs, fun u hu => Array.all_eq_true_iff_forall_mem.1 h1 u (Array.mem_toList_iff.1 hu)⟩) rfl (by decide) (RN.one hg hcs) hB hlen hby
  unfold Oper.wp execOp
  simp only [ho, resolve, invoke, builtin, Sem.run_bind, Sem.run_pure, Result.andThen_ok, List.map_toArray, List.map_cons, List.map_nil, hs, hx, hrun]
  exact h g cap w' g1 g2 g3 ⟨g4, g5⟩
end

end Go.Proofs.YtpmbpklbiocclaaGreat

/-
  Lists of structs of the call's own whose slices lie elsewhere: what each row reads as stays, as the list grows. Plain; no program is named here.
-/
namespace Go.Proofs.YtpmbpklbiocclaaGreat
open Go.RowKit

def leads : Value → Option Nat
  | .slice (some ad) n _ => if n = 0 then none else some ad.block
  | _ => none
def blocksOf (r : List Value) : List Nat := r.filterMap leads
theorem mem_blocksOf {r : List Value} {g : Nat} : g ∈ blocksOf r ↔ ∃ v ∈ r, leads v = some g := by unfold blocksOf; rw [List.mem_filterMap]
structure Rds (α : Type) where
  R : World → List Value → α → Prop
  stable : ∀ {w w' : World} {r x}, R w r x → (∀ g ∈ blocksOf r, w'.heap[g]? = w.heap[g]?) → R w' r x
  there : ∀ {w : World} {r x}, R w r x → ∀ g ∈ blocksOf r, g < w.heap.size
theorem Rds.below {α : Type} (D : Rds α) {w w' : World} {r : List Value} {x : α} (h : D.R w r x) (hb : Below w.heap.size w w') : D.R w' r x := D.stable h fun g hg => hb.block g (D.there h g hg)

def OwnL {α : Type} (D : Rds α) (w : World) (B : Nat) (e : TypeId) (N : Nat) (v : Value) (l : List α) : Prop :=
  ∃ rows, OwnN w B e N v rows ∧ rows.length = l.length ∧ (∀ k (h : k < rows.length) (h' : k < l.length), D.R w rows[k] l[k]) ∧ ∀ r ∈ rows, ∀ g ∈ blocksOf r, v.ownBlock ≠ some g
theorem OwnL.nil_ {α : Type} (D : Rds α) (w : World) (B : Nat) (e : TypeId) (N : Nat) : OwnL D w B e N (.slice none 0 0) [] :=
  ⟨[], OwnN.nil_ w B e N, rfl, fun k h => absurd h (by simp), fun r hr => by simp at hr⟩
theorem OwnL.zero {α : Type} (D : Rds α) (w : World) (B : Nat) (e : TypeId) (N g : Nat) (hB : B ≤ g) (hg : Blk w g e #[]) : OwnL D w B e N (.slice (some ⟨g, 0, none⟩) 0 0) [] :=
  ⟨[], OwnN.zero w B e N g hB hg, rfl, fun k h => absurd h (by simp), fun r hr => by simp at hr⟩
theorem OwnL.ext {α : Type} {D : Rds α} {w w' : World} {B : Nat} {e : TypeId} {N : Nat} {v : Value} {l : List α} (h : OwnL D w B e N v l) (hb : Below w.heap.size w w') : OwnL D w' B e N v l := by
  obtain ⟨rows, h1, h2, h3, h4⟩ := h
  exact ⟨rows, h1.ext hb, h2, fun k hk hk' => D.below (h3 k hk hk') hb, h4⟩
def RdL {α : Type} (D : Rds α) (w : World) (A : Option Addr) (N : Nat) (l : List α) : Prop :=
  ∃ rows : List (List Value), (∀ r ∈ rows, r.length = N) ∧ RN w A N rows ∧ rows.length = l.length ∧ ∀ k (h : k < rows.length) (h' : k < l.length), D.R w rows[k] l[k]
theorem RdL.below {α : Type} {D : Rds α} {w w' : World} {A : Option Addr} {N : Nat} {l : List α} (h : RdL D w A N l) (hb : Below w.heap.size w w') : RdL D w' A N l := by
  obtain ⟨rows, h0, h1, h2, h3⟩ := h
  exact ⟨rows, h0, h1.below hb, h2, fun k hk hk' => D.below (h3 k hk hk') hb⟩
theorem OwnL.read {α : Type} {D : Rds α} {w : World} {B : Nat} {e : TypeId} {N : Nat} {v : Value} {l : List α} (h : OwnL D w B e N v l) : ∃ A c, v = .slice A l.length c ∧ l.length ≤ c ∧ c ≤ maxLen ∧ RdL D w A N l := by
  obtain ⟨rows, h1, h2, h3, _⟩ := h
  obtain ⟨A, c, hv, q1, q2, hr⟩ := h1.read
  rw [h2] at hv q1
  exact ⟨A, c, hv, q1, q2, rows, h1.1, hr, h2, h3⟩
theorem RdL.at_ {α : Type} {D : Rds α} {w : World} {A : Option Addr} {N : Nat} {l : List α} (h : RdL D w A N l) {k : Nat} (hk : k < l.length) (h0 : 0 < N) :
    ∃ ad r, A = some ad ∧ r.length = N ∧ D.R w r l[k] ∧ ∀ j v, r[j]? = some v → w.cell? ((ad.add (k * N)).add j) = some v := by
  obtain ⟨rows, h1, h2, h3, h4⟩ := h
  have hk' : k < rows.length := by omega
  obtain ⟨ad, _, e, _, _⟩ := h2 k hk' 0 h0
  refine ⟨ad, rows[k], e, h1 _ (List.getElem_mem hk'), h4 k hk' hk, fun j v hj => ?_⟩
  have hjl : j < N := by
    have := (List.getElem?_eq_some_iff.1 hj).1
    rwa [h1 _ (List.getElem_mem hk')] at this
  obtain ⟨ad', x, e', hx, hc⟩ := h2 k hk' j hjl
  rw [e] at e'
  injection e' with e'
  subst e'
  rw [hj] at hx
  injection hx with hx
  subst hx
  rw [add_of_add]
  exact hc
theorem OwnL.snoc {α : Type} {D : Rds α} {w w' : World} {B : Nat} {e : TypeId} {N : Nat} {v : Value} {l : List α} {r : List Value} {x : α} {rows : List (List Value)} {g cap n : Nat}
    (_h1 : OwnN w B e N v rows) (h2 : rows.length = l.length) (h3 : ∀ k (h : k < rows.length) (h' : k < l.length), D.R w rows[k] l[k]) (h4 : ∀ r ∈ rows, ∀ g ∈ blocksOf r, v.ownBlock ≠ some g)
    (hr : D.R w r x) (hrv : ∀ g ∈ blocksOf r, v.ownBlock ≠ some g) (ho : OwnN w' B e N (.slice (some ⟨g, 0, none⟩) n cap) (rows ++ [r])) (hg : w.grownBy w' v.ownBlock) (hw : v.ownBlock = some g ∨ g = w.heap.size) : OwnL D w' B e N (.slice (some ⟨g, 0, none⟩) n cap) (l ++ [x]) := by
  have key : ∀ r' x', D.R w r' x' → (∀ g ∈ blocksOf r', v.ownBlock ≠ some g) → D.R w' r' x' := fun r' x' hr' ha => D.stable hr' fun q hq => hg.block q (D.there hr' q hq) (fun e => ha q hq e.symm)
  have far : ∀ r' x', D.R w r' x' → (∀ g ∈ blocksOf r', v.ownBlock ≠ some g) → ∀ q ∈ blocksOf r', (Value.slice (some ⟨g, 0, none⟩) n cap).ownBlock ≠ some q := fun r' x' hr' ha q hq e => by
    have e' : g = q := by simpa [Value.ownBlock] using e
    subst e'
    rcases hw with hw | hw
    · exact ha g hq hw
    · have := D.there hr' g hq
      omega
  refine ⟨rows ++ [r], ho, by simp [h2], fun k hk hk' => ?_, fun r' hr' => ?_⟩
  · by_cases hlt : k < rows.length
    · rw [List.getElem_append_left hlt, List.getElem_append_left (by omega)]
      exact key _ _ (h3 k hlt (by omega)) (h4 _ (List.getElem_mem hlt))
    · have hkr : k = rows.length := by simp at hk; omega
      subst hkr
      simp only [List.getElem_append_right (Nat.le_refl _), Nat.sub_self, List.getElem_cons_zero]
      rw [List.getElem_append_right (by omega)]
      simp only [h2, Nat.sub_self, List.getElem_cons_zero]
      exact key _ _ hr hrv
  · rcases List.mem_append.1 hr' with hr' | hr'
    · obtain ⟨k, hk, rfl⟩ := List.getElem_of_mem hr'
      exact far _ _ (h3 k hk (by omega)) (h4 _ (List.getElem_mem hk))
    · rw [List.mem_singleton] at hr'
      subst hr'
      exact far _ _ hr hrv

section
variable {P : Program} {ops : Array Oper} {rest : List Oper} {o : Oper} {a : Act} {w : World} {K : Act → World → Prop} {Q : Exit → Act → World → Prop}
theorem ow_append_L {α : Type} (D : Rds α) (s x : Operand) (t e : TypeId) (ho : o.op = .call { callee := .builtin .append, args := #[s, x], argTypes := #[t, t] })
    (ht : P.underlying t = some (.slice e)) (N by_ : Nat) (z : Value) (hi : (P.info? e).map (fun i => (i.zero, i.size, i.bytes)) = some (some z, N, by_)) (hz : z.cells.size = N) (h0 : 0 < N)
    (B : Nat) (v : Value) (l : List α) (hs : a.eval s = v) (hown : OwnL D w B e N v l) (g0 : Nat) (cs : Array Value) (hx : a.eval x = .slice (some ⟨g0, 0, none⟩) 1 1) (hg : Blk w g0 e cs) (hcs : cs.size = N) (h1 : cs.all (·.oneCell') = true) (y : α) (hy : D.R w cs.toList y) (ha : ∀ g ∈ blocksOf cs.toList, v.ownBlock ≠ some g)
    (hB : B ≤ w.heap.size) (hlen : l.length + 1 ≤ 140737488355328) (hby : (l.length + 1) * by_ ≤ 140737488355328)
    (h : Stop (∀ g cap w', Hid (OwnL D w' B e N (.slice (some ⟨g, 0, none⟩) (l.length + 1) cap) (l ++ [y])) → Hid (Below B w w') → Hid (w.grownBy w' v.ownBlock) → Hid ((v.ownBlock = some g ∨ g = w.heap.size) ∧ g < w'.heap.size) → K (a.put o.dst (.slice (some ⟨g, 0, none⟩) (l.length + 1) cap)) w')) : o.wp P a w K Q := by
  obtain ⟨rows, r1, r2, r3, r4⟩ := hown
  refine ow_append_row1 s x t e ho ht N by_ z hi hz h0 B v rows hs r1 g0 cs hx hg hcs h1 hB (by omega) (by rw [r2]; exact hby) ?_
  intro g cap w' q1 q2 q3 q4
  rw [r2] at q1 ⊢
  exact h g cap w' (Lib.hid (OwnL.snoc r1 r2 r3 r4 hy ha q1.out q3.out q4.out.1)) q2 q3 q4
theorem wpList_append_L {α : Type} (D : Rds α) (hgd : Region.wanted o (yielded ops a.tmps) = true) (s x : Operand) (t e : TypeId) (ho : o.op = .call { callee := .builtin .append, args := #[s, x], argTypes := #[t, t] })
    (ht : P.underlying t = some (.slice e)) (N by_ : Nat) (z : Value) (hi : (P.info? e).map (fun i => (i.zero, i.size, i.bytes)) = some (some z, N, by_)) (hz : z.cells.size = N) (h0 : 0 < N)
    (B : Nat) (v : Value) (l : List α) (hs : a.eval s = v) (hown : OwnL D w B e N v l) (g0 : Nat) (cs : Array Value) (hx : a.eval x = .slice (some ⟨g0, 0, none⟩) 1 1) (hg : Blk w g0 e cs) (hcs : cs.size = N) (h1 : cs.all (·.oneCell') = true) (y : α) (hy : D.R w cs.toList y) (ha : ∀ g ∈ blocksOf cs.toList, v.ownBlock ≠ some g)
    (hB : B ≤ w.heap.size) (hlen : l.length + 1 ≤ 140737488355328) (hby : (l.length + 1) * by_ ≤ 140737488355328)
    (h : Stop (∀ g cap w', Hid (OwnL D w' B e N (.slice (some ⟨g, 0, none⟩) (l.length + 1) cap) (l ++ [y])) → Hid (Below B w w') → Hid (w.grownBy w' v.ownBlock) → Hid ((v.ownBlock = some g ∨ g = w.heap.size) ∧ g < w'.heap.size) → wpList P ops Q rest (a.put o.dst (.slice (some ⟨g, 0, none⟩) (l.length + 1) cap)) w')) : wpList P ops Q (o :: rest) a w :=
  wpList_wanted hgd fun _ hK => ow_append_L D s x t e ho ht N by_ z hi hz h0 B v l hs hown g0 cs hx hg hcs h1 y hy ha hB hlen hby (fun g cap w' q1 q2 q3 q4 => hK _ _ (h g cap w' q1 q2 q3 q4))
end

end Go.Proofs.YtpmbpklbiocclaaGreat

/-
  Changes as rows of five cells: how they read, from whatever list they are. Plain; no program is named here.
-/
namespace Go.Proofs.YtpmbpklbiocclaaGreat
open Go.RowKit

theorem RB.same {w w' : World} {A : Option Addr} {l : List UInt8} (h : RB w A l) (hs : 0 < l.length → ∀ ad, A = some ad → w'.heap[ad.block]? = w.heap[ad.block]?) : RB w' A l := fun k hk => by
  obtain ⟨ad, e, hc⟩ := h k hk
  refine ⟨ad, e, ?_⟩
  rw [World.cell?_of_block (w := w) (w' := w') (a := ad.add k) (by rw [block_of_add]; exact hs (by omega) ad e)]
  exact hc
theorem RC.same {w w' : World} {A : Option Addr} {l : List Value} (h : RC w A l) (hs : 0 < l.length → ∀ ad, A = some ad → w'.heap[ad.block]? = w.heap[ad.block]?) : RC w' A l := fun k hk => by
  obtain ⟨ad, e, hc⟩ := h k hk
  refine ⟨ad, e, ?_⟩
  rw [World.cell?_of_block (w := w) (w' := w') (a := ad.add k) (by rw [block_of_add]; exact hs (by omega) ad e)]
  exact hc
theorem leads_slice (ad : Addr) (n c : Nat) : leads (.slice (some ad) n c) = if n = 0 then none else some ad.block := rfl
def RdC : Rds Cg where
  R := fun w r c => ∃ v0 v1 v2 v3 v4, r = [v0, v1, v2, v3, v4] ∧ RCg w v0 v1 v2 v3 v4 c
  stable := by
    rintro w w' r c ⟨v0, v1, v2, v3, v4, rfl, h⟩ hs
    obtain ⟨A, m, e4, q1, q2, hr4⟩ := h.needs
    obtain ⟨A3, m3, e3, q3, q4, hr3⟩ := h.p.bytes
    refine ⟨v0, v1, v2, v3, v4, rfl, h.e0, h.e1, h.lo0, h.hi0, h.lo1, h.hi1, ⟨h.p.num, h.p.lo, h.p.hi, A3, m3, e3, q3, q4, ?_⟩, ⟨A, m, e4, q1, q2, ?_⟩, h.nb⟩
    · refine RB.same hr3 fun hl ad ha => hs ad.block (mem_blocksOf.2 ⟨v3, by simp, ?_⟩)
      subst ha
      rw [e3, leads_slice, if_neg (by omega)]
    · refine RC.same hr4 fun hl ad ha => hs ad.block (mem_blocksOf.2 ⟨v4, by simp, ?_⟩)
      subst ha
      rw [ivals_len] at hl
      rw [e4, leads_slice, if_neg (by omega)]
  there := by
    rintro w r c ⟨v0, v1, v2, v3, v4, rfl, h⟩ g hg
    obtain ⟨v, hv, hl⟩ := mem_blocksOf.1 hg
    obtain ⟨A, m, e4, q1, q2, hr4⟩ := h.needs
    obtain ⟨A3, m3, e3, q3, q4, hr3⟩ := h.p.bytes
    simp only [List.mem_cons, List.mem_nil_iff, or_false] at hv
    rcases hv with rfl | rfl | rfl | rfl | rfl
    · rw [h.e0] at hl; cases hl
    · rw [h.e1] at hl; cases hl
    · rw [h.p.num] at hl; cases hl
    · rw [e3] at hl
      cases A3 with
      | none => cases hl
      | some ad =>
        rw [leads_slice] at hl
        by_cases hz : c.p.data.length = 0
        · rw [if_pos hz] at hl; cases hl
        · rw [if_neg hz] at hl
          injection hl with hl
          subst hl
          obtain ⟨ad', e', hc⟩ := hr3 0 (by omega)
          injection e' with e'
          subst e'
          have := block_lt_of_cell hc
          rwa [block_of_add] at this
    · rw [e4] at hl
      cases A with
      | none => cases hl
      | some ad =>
        rw [leads_slice] at hl
        by_cases hz : c.needs.length = 0
        · rw [if_pos hz] at hl; cases hl
        · rw [if_neg hz] at hl
          injection hl with hl
          subst hl
          obtain ⟨ad', e', hc⟩ := hr4 0 (by rw [ivals_len]; omega)
          injection e' with e'
          subst e'
          have := block_lt_of_cell hc
          rwa [block_of_add] at this
theorem RCL.rd {w : World} {A : Option Addr} {l : List Cg} (h : RCL w A l) : RdL RdC w A 5 l := by
  have hall : ∀ k, k < l.length → ∃ r : List Value, ∃ v0 v1 v2 v3 v4, r = [v0, v1, v2, v3, v4] ∧ (∀ hk : k < l.length, RCg w v0 v1 v2 v3 v4 l[k]) ∧ ∃ ad, A = some ad ∧ ∀ i v, r[i]? = some v → w.cell? (ad.add (k * 5 + i)) = some v := fun k hk => by
    obtain ⟨ad, v0, v1, v2, v3, v4, e, h0, h1, h2, h3, h4, hr⟩ := h k hk
    refine ⟨_, v0, v1, v2, v3, v4, rfl, fun _ => hr, ad, e, fun i v hi => ?_⟩
    match i, hi with
    | 0, hi => simp at hi; subst hi; exact h0
    | 1, hi => simp at hi; subst hi; exact h1
    | 2, hi => simp at hi; subst hi; exact h2
    | 3, hi => simp at hi; subst hi; exact h3
    | 4, hi => simp at hi; subst hi; exact h4
  obtain ⟨F, hF⟩ := Go.Deep.choose_lt (α := List Value) (p := fun k r => ∃ v0 v1 v2 v3 v4, r = [v0, v1, v2, v3, v4] ∧ (∀ hk : k < l.length, RCg w v0 v1 v2 v3 v4 l[k]) ∧ ∃ ad, A = some ad ∧ ∀ i v, r[i]? = some v → w.cell? (ad.add (k * 5 + i)) = some v) hall
  refine ⟨(List.range l.length).map F, fun r hr => ?_, fun k hk i hi => ?_, by simp, fun k hk hk' => ?_⟩
  · obtain ⟨k, hk, rfl⟩ := List.mem_map.1 hr
    obtain ⟨v0, v1, v2, v3, v4, e, _⟩ := hF k (by simpa using hk)
    rw [e]
    rfl
  · have hk' : k < l.length := by simpa using hk
    obtain ⟨v0, v1, v2, v3, v4, e, _, ad, ea, hc⟩ := hF k hk'
    have hl : i < (F k).length := by rw [e]; exact hi
    exact ⟨ad, (F k)[i], ea, by simp [List.getElem?_eq_getElem hl], hc i _ (List.getElem?_eq_getElem hl)⟩
  · obtain ⟨v0, v1, v2, v3, v4, e, hr, _⟩ := hF k hk'
    exact ⟨v0, v1, v2, v3, v4, by simpa using e, hr hk'⟩
theorem RdL.change {w : World} {A : Option Addr} {l : List Cg} (h : RdL RdC w A 5 l) {k : Nat} (hk : k < l.length) :
    ∃ ad v0 v1 v2 v3 v4, A = some ad ∧ RCg w v0 v1 v2 v3 v4 l[k] ∧ w.cell? (ad.add (k * 5)) = some v0 ∧ w.cell? ((ad.add (k * 5)).add 1) = some v1 ∧ w.cell? ((ad.add (k * 5)).add 2) = some v2 ∧ w.cell? ((ad.add (k * 5)).add 3) = some v3 ∧ w.cell? ((ad.add (k * 5)).add 4) = some v4 := by
  obtain ⟨ad, r, e, _, ⟨v0, v1, v2, v3, v4, rfl, hr⟩, hc⟩ := h.at_ hk (by decide)
  have h0 := hc 0 v0 rfl
  rw [add_of_add, Nat.add_zero] at h0
  exact ⟨ad, v0, v1, v2, v3, v4, e, hr, h0, hc 1 v1 rfl, hc 2 v2 rfl, hc 3 v3 rfl, hc 4 v4 rfl⟩

end Go.Proofs.YtpmbpklbiocclaaGreat
