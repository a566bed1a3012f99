/-
  Contracts of super's mayBe, Check and Same, and of the document's May.
-/
import Derived.Test.YtfhghcodhacneaaGrB
import Derived.Test.YtfhghcodhacneaaPatO
import Derived.Test.YtfhghcodhacneaaEqA
import Derived.Laws.StructEq
namespace Go.Proofs.Ytfhghcodhacneaa
open Go.RowKit

theorem Try.laySize : (Try.prog.info? 31).map (·.size) = some 3 := by kernel_rfl
theorem Blk.lay0 {w : World} {g : Nat} {t : TypeId} {l : Lay14} (h : Blk w g t l.val) : w.cell? ⟨g, 0, none⟩ = some (.int .i64 l.blocks) := h.cell 0
theorem Blk.lay1 {w : World} {g : Nat} {t : TypeId} {l : Lay14} (h : Blk w g t l.val) : w.cell? ⟨g, 1, none⟩ = some (.int .i64 l.inodes) := h.cell 1
theorem Blk.lay2 {w : World} {g : Nat} {t : TypeId} {l : Lay14} (h : Blk w g t l.val) : w.cell? ⟨g, 2, none⟩ = some (.int .u64 (l.merge : Nat)) := h.cell 2
theorem val_one (l : Lay14) : l.val.all (·.oneCell') = true := by simp [Lay14.val, Value.oneCell']
def zero14 : Lay14 := ⟨0, 0, 0⟩
theorem Try.layZero : (Try.prog.info? 31).map (·.zero) = some (some (.agg zero14.val)) := by kernel_rfl
set_option maxHeartbeats 800000 in
theorem maybe_any (l : Lay14) (w : World) :
    Calls Try.prog 41 #[.agg l.val] w fun e w' => e = .returned (.bool l.may) ∧ Below w.heap.size w w' := by
  have M := Lib.hid (@Lay14.may_iff l)
  go_enter Try.func41, Try.ntmps41
  go_wp2_with (refine wpList_box_row rfl _ _ rfl _ rfl ?_)
  apply Stop.go; intro w1 Hg1 Hb1
  have c0 := Hb1.out.lay0
  have c1 := Hb1.out.lay1
  go_wp2_with fail
  all_goals
    go_ret
    exact ⟨congrArg (fun b => Ending.returned (.bool b)) (Bool.eq_iff_iff.2 (by rw [M.out]; simp only [decide_eq_true_eq, Bool.false_eq_true, false_iff]; omega)), Hg1.out.1⟩


set_option maxHeartbeats 800000 in
theorem check14_any (l : Lay14) (w : World) :
    Calls Try.prog 25 #[.agg l.val] w fun e w' => e = .returned (.int .i64 (okArg l.may)) ∧ Below w.heap.size w w' := by
  go_enter Try.func25, Try.ntmps25
  go_wp2_with (refine wpList_box_row rfl _ _ rfl _ rfl ?_)
  apply Stop.go; intro w1 Hg1 Hb1
  go_wp2_with (refine wpList_load_blk rfl _ _ rfl _ rfl _ _ Hb1.out _ Try.underlying31 rfl Try.laySize ?_)
  refine (maybe_any l _).mono ?_; rintro e w2 ⟨rfl, hb2⟩
  have Hb2 := Lib.hid hb2
  clear hb2
  have Hbel := Lib.hid (bt Hg1.out.1 Hb2.out)
  obtain ⟨b, Hm⟩ : ∃ b, Hid (l.may = b) := ⟨_, Lib.hid rfl⟩
  rw [Hm.out]
  cases b
  all_goals
    go_wp2_with fail
    go_ret
    rw [Hm.out]
    exact ⟨rfl, Hbel.out⟩

/-- Are two layouts the same? -/
def Lay14.eqB (l m : Lay14) : Bool := l.blocks == m.blocks && (l.inodes == m.inodes && l.merge == m.merge)
theorem Lay14.eqB_iff {l m : Lay14} : l.eqB m = true ↔ l = m := by
  unfold Lay14.eqB
  rw [Lay14.ext_iff']
  simp
theorem Lay14.eqB_self (l : Lay14) : l.eqB l = true := Lay14.eqB_iff.2 rfl
set_option maxHeartbeats 800000 in
theorem run_eql_lay (l m : Lay14) (w : World) : (binOp .eql 31 (.agg l.val) (.agg m.val)).run Try.prog w = .ok (.bool (l.eqB m)) w := by
  unfold Lay14.val Lay14.eqB
  go_simp
  have h4 : ((l.merge : Int) = (m.merge : Int)) ↔ l.merge = m.merge := by omega
  simp only [h4]
  by_cases h1 : l.blocks = m.blocks <;> by_cases h2 : l.inodes = m.inodes <;> by_cases h3 : l.merge = m.merge <;> simp [h1, h2, h3]


end Go.Proofs.Ytfhghcodhacneaa
