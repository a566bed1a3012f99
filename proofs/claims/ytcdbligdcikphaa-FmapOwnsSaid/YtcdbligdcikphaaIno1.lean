/-
  Contracts of inode's isShort, areShort, numberAt, Numbers, mayBe, Check and Blocks; '==' of two inodes.
-/
import Derived.Test.YtcdbligdcikphaaRows
import Derived.Test.YtcdbligdcikphaaArrI
import Derived.Test.YtcdbligdcikphaaEqA
import Derived.Test.YtcdbligdcikphaaPatO
import Derived.Test.YtcdbligdcikphaaGrC
import Derived.Test.YtcdbligdcikphaaArr
namespace Go.Proofs.Ytcdbligdcikphaa
open Go.RowKit
set_option maxRecDepth 10000

theorem Try.inoSize : (Try.prog.info? 25).map (·.size) = some 11 := by kernel_rfl
theorem Try.inoZero : (Try.prog.info? 25).map (·.zero) = some (some (.agg (icells freeI))) := by kernel_rfl
theorem Try.numSize : (Try.prog.info? 3).map (·.size) = some 1 := by kernel_rfl
theorem Try.inoFits {l : List Int} (h : l.length = 11) : (Try.prog.info? 25).map (·.size) = some (icells l).size := by rw [icells_size, h]; exact Try.inoSize
theorem freeI_len : freeI.length = 11 := rfl

set_option maxHeartbeats 1600000 in
theorem run_eql_ino (l m : List Int) (hl : l.length = 11) (hm : m.length = 11) (w : World) : (binOp .eql 25 (.agg (icells l)) (.agg (icells m))).run Try.prog w = .ok (.bool (l == m)) w := by
  obtain ⟨a0, a1, a2, a3, a4, a5, a6, a7, a8, a9, a10, rfl⟩ := list_eleven hl
  obtain ⟨b0, b1, b2, b3, b4, b5, b6, b7, b8, b9, b10, rfl⟩ := list_eleven hm
  have hA := fun d (w : World) => run_equalIn_ints (P := Try.prog) w d 23 3 6 Try.underlying23 Try.underlying3 (sizeOf_of Try.numSize) [a4, a5, a6, a7, a8, a9] [b4, b5, b6, b7, b8, b9] rfl rfl
  unfold icells at hA ⊢
  simp only [List.map_cons, List.map_nil] at hA ⊢
  go_simp
  by_cases h0 : a0 = b0
  case neg => simp [h0]
  by_cases h1 : a1 = b1
  case neg => simp [h1]
  by_cases h2 : a2 = b2
  case neg => simp [h2]
  by_cases h3 : a3 = b3
  case neg => simp [h3]
  by_cases h4 : a4 = b4
  case neg => simp [h4]
  by_cases h5 : a5 = b5
  case neg => simp [h5]
  by_cases h6 : a6 = b6
  case neg => simp [h6]
  by_cases h7 : a7 = b7
  case neg => simp [h7]
  by_cases h8 : a8 = b8
  case neg => simp [h8]
  by_cases h9 : a9 = b9
  case neg => simp [h9]
  by_cases h10 : a10 = b10
  case neg => simp [h0, h1, h2, h3, h10]
  simp [h0, h1, h2, h3, h4, h5, h6, h7, h8, h9, h10]
theorem run_neq_ino (l m : List Int) (hl : l.length = 11) (hm : m.length = 11) (w : World) : (binOp .neq 25 (.agg (icells l)) (.agg (icells m))).run Try.prog w = .ok (.bool (!(l == m))) w := by
  have h := run_eql_ino l m hl hm w
  rw [run_eql_struct] at h
  rw [run_neq_struct]
  revert h
  generalize (Op.equalIn 10000 25 (.agg (icells l)) (.agg (icells m))).run Try.prog w = r
  intro h
  cases r with
  | ok b w' =>
    simp only [Result.andThen_ok, Result.ok.injEq, Value.bool.injEq] at h ⊢
    exact ⟨by rw [h.1], h.2⟩
  | halt x w' => simp [Result.andThen] at h



set_option maxHeartbeats 400000 in
theorem blocks_any (n : Int) (w : World) : Calls Try.prog 25 #[.int .i64 n] w fun e w' => e = .returned (.int .i64 (blocksI n)) ∧ w = w' := by
  obtain ⟨m, hm⟩ : ∃ m, max 0 (min n 34304) = m := ⟨_, rfl⟩
  have HB := Lib.hid (show blocksI n = (m + 255) / 256 by unfold blocksI; rw [hm])
  have h0 : 0 ≤ m ∧ m ≤ 34304 := by omega
  go_enter Try.func25, Try.ntmps25
  go_wp2
  all_goals
    go_ret
    refine ⟨congrArg (fun x => Ending.returned (.int .i64 x)) ?_, rfl⟩
    rw [HB.out]
    omega





end Go.Proofs.Ytcdbligdcikphaa
