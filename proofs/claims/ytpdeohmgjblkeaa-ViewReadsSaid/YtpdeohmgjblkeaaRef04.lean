/-
  Contracts of the document's answers 04: Has, Bits, Block.
-/
import Derived.Test.YtpdeohmgjblkeaaChart1
namespace Go.Proofs.Ytpdeohmgjblkeaa
open Go.RowKit

theorem Try.boolInfo : (Try.prog.info? 4).map (fun i => (i.zero, i.size, i.bytes)) = some (some (.bool false), 1, 1) := by kernel_rfl

theorem Try.boolSize : (Try.prog.info? 4).map (·.size) = some 1 := by kernel_rfl

/-! Halving, as whole numbers. -/
theorem half_next (x k : Nat) : ((x / 2 ^ k : Nat) : Int) / 2 = ((x / 2 ^ (k + 1) : Nat) : Int) := by
  rw [Nat.pow_succ, ← Nat.div_div_eq_div_mul]
  omega
theorem half_bit (x k : Nat) : (((x / 2 ^ k : Nat) : Int) % 2 == 1) = x.testBit k := by
  rw [← bit_half]
  generalize x / 2 ^ k = y
  rw [Bool.eq_iff_iff]
  simp only [beq_iff_eq, decide_eq_true_eq]
  omega
theorem half_lt (x k : Nat) (h : x < 256) : x / 2 ^ k < 256 := Nat.lt_of_le_of_lt (Nat.div_le_self _ _) h

/-- Whether a bit of any bytes is set. -/
def rhasB (l : List UInt8) (i : Int) : Bool := decide (0 ≤ i ∧ i < 8 * l.length) && bitAt l i.toNat
set_option maxHeartbeats 1600000 in
theorem rhas_any (A : Option Addr) (n cap : Nat) (l : List UInt8) (hn : l.length = n) (hm : n ≤ 4096) (i : Int) (hi : i < 9223372036854775808) (w : World) (hr : RB w A l) :
    Calls Try.prog 37 #[.slice A n cap, .int .i64 i] w fun e w' => e = .returned (.bool (rhasB l i)) ∧ w = w' := by
  have Hn := Lib.hid hn
  by_cases h0 : i < 0
  · have d0 : decide (i < 0) = true := by simpa using h0
    have Hh := Lib.hid (show rhasB l i = false by unfold rhasB; rw [decide_eq_false (by omega)]; rfl)
    clear hn
    go_enter Try.func37, Try.ntmps37
    go_wp2_with fail
    go_ret
    rw [Hh.out]
    exact ⟨rfl, rfl⟩
  · obtain ⟨p, rfl⟩ := Int.eq_ofNat_of_zero_le (show 0 ≤ i by omega)
    have d0 : decide ((p : Int) < 0) = false := by simp
    have hm' : (n : Int) ≤ 4096 := by omega
    by_cases h1 : p < 8 * n
    · have d1 : decide (8 * (n : Int) ≤ p) = false := by simp; omega
      have hkl : p / 8 < l.length := by omega
      have Hb := Lib.hid (show bitAt l p = (l[p / 8]).toNat.testBit (p % 8) by unfold bitAt; simp [List.getD, hkl])
      have Hh := Lib.hid (show rhasB l p = bitAt l p by unfold rhasB; rw [decide_eq_true (by omega)]; rfl)
      obtain ⟨ad, rfl, hc⟩ := hr (p / 8) hkl
      have hxlt := (l[p / 8]).toNat_lt
      generalize l[p / 8] = x at *
      obtain ⟨q, hq⟩ : ∃ q, p / 8 = q := ⟨_, rfl⟩
      obtain ⟨r, hr8⟩ : ∃ r, p % 8 = r := ⟨_, rfl⟩
      have hqw : IntKind.i64.wrap (q : Int) = q := IntWalk.i64_in _ (by omega)
      have hqq : (p : Int) / 8 = q := by omega
      have hrr : (p : Int) % 8 = r := by omega
      have hqn : q < n := by omega
      have hql : (q : Int) < n := by omega
      have hr0 : r < 8 := by omega
      rw [hq] at hc
      rw [hr8] at Hb
      clear hn hq hr8 hkl hi h0 h1 hr
      go_enter Try.func37, Try.ntmps37
      go_wp2_with fail
      go_loop [5, 6] (fun y i => ∃ k : Nat, k ≤ r ∧ i = .int .i64 k ∧ y = .int .i64 ((x.toNat / 2 ^ k : Nat) : Int)) (fun _ i => r - (intOf i).toNat)
      case atStart => exact ⟨0, Nat.zero_le _, rfl, by simp⟩
      case round =>
        obtain ⟨k, hk, rfl, rfl⟩ := hrel
        have Hn2 := Lib.hid (half_next x.toNat k)
        have hlt2 := half_lt x.toNat k hxlt
        have hlt3 := half_lt x.toNat (k + 1) hxlt
        have hbt := half_bit x.toNat k
        generalize x.toNat / 2 ^ k = y at *
        obtain ⟨z, hz⟩ : ∃ z, x.toNat / 2 ^ (k + 1) = z := ⟨_, rfl⟩
        have Hz := Lib.hid hz
        rw [hz] at Hn2 hlt3
        have hyz : (y : Int) / 2 = z := Hn2.out
        clear hz
        by_cases hlt : k < r
        · have d2 : decide ((k : Int) < r) = true := by simpa using hlt
          go_wp2_with fail
          exact ⟨⟨k + 1, by omega, by go_num, by rw [Hz.out]⟩, by simp [intOf]; omega⟩
        · have d2 : decide ((k : Int) < r) = false := by simpa using hlt
          go_wp2_with fail
          go_ret
          rw [Hh.out, Hb.out, show k = r by omega]
          exact ⟨rfl, rfl⟩
    · have d1 : decide (8 * (n : Int) ≤ p) = true := by simp; omega
      have Hh := Lib.hid (show rhasB l p = false by unfold rhasB; rw [decide_eq_false (by omega)]; rfl)
      clear hn h1
      go_enter Try.func37, Try.ntmps37
      go_wp2_with fail
      go_ret
      rw [Hh.out]
      exact ⟨rfl, rfl⟩



end Go.Proofs.Ytpdeohmgjblkeaa
