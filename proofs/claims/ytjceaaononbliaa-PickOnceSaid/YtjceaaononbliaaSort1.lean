/-
  A block of numbers that is sorted in place: the world that it passes through; the contracts of swapRange and rotate.
-/
import Derived.Test.YtjceaaononbliaaSortA
import Derived.Test.YtjceaaononbliaaReal3
import Derived.Test.YtjceaaononbliaaCell
import Derived.BigQuiet
import Derived.BigRegion
import Derived.Deep.QuietTactic
namespace Go.Proofs.Ytjceaaononbliaa
open Go.RowKit

/-- Numbers by their places, as cells. -/
def fc (n : Nat) (f : Nat → Nat) : Array Value := ((List.range n).map fun k => Value.int .i64 (f k : Int)).toArray
theorem fc_size (n : Nat) (f : Nat → Nat) : (fc n f).size = n := by simp [fc]
theorem fc_get {n k : Nat} (f : Nat → Nat) (h : k < n) : (fc n f)[k]? = some (.int .i64 (f k : Int)) := by simp [fc, h]
theorem fc_set (n : Nat) (f : Nat → Nat) (k x : Nat) : (fc n f).setIfInBounds k (.int .i64 (x : Int)) = fc n (upd f k x) := by
  apply Array.ext_getElem?
  intro i
  rw [Array.getElem?_setIfInBounds]
  by_cases h : k = i
  · subst h
    rw [if_pos rfl, fc_size]
    by_cases hk : k < n
    · rw [if_pos hk, fc_get _ hk]; unfold upd; rw [if_pos rfl]
    · rw [if_neg hk, Array.getElem?_eq_none (by rw [fc_size]; omega)]
  · rw [if_neg h]
    by_cases hi : i < n
    · rw [fc_get _ hi, fc_get _ hi]; unfold upd; rw [if_neg (by omega)]
    · rw [Array.getElem?_eq_none (by rw [fc_size]; omega), Array.getElem?_eq_none (by rw [fc_size]; omega)]

/-- The world as it was, but for the block g, which has these n numbers (and for draws). -/
structure SF (w0 : World) (g : Nat) (t : TypeId) (n : Nat) (f : Nat → Nat) (w : World) : Prop where
  only : Only w0 w g
  blk : Blk w g t (fc n f)
section
variable {w0 w : World} {g n : Nat} {t : TypeId} {f : Nat → Nat}
theorem SF.cell (h : SF w0 g t n f w) {i : Nat} (hi : i < n) : w.cell? ⟨g, i, none⟩ = some (.int .i64 (f i : Int)) := by rw [h.blk.cell, fc_get f hi]
theorem SF.frozen (h : SF w0 g t n f w) (i : Nat) : w.frozen? ⟨g, i, none⟩ = false := h.blk.frozen i
theorem SF.drewN (h : SF w0 g t n f w) (k : Nat) : SF w0 g t n f (w.drewN k) := ⟨⟨h.only.os, h.only.tape, h.only.output, h.only.size, h.only.block⟩, h.blk⟩
theorem SF.drew (h : SF w0 g t n f w) : SF w0 g t n f w.drew := ⟨⟨h.only.os, h.only.tape, h.only.output, h.only.size, h.only.block⟩, h.blk⟩
theorem SF.set_ (h : SF w0 g t n f w) (k x : Nat) : SF w0 g t n (upd f k x) (w.setCell ⟨g, k, none⟩ (.int .i64 (x : Int))) :=
  ⟨h.only.setCell k _, by rw [← fc_set]; exact h.blk.set_ k _⟩
theorem SF.swap (h : SF w0 g t n f w) (i j : Nat) : SF w0 g t n (swp f i j) ((w.setCell ⟨g, i, none⟩ (.int .i64 (f j : Int))).setCell ⟨g, j, none⟩ (.int .i64 (f i : Int))) := by
  rw [← swp_upd]
  exact (h.set_ i (f j)).set_ j (f i)
theorem SF.other (h : SF w0 g t n f w) {i j : Nat} (hij : i ≠ j) (hj : j < n) (v : Value) : (w.setCell ⟨g, i, none⟩ v).cell? ⟨g, j, none⟩ = some (.int .i64 (f j : Int)) := by
  rw [World.cell?_setCell_other _ _ _ _ (by intro e; simp only [Addr.mk.injEq] at e; omega)]; exact h.cell hj
end

set_option maxHeartbeats 2000000 in
theorem swapRange_any (w0 : World) (g : Nat) (t : TypeId) (n cap : Nat) (f : Nat → Nat) (a b m : Nat) (fn : Value) (hab : a + m ≤ b) (hb : b + m ≤ n) (hn : n < 4611686018427387904) (w : World) (S : SF w0 g t n f w) :
    Calls Try.prog 46 #[.slice (some ⟨g, 0, none⟩) n cap, .int .i64 a, .int .i64 b, .int .i64 m, fn] w fun e w' => e = .returned (.tuple #[]) ∧ SF w0 g t n (swpR f a b m) w' := by
  have S0 := Lib.hid S
  clear S
  go_enter Try.func46, Try.ntmps46
  go_wp2_with fail
  go_loopw [10] (fun i wr => ∃ k : Nat, k ≤ m ∧ i = .int .i64 k ∧ SF w0 g t n (swpR f a b k) wr) (fun i _ => m - (intOf i).toNat)
  case atStart => exact ⟨0, Nat.zero_le _, rfl, by rw [swpR_zero]; exact S0.out⟩
  case round =>
    obtain ⟨k, hk, rfl, S1⟩ := hrel
    by_cases hlt : k < m
    · have d0 : decide ((k : Int) < m) = true := by simpa using hlt
      have HN := Lib.hid (swpR_next f a b k (by omega))
      generalize swpR f a b k = f1 at *
      obtain ⟨i, hi⟩ : ∃ i, i = a + k := ⟨_, rfl⟩
      obtain ⟨j, hj⟩ : ∃ j, j = b + k := ⟨_, rfl⟩
      have q1 : IntKind.i64.wrap ((a : Int) + k) = i := by rw [IntKind.wrap_i64]; omega
      have q2 : IntKind.i64.wrap ((b : Int) + k) = j := by rw [IntKind.wrap_i64]; omega
      have Hm := Lib.hid hlt
      have hin : i < n := by omega
      have hjn : j < n := by omega
      have hiz : (i : Int) < n := by omega
      have hjz : (j : Int) < n := by omega
      have hij : i ≠ j := by omega
      have c1 := S1.cell hin
      have c2 := S1.cell hjn
      have c3 := S1.other hij hjn (.int .i64 (f1 j : Int))
      have z1 := S1.frozen i
      have z2 := S1.frozen j
      have S2 := Lib.hid (S1.swap i j).drew
      rw [← hi, ← hj] at HN
      have HN2 := Lib.hid HN.out
      clear S1 hlt hij hi hj HN
      go_wp2_with fail
      go_region
      clear c1 c2 c3 z1 z2
      generalize ((wr.setCell ⟨g, i, none⟩ (Value.int IntKind.i64 (f1 j : Int))).setCell ⟨g, j, none⟩ (Value.int IntKind.i64 (f1 i : Int))).drew = w3 at *
      go_wp2_with fail
      go_roundw
      case rel => exact ⟨k + 1, by have := Hm.out; omega, by go_num, by rw [← HN2.out]; exact S2.out⟩
      case measure => have := Hm.out; simp [intOf]; omega
    · have d0 : decide ((k : Int) < m) = false := by simpa using hlt
      obtain rfl : k = m := by omega
      go_wp2_with fail
      go_end0
      exact ⟨rfl, S1⟩

set_option maxHeartbeats 2000000 in
theorem rotate_any (w0 : World) (g : Nat) (t : TypeId) (n cap : Nat) (f : Nat → Nat) (a m b : Nat) (fn : Value) (ham : a < m) (hmb : m < b) (hb : b ≤ n) (hn : n < 4611686018427387904) (w : World) (S : SF w0 g t n f w) :
    Calls Try.prog 45 #[.slice (some ⟨g, 0, none⟩) n cap, .int .i64 a, .int .i64 m, .int .i64 b, fn] w fun e w' => e = .returned (.tuple #[]) ∧ SF w0 g t n (rot f a m b) w' := by
  have S0 := Lib.hid S
  have q1 : IntKind.i64.wrap ((m : Int) - a) = ((m - a : Nat) : Int) := by rw [IntKind.wrap_i64]; omega
  have q2 : IntKind.i64.wrap ((b : Int) - m) = ((b - m : Nat) : Int) := by rw [IntKind.wrap_i64]; omega
  have Hlt := Lib.hid (show a < m ∧ m < b ∧ b ≤ n from ⟨ham, hmb, hb⟩)
  clear S ham hmb hb
  go_enter Try.func45, Try.ntmps45
  go_wp2_with fail
  go_loopw [10, 11] (fun u v wr => ∃ (i j : Nat) (f1 : Nat → Nat), 0 < i ∧ 0 < j ∧ i ≤ m - a ∧ j ≤ b - m ∧ u = .int .i64 i ∧ v = .int .i64 j ∧ rot f1 (m - i) m (m + j) = rot f a m b ∧ SF w0 g t n f1 wr) (fun u v _ => (intOf u).toNat + (intOf v).toNat)
  case atStart =>
    have := Hlt.out
    exact ⟨m - a, b - m, f, by omega, by omega, Nat.le_refl _, Nat.le_refl _, rfl, rfl, by rw [show m - (m - a) = a by omega, show m + (b - m) = b by omega], S0.out⟩
  case round =>
    obtain ⟨i, j, f1, hi0, hj0, hi, hj, rfl, rfl, hR, S1⟩ := hrel
    have HB := Lib.hid (show 0 < i ∧ 0 < j ∧ i ≤ m - a ∧ j ≤ b - m from ⟨hi0, hj0, hi, hj⟩)
    have HR := Lib.hid hR
    have HS := Lib.hid S1
    clear hi0 hj0 hi hj hR S1 q1 q2
    have q3 : IntKind.i64.wrap ((m : Int) - i) = ((m - i : Nat) : Int) := by have := HB.out; have := Hlt.out; rw [IntKind.wrap_i64]; omega
    by_cases hij : i = j
    · subst hij
      have d0 : ((i : Int) != i) = false := by simp
      have hc := fun W (S : SF w0 g t n f1 W) => swapRange_any w0 g t n cap f1 (m - i) m i fn (by have := HB.out; have := Hlt.out; omega) (by have := HB.out; have := Hlt.out; omega) hn W S
      have HC := Lib.hid hc
      clear hc
      go_wp2_with (go_at_call 46; refine (HC.out _ HS.out).mono ?_; rintro _ w1 ⟨rfl, S2⟩)
      go_end0
      refine ⟨rfl, ?_⟩
      rw [rot_same _ _ _ (by have := HB.out; have := Hlt.out; omega), HR.out] at S2
      exact S2
    · have d0 : ((i : Int) != j) = true := by simp; omega
      by_cases hlt : j < i
      · have d1 : decide (j < i) = true := by simpa using hlt
        have q4 : IntKind.i64.wrap ((i : Int) - j) = ((i - j : Nat) : Int) := by have := HB.out; have := Hlt.out; rw [IntKind.wrap_i64]; omega
        have hc := fun W (S : SF w0 g t n f1 W) => swapRange_any w0 g t n cap f1 (m - i) m j fn (by have := HB.out; have := Hlt.out; omega) (by have := HB.out; have := Hlt.out; omega) hn W S
        have HC := Lib.hid hc
        have Hl := Lib.hid hlt
        clear hc hlt hij
        go_wp2_with (go_at_call 46; refine (HC.out _ HS.out).mono ?_; rintro _ w1 ⟨rfl, S2⟩)
        go_roundw
        case rel =>
          have := HB.out; have := Hlt.out; have := Hl.out
          refine ⟨i - j, j, _, by omega, by omega, by omega, by omega, rfl, rfl, ?_, S2⟩
          rw [← HR.out, ← rot_left f1 m i j (by omega) Hl.out]
          congr 1; omega
        case measure => have := HB.out; have := Hl.out; simp [intOf]; omega
      · have d1 : decide (j < i) = false := by simpa using hlt
        have q4 : IntKind.i64.wrap ((j : Int) - i) = ((j - i : Nat) : Int) := by have := HB.out; have := Hlt.out; rw [IntKind.wrap_i64]; omega
        obtain ⟨s, hs⟩ : ∃ s, s = m + j := ⟨_, rfl⟩
        obtain ⟨r, hr⟩ : ∃ r, r = m + j - i := ⟨_, rfl⟩
        have q5 : IntKind.i64.wrap ((m : Int) + j) = s := by have := HB.out; have := Hlt.out; rw [IntKind.wrap_i64]; omega
        have q6 : IntKind.i64.wrap ((s : Int) - i) = r := by have := HB.out; have := Hlt.out; rw [IntKind.wrap_i64]; omega
        have hc := fun W (S : SF w0 g t n f1 W) => swapRange_any w0 g t n cap f1 (m - i) r i fn (by have := HB.out; have := Hlt.out; omega) (by have := HB.out; have := Hlt.out; omega) hn W S
        have HC := Lib.hid hc
        have Hr := Lib.hid hr
        clear hs hr
        have Hl := Lib.hid (show i < j by omega)
        clear hc hlt hij
        go_wp2_with (go_at_call 46; refine (HC.out _ HS.out).mono ?_; rintro _ w1 ⟨rfl, S2⟩)
        go_roundw
        case rel =>
          have := HB.out; have := Hlt.out; have := Hl.out
          refine ⟨i, j - i, _, by omega, by omega, by omega, by omega, rfl, rfl, ?_, S2⟩
          rw [← HR.out, ← rot_right f1 m i j (by omega) Hl.out, Hr.out]
          congr 1; omega
        case measure => have := HB.out; have := Hl.out; simp [intOf]; omega

end Go.Proofs.Ytjceaaononbliaa
