import Derived.Test.YtennkfpehdijcaaRows
import Derived.Test.YtennkfpehdijcaaBase
import Derived.Test.YtennkfpehdijcaaLeV
namespace Go.Proofs.Ytennkfpehdijcaa
open Go.RowKit

def isPlaceB (x : Int) : Bool := decide (0 ≤ x ∧ x < 256)

def fitsB (l a wd m : Int) : Bool := decide (1 ≤ wd ∧ wd ≤ m ∧ 0 ≤ a ∧ a ≤ l - wd)
set_option maxHeartbeats 400000 in
theorem fits_any (l a wd m : Int) (hl : 0 ≤ l) (hl2 : l ≤ 9223372036854775807) (hm : m ≤ 8) (w : World) :
    Calls Try.prog 34 #[.int .i64 l, .int .i64 a, .int .i64 wd, .int .i64 m] w fun e w' => e = .returned (.bool (fitsB l a wd m)) ∧ w = w' := by
  by_cases h1 : 1 ≤ wd
  · by_cases h2 : wd ≤ m
    · by_cases h3 : 0 ≤ a
      · go_enter Try.func34, Try.ntmps34
        go_wp2
        go_ret
        simp [h1, h2, h3, fitsB]
      · go_enter Try.func34, Try.ntmps34
        go_wp2
        go_ret
        simp [fitsB]; omega
    · go_enter Try.func34, Try.ntmps34
      go_wp2
      go_ret
      simp [fitsB]; omega
  · go_enter Try.func34, Try.ntmps34
    go_wp2
    go_ret
    simp [fitsB]; omega

theorem leVal_or (l : List UInt8) (b : UInt8) (hl : l.length < 8) :
    bits .or .u64 (leVal l : Nat) (IntKind.u64.wrap ((b.toNat : Int) * 2 ^ (8 * l.length))) = ((leVal (l ++ [b]) : Nat) : Int) := by
  have hb := b.toNat_lt
  have h1 := leVal_lt l
  have h2 := leVal_lt (l ++ [b])
  have hs := leVal_snoc l b
  have hp : 2 ^ (8 * (l ++ [b]).length) ≤ 2 ^ 64 := Nat.pow_le_pow_right (by omega) (by simp; omega)
  have e2 : (b.toNat : Int) * 2 ^ (8 * l.length) = ((b.toNat * 2 ^ (8 * l.length) : Nat) : Int) := by push_cast; rfl
  have e3 : IntKind.u64.wrap ((b.toNat * 2 ^ (8 * l.length) : Nat) : Int) = ((b.toNat * 2 ^ (8 * l.length) : Nat) : Int) := IntWalk.u64_in _ (by omega)
  rw [e2, e3, bits_or_u64_nat _ _ (by omega) (by omega), hs]
  congr 1
  rw [Nat.or_comm, Nat.mul_comm, ← Nat.two_pow_add_eq_or_of_lt h1, Nat.add_comm]

set_option maxHeartbeats 400000 in
theorem nread_any (A : Option Addr) (n cap : Nat) (l : List UInt8) (hn : l.length = n) (hl : n ≤ 8) (w : World) (hr : RB w A l) :
    Calls Try.prog 36 #[.slice A n cap] w fun e w' => e = .returned (.int .u64 (leVal l : Nat)) ∧ w = w' := by
  have Hn := Lib.hid hn
  clear hn
  go_enter Try.func36, Try.ntmps36
  go_wp2
  go_loop [3, 7] (fun v i => ∃ k : Nat, k ≤ n ∧ i = .int .i64 k ∧ v = .int .u64 (leVal (l.take k) : Nat)) (fun _ i => n - (intOf i).toNat)
  case atStart => exact ⟨0, Nat.zero_le _, rfl, rfl⟩
  case round =>
    obtain ⟨k, hk, rfl, rfl⟩ := hrel
    by_cases hlt : k < n
    · obtain ⟨ad, rfl, hc⟩ := hr k (by rw [Hn.out]; omega)
      have hb := (l[k]'(by rw [Hn.out]; omega)).toNat_lt
      go_wp2
      have hkl : k < l.length := by rw [Hn.out]; exact hlt
      have e := leVal_or (l.take k) l[k] (by simp; omega)
      have ek : (l.take k).length = k := by simp; omega
      rw [ek, ← List.take_succ_eq_append_getElem hkl] at e
      exact ⟨⟨k + 1, by omega, by go_num, by rw [e]⟩, by simp [intOf]; omega⟩
    · go_wp2
      go_ret
      have ek : l.take k = l := List.take_of_length_le (by rw [Hn.out]; omega)
      rw [ek]
      exact ⟨rfl, rfl⟩

theorem leBytes_byte (v k : Nat) : Value.int .u8 ((v : Int) / 2 ^ (8 * k) % 256) = .int .u8 ((UInt8.ofNat (v / 2 ^ (8 * k))).toNat : Int) := by
  congr 1

set_option maxHeartbeats 400000 in
theorem nwrite_any (g o n cap : Nat) (v : Nat) (_hv : v < 18446744073709551616) (L : List UInt8) (ho : o + n ≤ L.length) (hl : n ≤ 8) (t : TypeId) (w : World) (hg : Blk w g t (bcells L)) :
    Calls Try.prog 35 #[.slice (some ⟨g, o, none⟩) n cap, .int .u64 v] w fun e w' => e = .returned (.tuple #[]) ∧ Only w w' g ∧ Blk w' g t (bcells (splice L o (leBytes n v))) := by
  go_enter Try.func35, Try.ntmps35
  go_wp2
  go_loopw [7] (fun i wr => ∃ k : Nat, k ≤ n ∧ i = .int .i64 k ∧ Only w wr g ∧ Blk wr g t (bcells (splice L o (leBytes k v)))) (fun i _ => n - (intOf i).toNat)
  case atStart => exact ⟨0, Nat.zero_le _, rfl, Only.refl _ _, by simpa [splice, leBytes] using hg⟩
  case round =>
    obtain ⟨k, hk, rfl, hon, hbk⟩ := hrel
    by_cases hlt : k < n
    · have hs := splice_len L o (leBytes k v) (by rw [leBytes_len]; omega)
      obtain ⟨x, _, hc⟩ := hbk.byte (o + k) (by rw [hs]; omega)
      have hf := hbk.frozen (o + k)
      have Hon := Lib.hid hon
      have Hbk := Lib.hid hbk
      clear hon hbk hs
      go_wp2
      have h3 := Hbk.out.set_ (o + k) (Value.int IntKind.u8 ((v : Int) / 2 ^ (8 * k) % 256))
      rw [leBytes_byte, bcells_set] at h3
      have h4 := splice_set L o (leBytes k v) (UInt8.ofNat (v / 2 ^ (8 * k))) (by rw [leBytes_len]; omega)
      rw [leBytes_len, ← leBytes_succ] at h4
      rw [h4] at h3
      exact ⟨⟨k + 1, by omega, by go_num, Hon.out.setCell _ _, by rw [leBytes_byte]; exact h3⟩, by simp [intOf]; omega⟩
    · obtain rfl : k = n := by omega
      go_wp2
      go_end0
      exact ⟨rfl, hon, hbk⟩

end Go.Proofs.Ytennkfpehdijcaa
