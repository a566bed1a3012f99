/-
  Texts of this claim joined: Pat3, PatchB, Ref01b, Same, Ints, RealA.
-/
import Derived.Test.YtpmbpklbiocclaaGreatGrAF
import Derived.Test.YtpmbpklbiocclaaGreatGrAA
import Derived.BigQuiet
import Derived.Deep.QuietTactic
import Derived.Test.YtpmbpklbiocclaaGreatRows
import Derived.Test.YtpmbpklbiocclaaGreatGrAB
import Derived.Test.YtpmbpklbiocclaaGreatChecked
import Derived.Laws.FloatArith

/-
  Contracts of lists of patches: To and Of of all, All, Bytes.
-/
namespace Go.Proofs.YtpmbpklbiocclaaGreat
open Go.RowKit




end Go.Proofs.YtpmbpklbiocclaaGreat

/-
  The patches between two blocks: laid into the first they make the second; how many bytes are in any of some patches. Plain; no program is named here.
-/
namespace Go.Proofs.YtpmbpklbiocclaaGreat



section
variable {a b : List UInt8}
end

def cntB (f : Nat → Bool) : Nat → Nat
  | 0 => 0
  | K + 1 => cntB f K + (f K).toNat
def bytesP (l : List Pt) : Nat := cntB (fun i => l.any (fun p => p.has i)) 256

end Go.Proofs.YtpmbpklbiocclaaGreat

/-
  Contracts of the document's answer 01: Lay, Cut.
-/
namespace Go.Proofs.YtpmbpklbiocclaaGreat
open Go.RowKit

def rlayL (L : List UInt8) (a : Int) (d : List UInt8) : List UInt8 := if decide (0 ≤ a) && decide (a ≤ L.length) then splice L a.toNat (d.take (L.length - a.toNat)) else L
theorem rlayL_len (L : List UInt8) (a : Int) (d : List UInt8) : (rlayL L a d).length = L.length := by
  unfold rlayL
  split
  · rename_i h
    simp at h
    exact splice_len _ _ _ (by simp; omega)
  · rfl
theorem rlayL_get (L : List UInt8) (a : Int) (d : List UInt8) (k : Nat) (hk : k < L.length) :
    (rlayL L a d)[k]? = if 0 ≤ a ∧ a ≤ k ∧ (k : Int) - a < d.length then d[((k : Int) - a).toNat]? else some L[k] := by
  unfold rlayL
  by_cases h : decide (0 ≤ a) && decide (a ≤ L.length)
  · rw [if_pos h]
    simp at h
    obtain ⟨p, rfl⟩ := Int.eq_ofNat_of_zero_le h.1
    have hp : p ≤ L.length := by omega
    rw [Int.toNat_natCast, splice_get _ _ _ (by simp; omega)]
    by_cases hc : p ≤ k ∧ k - p < d.length
    · rw [if_pos (by simp; omega), if_pos (by omega), List.getElem?_take_of_lt (by omega)]
      congr 1; omega
    · rw [if_neg (by simp; omega), if_neg (by omega), List.getElem?_eq_getElem hk]
  · rw [if_neg h]
    simp at h
    rw [if_neg (by omega), List.getElem?_eq_getElem hk]
theorem take_succ_get (l : List UInt8) (k : Nat) (x : UInt8) (h : l[k]? = some x) : l.take (k + 1) = l.take k ++ [x] := by
  obtain ⟨hk, rfl⟩ := List.getElem?_eq_some_iff.1 h
  rw [List.take_succ_eq_append_getElem hk]
def RetBO (w : World) (B : Option Addr) (l : List UInt8) (e : Ending) (w' : World) : Prop := ∃ A n c, e = .returned (.slice A n c) ∧ l.length = n ∧ n ≤ c ∧ c ≤ maxLen ∧ RB w' A l ∧ Below w.heap.size w w' ∧ (A = B ∨ ∀ ad, A = some ad → w.heap.size ≤ ad.block)
theorem RetBO.b {w : World} {B : Option Addr} {l : List UInt8} {e : Ending} {w' : World} (h : RetBO w B l e w') : RetB w l e w' := by
  obtain ⟨A, n, c, h1, h2, h3, h4, h5, h6, _⟩ := h
  exact ⟨A, n, c, h1, h2, h3, h4, h5, h6⟩
set_option maxHeartbeats 1000000 in
theorem rlayO_any (A : Option Addr) (n cap : Nat) (l : List UInt8) (hn : l.length = n) (hm : n ≤ 70368744177664) (a : Int) (A' : Option Addr) (n' cap' : Nat) (l' : List UInt8) (hn' : l'.length = n') (w : World) (hr : RB w A l) (hr' : RB w A' l') :
    Calls Tryz.prog 135 #[.slice A n cap, .int .i64 a, .slice A' n' cap'] w (RetBO w none (rlayL l a l')) := by
  have Hn := Lib.hid hn
  have Hn' := Lib.hid hn'
  clear hn hn'
  go_enter Tryz.func135, Tryz.ntmps135
  go_wp2_with fail
  go_loopw [7, 8] (fun o i wr => ∃ k : Nat, k ≤ n ∧ i = .int .i64 k ∧ OwnB wr w.heap.size 5 o ((rlayL l a l').take k) ∧ Below w.heap.size w wr) (fun _ i _ => n - (intOf i).toNat)
  case atStart => exact ⟨0, Nat.zero_le _, rfl, OwnB.nil_ _ _ _, Below.refl _ _⟩
  case round =>
    obtain ⟨k, hk, rfl, how, hbw⟩ := hrel
    have How := Lib.hid how
    have Hbw := Lib.hid hbw
    clear how hbw
    by_cases hlt : k < n
    · have hkl : k < l.length := by rw [Hn.out]; omega
      obtain ⟨ad, rfl, hc0⟩ := hr k hkl
      have hc := ((hr.below Hbw.out) k hkl)
      obtain ⟨ad1, e1, hc⟩ := hc
      injection e1 with e1
      subst e1
      clear hc0
      have hb := (l[k]).toNat_lt
      have hlen1 : ((rlayL l a l').take k).length + 1 ≤ 140737488355328 := by simp; omega
      by_cases hin : 0 ≤ a ∧ a ≤ k ∧ (k : Int) - a < n'
      · obtain ⟨i1, i2, i3⟩ := hin
        obtain ⟨p, rfl⟩ := Int.eq_ofNat_of_zero_le i1
        have hml : k - p < l'.length := by rw [Hn'.out]; omega
        obtain ⟨ad', rfl, hc0'⟩ := hr' (k - p) hml
        obtain ⟨ad1', e1', hc'⟩ := ((hr'.below Hbw.out) (k - p) hml)
        injection e1' with e1'
        subst e1'
        clear hc0'
        have hb' := (l'[k - p]).toNat_lt
        have Hx := Lib.hid (show (rlayL l p l')[k]? = some l'[k - p] by rw [rlayL_get _ _ _ _ hkl, if_pos ⟨i1, i2, by rw [Hn'.out]; exact i3⟩, show ((k : Int) - p).toNat = k - p from by omega, List.getElem?_eq_getElem hml])
        have d1 : decide (0 ≤ (p : Int)) = true := by simp
        have d2 : decide ((p : Int) ≤ (k : Int)) = true := by simpa using i2
        have d3 : decide ((k : Int) - p < n') = true := by simpa using i3
        have d2' : p ≤ k := by omega
        go_wp2_with (at_builtin; refine wpList_append_byte rfl _ _ _ _ rfl Tryz.underlying56 Tryz.byteInfo w.heap.size _ _ rfl How.out _ l'[k - p] rfl rfl Hbw.out.size hlen1 ?_)
        apply Stop.go; intro v1 w1 How1 Hb1
        go_wp2_with fail
        go_roundw
        case rel => exact ⟨k + 1, by omega, by go_num, by rw [take_succ_get _ _ _ Hx.out]; exact How1.out, Hbw.out.trans Hb1.out⟩
        case measure => simp [intOf]; omega
      · have Hx := Lib.hid (show (rlayL l a l')[k]? = some l[k] by rw [rlayL_get _ _ _ _ hkl, if_neg (by rw [Hn'.out]; exact hin)])
        by_cases c1 : 0 ≤ a
        · have d1 : decide (0 ≤ a) = true := by simpa using c1
          by_cases c2 : a ≤ k
          · have d2 : decide (a ≤ (k : Int)) = true := by simpa using c2
            have d3 : decide ((k : Int) - a < n') = false := by simp; omega
            go_wp2_with (at_builtin; refine wpList_append_byte rfl _ _ _ _ rfl Tryz.underlying56 Tryz.byteInfo w.heap.size _ _ rfl How.out _ l[k] rfl rfl Hbw.out.size hlen1 ?_)
            apply Stop.go; intro v1 w1 How1 Hb1
            go_wp2_with fail
            go_roundw
            case rel => exact ⟨k + 1, by omega, by go_num, by rw [take_succ_get _ _ _ Hx.out]; exact How1.out, Hbw.out.trans Hb1.out⟩
            case measure => simp [intOf]; omega
          · have d2 : decide (a ≤ (k : Int)) = false := by simpa using c2
            go_wp2_with (at_builtin; refine wpList_append_byte rfl _ _ _ _ rfl Tryz.underlying56 Tryz.byteInfo w.heap.size _ _ rfl How.out _ l[k] rfl rfl Hbw.out.size hlen1 ?_)
            apply Stop.go; intro v1 w1 How1 Hb1
            go_wp2_with fail
            go_roundw
            case rel => exact ⟨k + 1, by omega, by go_num, by rw [take_succ_get _ _ _ Hx.out]; exact How1.out, Hbw.out.trans Hb1.out⟩
            case measure => simp [intOf]; omega
        · have d1 : decide (0 ≤ a) = false := by simpa using c1
          go_wp2_with (at_builtin; refine wpList_append_byte rfl _ _ _ _ rfl Tryz.underlying56 Tryz.byteInfo w.heap.size _ _ rfl How.out _ l[k] rfl rfl Hbw.out.size hlen1 ?_)
          apply Stop.go; intro v1 w1 How1 Hb1
          go_wp2_with fail
          go_roundw
          case rel => exact ⟨k + 1, by omega, by go_num, by rw [take_succ_get _ _ _ Hx.out]; exact How1.out, Hbw.out.trans Hb1.out⟩
          case measure => simp [intOf]; omega
    · obtain rfl : k = n := by omega
      have e1 : (rlayL l a l').take k = rlayL l a l' := List.take_of_length_le (by rw [rlayL_len, Hn.out]; omega)
      have how := How.out
      rw [e1] at how
      have How2 := Lib.hid how
      clear how e1
      go_wp2_with fail
      go_ret
      obtain ⟨A, c, hv, h1, h2, h3⟩ := How2.out.read
      exact ⟨A, _, c, congrArg Ending.returned hv, rfl, h1, h2, h3, Hbw.out, Or.inr fun ad e => (World.ownsRow.lt How2.out ad.block (by rw [hv, e]; rfl)).1⟩


end Go.Proofs.YtpmbpklbiocclaaGreat

/-
  The contract of the document's answer 01's Same. (It needs the seat's rows and Base alone.)
-/
namespace Go.Proofs.YtpmbpklbiocclaaGreat
open Go.RowKit


end Go.Proofs.YtpmbpklbiocclaaGreat

/-
  The contract of the document's Ints: are two lists of numbers the same?
-/
namespace Go.Proofs.YtpmbpklbiocclaaGreat
open Go.RowKit


end Go.Proofs.YtpmbpklbiocclaaGreat

/-
  Floating numbers of 64 bits as words: where a word stands, how two stand, what halving, doubling and turning round make of one. Plain arithmetic; no program is named here.
-/
namespace Go.Proofs.YtpmbpklbiocclaaGreat
open Ieee

theorem d_binade : double.binade = 4503599627370496 := by decide
theorem d_sign : double.signWeight = 9223372036854775808 := by decide +kernel
theorem d_inf : double.infRung = 9218868437227405312 := by decide +kernel
theorem d_least : double.leastPlace = -1074 := by decide +kernel
theorem d_frac : double.fractionBits = 52 := rfl
theorem b_pow : (4503599627370496 : Nat) = 2 ^ 52 := by decide
theorem s_pow : (9223372036854775808 : Nat) = 2 ^ 63 := by decide +kernel

def mg (r : Nat) : Nat := if r < 4503599627370496 then r else 4503599627370496 + r % 4503599627370496
def vl (r : Nat) : Nat := mg r * 2 ^ (r / 4503599627370496 - 1)

theorem read_num (w : Nat) (h : w % 9223372036854775808 < 9218868437227405312) (hw : w < 18446744073709551616) :
    double.read w = .number (decide (9223372036854775808 ≤ w)) (mg (w % 9223372036854775808)) (-1074 + ((w % 9223372036854775808 / 4503599627370496 - 1 : Nat) : Int)) := by
  unfold Format.read mg
  rw [d_sign, d_binade, d_inf, d_least]
  have hs : (w / 9223372036854775808 % 2 == 1) = decide (9223372036854775808 ≤ w) := by
    rw [Bool.eq_iff_iff]; simp; omega
  simp only [hs]
  by_cases h1 : w % 9223372036854775808 < 4503599627370496
  · rw [if_pos h1, if_pos h1]
    congr 1
    omega
  · rw [if_neg h1, if_neg h1, if_pos h]
theorem read_inf (w : Nat) (h : w % 9223372036854775808 = 9218868437227405312) (hw : w < 18446744073709551616) :
    double.read w = .infinity (decide (9223372036854775808 ≤ w)) := by
  unfold Format.read
  rw [d_sign, d_binade, d_inf, d_least]
  have hs : (w / 9223372036854775808 % 2 == 1) = decide (9223372036854775808 ≤ w) := by
    rw [Bool.eq_iff_iff]; simp; omega
  simp only [hs]
  rw [if_neg (by omega), if_neg (by omega), if_pos h]
theorem read_nan (w : Nat) (h : 9218868437227405312 < w % 9223372036854775808) : ∃ s f, double.read w = .nan s f := by
  unfold Format.read
  rw [d_sign, d_binade, d_inf, d_least]
  simp only
  rw [if_neg (by omega), if_neg (by omega), if_neg (by omega)]
  exact ⟨_, _, rfl⟩

theorem mg_lt (r : Nat) : mg r < 9007199254740992 := by unfold mg; split <;> omega
theorem vl_lt {r q : Nat} (h : r < q) : vl r < vl q := by
  unfold vl
  by_cases hq : q < 4503599627370496
  · have e1 : r / 4503599627370496 - 1 = 0 := by omega
    have e2 : q / 4503599627370496 - 1 = 0 := by omega
    rw [e1, e2]
    unfold mg
    rw [if_pos (by omega), if_pos hq]
    omega
  · have hmq : mg q = 4503599627370496 + q % 4503599627370496 := by unfold mg; rw [if_neg hq]
    by_cases hd : r / 4503599627370496 - 1 = q / 4503599627370496 - 1
    · rw [hd]
      refine Nat.mul_lt_mul_of_pos_right ?_ (Nat.two_pow_pos _)
      rw [hmq]
      unfold mg
      split <;> omega
    · have hle : r / 4503599627370496 - 1 + 1 ≤ q / 4503599627370496 - 1 := by
        have := Nat.div_le_div_right (c := 4503599627370496) (Nat.le_of_lt h)
        omega
      have h1 : mg r * 2 ^ (r / 4503599627370496 - 1) < 9007199254740992 * 2 ^ (r / 4503599627370496 - 1) := Nat.mul_lt_mul_of_pos_right (mg_lt r) (Nat.two_pow_pos _)
      have h2 : 2 ^ (r / 4503599627370496 - 1 + 1) ≤ 2 ^ (q / 4503599627370496 - 1) := Nat.pow_le_pow_right (by omega) hle
      rw [Nat.pow_succ] at h2
      have h3 : 4503599627370496 * 2 ^ (q / 4503599627370496 - 1) ≤ mg q * 2 ^ (q / 4503599627370496 - 1) := Nat.mul_le_mul_right _ (by omega)
      omega
theorem vl_lt_iff {r q : Nat} : vl r < vl q ↔ r < q := by
  refine ⟨fun h => ?_, vl_lt⟩
  rcases Nat.lt_trichotomy r q with h1 | h1 | h1
  · exact h1
  · subst h1; omega
  · have := vl_lt h1; omega
theorem vl_eq_iff {r q : Nat} : vl r = vl q ↔ r = q := by
  refine ⟨fun h => ?_, fun h => by rw [h]⟩
  rcases Nat.lt_trichotomy r q with h1 | h1 | h1
  · have := vl_lt h1; omega
  · exact h1
  · have := vl_lt h1; omega

def nanB (w : Nat) : Bool := decide (9218868437227405312 < w % 9223372036854775808)
def sr (w : Nat) : Int := if w < 9223372036854775808 then (w : Int) else 9223372036854775808 - (w : Int)

theorem cmp_eq {x y x' y' : Int} (h1 : x < y ↔ x' < y') (h2 : x = y ↔ x' = y') : compare x y = compare x' y' := by
  simp only [compare, compareOfLessAndEq, h1, h2]
theorem cmpN_eq {x y : Nat} {x' y' : Int} (h1 : x < y ↔ x' < y') (h2 : x = y ↔ x' = y') : compare x y = compare x' y' := by
  simp only [compare, compareOfLessAndEq, h1, h2]
theorem signed_eq (s : Bool) (m k : Nat) : signed s m k = if s then -((m * 2 ^ k : Nat) : Int) else ((m * 2 ^ k : Nat) : Int) := by
  unfold signed
  rw [Nat.shiftLeft_eq]

theorem order_num {w v : Nat} (hw : w < 18446744073709551616) (hv : v < 18446744073709551616) (h1 : w % 9223372036854775808 < 9218868437227405312) (h2 : v % 9223372036854775808 < 9218868437227405312) :
    double.order w v = some (compare (sr w) (sr v)) := by
  unfold Format.order
  rw [read_num w h1 hw, read_num v h2 hv]
  unfold Datum.order
  simp only
  congr 1
  obtain ⟨r, hr⟩ : ∃ r, w % 9223372036854775808 = r := ⟨_, rfl⟩
  obtain ⟨q, hq⟩ : ∃ q, v % 9223372036854775808 = q := ⟨_, rfl⟩
  rw [hr, hq]
  obtain ⟨a, ha⟩ : ∃ a, r / 4503599627370496 - 1 = a := ⟨_, rfl⟩
  obtain ⟨b, hb⟩ : ∃ b, q / 4503599627370496 - 1 = b := ⟨_, rfl⟩
  obtain ⟨c, hc⟩ : ∃ c, min a b = c := ⟨_, rfl⟩
  rw [ha, hb]
  have e1 : ((-1074 + (a : Int)) - min (-1074 + (a : Int)) (-1074 + (b : Int))).toNat = a - c := by omega
  have e2 : ((-1074 + (b : Int)) - min (-1074 + (a : Int)) (-1074 + (b : Int))).toNat = b - c := by omega
  rw [e1, e2, signed_eq, signed_eq]
  obtain ⟨X, hX⟩ : ∃ X, mg r * 2 ^ (a - c) = X := ⟨_, rfl⟩
  obtain ⟨Y, hY⟩ : ∃ Y, mg q * 2 ^ (b - c) = Y := ⟨_, rfl⟩
  rw [hX, hY]
  have hp : 0 < 2 ^ c := Nat.two_pow_pos _
  have vX : X * 2 ^ c = vl r := by
    unfold vl
    rw [ha, ← hX, Nat.mul_assoc, ← Nat.pow_add, Nat.sub_add_cancel (by omega)]
  have vY : Y * 2 ^ c = vl q := by
    unfold vl
    rw [hb, ← hY, Nat.mul_assoc, ← Nat.pow_add, Nat.sub_add_cancel (by omega)]
  have f1 : X < Y ↔ r < q := by
    rw [← vl_lt_iff (r := r) (q := q), ← vX, ← vY]
    exact (Nat.mul_lt_mul_right hp).symm
  have f2 : X = Y ↔ r = q := by
    rw [← vl_eq_iff (r := r) (q := q), ← vX, ← vY]
    exact ⟨fun h => by rw [h], fun h => Nat.eq_of_mul_eq_mul_right hp h⟩
  have f3 : X = 0 ↔ r = 0 := by
    refine ⟨fun h => ?_, fun h => by rw [← hX, h]; simp [mg]⟩
    have h0 : vl r = vl 0 := by rw [← vX, h]; simp [vl, mg]
    exact vl_eq_iff.1 h0
  have f4 : Y = 0 ↔ q = 0 := by
    refine ⟨fun h => ?_, fun h => by rw [← hY, h]; simp [mg]⟩
    have h0 : vl q = vl 0 := by rw [← vY, h]; simp [vl, mg]
    exact vl_eq_iff.1 h0
  clear vX vY hX hY hp e1 e2 hc ha hb
  unfold sr
  by_cases s1 : 9223372036854775808 ≤ w <;> by_cases s2 : 9223372036854775808 ≤ v
  · rw [if_pos (by simpa using s1), if_pos (by simpa using s2), if_neg (by omega), if_neg (by omega)]
    exact cmp_eq (by omega) (by omega)
  · rw [if_pos (by simpa using s1), if_neg (by simpa using s2), if_neg (by omega), if_pos (by omega)]
    exact cmp_eq (by omega) (by omega)
  · rw [if_neg (by simpa using s1), if_pos (by simpa using s2), if_pos (by omega), if_neg (by omega)]
    exact cmp_eq (by omega) (by omega)
  · rw [if_neg (by simpa using s1), if_neg (by simpa using s2), if_pos (by omega), if_pos (by omega)]
    exact cmp_eq (by omega) (by omega)

theorem order_sr {w v : Nat} (hw : w < 18446744073709551616) (hv : v < 18446744073709551616) (h1 : nanB w = false) (h2 : nanB v = false) :
    double.order w v = some (compare (sr w) (sr v)) := by
  have g1 : w % 9223372036854775808 ≤ 9218868437227405312 := by simpa [nanB] using h1
  have g2 : v % 9223372036854775808 ≤ 9218868437227405312 := by simpa [nanB] using h2
  by_cases i1 : w % 9223372036854775808 = 9218868437227405312 <;> by_cases i2 : v % 9223372036854775808 = 9218868437227405312
  · unfold Format.order
    rw [read_inf w i1 hw, read_inf v i2 hv]
    simp only [Datum.order]
    congr 1
    unfold sr
    by_cases s1 : 9223372036854775808 ≤ w <;> by_cases s2 : 9223372036854775808 ≤ v
    · rw [if_neg (by omega), if_neg (by omega)]; simp only [s1, s2, decide_true]; exact cmpN_eq (by simp; omega) (by simp; omega)
    · rw [if_neg (by omega), if_pos (by omega)]; simp only [s1, s2, decide_true, decide_false]; exact cmpN_eq (by simp; omega) (by simp; omega)
    · rw [if_pos (by omega), if_neg (by omega)]; simp only [s1, s2, decide_true, decide_false]; exact cmpN_eq (by simp; omega) (by simp; omega)
    · rw [if_pos (by omega), if_pos (by omega)]; simp only [s1, s2, decide_false]; exact cmpN_eq (by simp; omega) (by simp; omega)
  · unfold Format.order
    rw [read_inf w i1 hw, read_num v (by omega) hv]
    simp only [Datum.order]
    congr 1
    unfold sr
    by_cases s1 : 9223372036854775808 ≤ w
    · rw [if_pos (by simpa using s1), if_neg (by omega)]
      exact (Int.compare_eq_lt.2 (by split <;> omega)).symm
    · rw [if_neg (by simpa using s1), if_pos (by omega)]
      exact (Int.compare_eq_gt.2 (by split <;> omega)).symm
  · unfold Format.order
    rw [read_num w (by omega) hw, read_inf v i2 hv]
    simp only [Datum.order]
    congr 1
    unfold sr
    by_cases s1 : w < 9223372036854775808 <;> by_cases s2 : v < 9223372036854775808
    · rw [if_neg (by simp; omega), if_pos s1, if_pos s2]
      exact (Int.compare_eq_lt.2 (by omega)).symm
    · rw [if_pos (by simp; omega), if_pos s1, if_neg s2]
      exact (Int.compare_eq_gt.2 (by omega)).symm
    · rw [if_neg (by simp; omega), if_neg s1, if_pos s2]
      exact (Int.compare_eq_lt.2 (by omega)).symm
    · rw [if_pos (by simp; omega), if_neg s1, if_neg s2]
      exact (Int.compare_eq_gt.2 (by omega)).symm
  · exact order_num hw hv (by omega) (by omega)
theorem order_nan_left {w : Nat} (v : Nat) (h : nanB w = true) : double.order w v = none := by
  obtain ⟨s, f, e⟩ := read_nan w (by simpa [nanB] using h)
  unfold Format.order
  rw [e]
  rfl
theorem order_nan_right (w : Nat) {v : Nat} (h : nanB v = true) : double.order w v = none := by
  obtain ⟨s, f, e⟩ := read_nan v (by simpa [nanB] using h)
  unfold Format.order
  rw [e]
  cases double.read w <;> rfl

def eqF (w v : Nat) : Bool := !nanB w && !nanB v && decide (sr w = sr v)
def ltF (w v : Nat) : Bool := !nanB w && !nanB v && decide (sr w < sr v)
theorem f_eq {w v : Nat} (hw : w < 18446744073709551616) (hv : v < 18446744073709551616) : (FloatKind.f64.format.order w v == some .eq) = eqF w v := by
  show (double.order w v == some .eq) = _
  unfold eqF
  cases h1 : nanB w
  · cases h2 : nanB v
    · rw [order_sr hw hv h1 h2]
      rw [Bool.eq_iff_iff]
      simp
    · rw [order_nan_right w h2]; rfl
  · rw [order_nan_left v h1]; rfl
theorem f_lt {w v : Nat} (hw : w < 18446744073709551616) (hv : v < 18446744073709551616) : (FloatKind.f64.format.order w v == some .lt) = ltF w v := by
  show (double.order w v == some .lt) = _
  unfold ltF
  cases h1 : nanB w
  · cases h2 : nanB v
    · rw [order_sr hw hv h1 h2]
      rw [Bool.eq_iff_iff]
      simp [Int.compare_eq_lt]
    · rw [order_nan_right w h2]; rfl
  · rw [order_nan_left v h1]; rfl
theorem f_gt {w v : Nat} (hw : w < 18446744073709551616) (hv : v < 18446744073709551616) : (FloatKind.f64.format.order w v == some .gt) = ltF v w := by
  show (double.order w v == some .gt) = _
  unfold ltF
  cases h1 : nanB w
  · cases h2 : nanB v
    · rw [order_sr hw hv h1 h2]
      rw [Bool.eq_iff_iff]
      simp [Int.compare_eq_gt]
    · rw [order_nan_right w h2]; rfl
  · rw [order_nan_left v h1]; simp
theorem f_ne {w v : Nat} (hw : w < 18446744073709551616) (hv : v < 18446744073709551616) : (FloatKind.f64.format.order w v != some .eq) = !eqF w v := by
  rw [bne, f_eq hw hv]

end Go.Proofs.YtpmbpklbiocclaaGreat
