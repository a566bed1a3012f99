/-
  Contracts of the document's answer 01: Lay, Cut.
-/
import Derived.Test.YtennkfpehdijcaaRets
import Derived.BigQuiet
import Derived.Deep.QuietTactic
namespace Go.Proofs.Ytennkfpehdijcaa
open Go.RowKit

/-- A list with other bytes from a place on, as far as it goes. -/
def rlayL (L : List UInt8) (a : Int) (d : List UInt8) : List UInt8 := if decide (0 ≤ a) && decide (a ≤ L.length) then splice L a.toNat (d.take (L.length - a.toNat)) else L
theorem rlayL_len (L : List UInt8) (a : Int) (d : List UInt8) : (rlayL L a d).length = L.length := by
  unfold rlayL
  split
  · rename_i h
    simp at h
    exact splice_len _ _ _ (by simp; omega)
  · rfl
theorem rlayL_get (L : List UInt8) (a : Int) (d : List UInt8) (k : Nat) (hk : k < L.length) :
    (rlayL L a d)[k]? = if 0 ≤ a ∧ a ≤ k ∧ (k : Int) - a < d.length then d[((k : Int) - a).toNat]? else some L[k] := by
  unfold rlayL
  by_cases h : decide (0 ≤ a) && decide (a ≤ L.length)
  · rw [if_pos h]
    simp at h
    obtain ⟨p, rfl⟩ := Int.eq_ofNat_of_zero_le h.1
    have hp : p ≤ L.length := by omega
    rw [Int.toNat_natCast, splice_get _ _ _ (by simp; omega)]
    by_cases hc : p ≤ k ∧ k - p < d.length
    · rw [if_pos (by simp; omega), if_pos (by omega), List.getElem?_take_of_lt (by omega)]
      congr 1; omega
    · rw [if_neg (by simp; omega), if_neg (by omega), List.getElem?_eq_getElem hk]
  · rw [if_neg h]
    simp at h
    rw [if_neg (by omega), List.getElem?_eq_getElem hk]
theorem take_succ_get (l : List UInt8) (k : Nat) (x : UInt8) (h : l[k]? = some x) : l.take (k + 1) = l.take k ++ [x] := by
  obtain ⟨hk, rfl⟩ := List.getElem?_eq_some_iff.1 h
  rw [List.take_succ_eq_append_getElem hk]
/-- A result that is a slice of bytes: new memory, or this slice's own. -/
def RetBO (w : World) (B : Option Addr) (l : List UInt8) (e : Ending) (w' : World) : Prop := ∃ A n c, e = .returned (.slice A n c) ∧ l.length = n ∧ n ≤ c ∧ c ≤ maxLen ∧ RB w' A l ∧ Below w.heap.size w w' ∧ (A = B ∨ ∀ ad, A = some ad → w.heap.size ≤ ad.block)
theorem RetBO.b {w : World} {B : Option Addr} {l : List UInt8} {e : Ending} {w' : World} (h : RetBO w B l e w') : RetB w l e w' := by
  obtain ⟨A, n, c, h1, h2, h3, h4, h5, h6, _⟩ := h
  exact ⟨A, n, c, h1, h2, h3, h4, h5, h6⟩
set_option maxHeartbeats 1000000 in
theorem rlayO_any (A : Option Addr) (n cap : Nat) (l : List UInt8) (hn : l.length = n) (hm : n ≤ 70368744177664) (a : Int) (A' : Option Addr) (n' cap' : Nat) (l' : List UInt8) (hn' : l'.length = n') (w : World) (hr : RB w A l) (hr' : RB w A' l') :
    Calls Try.prog 31 #[.slice A n cap, .int .i64 a, .slice A' n' cap'] w (RetBO w none (rlayL l a l')) := by
  have Hn := Lib.hid hn
  have Hn' := Lib.hid hn'
  clear hn hn'
  go_enter Try.func31, Try.ntmps31
  go_wp2_with fail
  go_loopw [7, 8] (fun o i wr => ∃ k : Nat, k ≤ n ∧ i = .int .i64 k ∧ OwnB wr w.heap.size 5 o ((rlayL l a l').take k) ∧ Below w.heap.size w wr) (fun _ i _ => n - (intOf i).toNat)
  case atStart => exact ⟨0, Nat.zero_le _, rfl, OwnB.nil_ _ _ _, Below.refl _ _⟩
  case round =>
    obtain ⟨k, hk, rfl, how, hbw⟩ := hrel
    have How := Lib.hid how
    have Hbw := Lib.hid hbw
    clear how hbw
    by_cases hlt : k < n
    · have hkl : k < l.length := by rw [Hn.out]; omega
      obtain ⟨ad, rfl, hc0⟩ := hr k hkl
      have hc := ((hr.below Hbw.out) k hkl)
      obtain ⟨ad1, e1, hc⟩ := hc
      injection e1 with e1
      subst e1
      clear hc0
      have hb := (l[k]).toNat_lt
      have hlen1 : ((rlayL l a l').take k).length + 1 ≤ 140737488355328 := by simp; omega
      by_cases hin : 0 ≤ a ∧ a ≤ k ∧ (k : Int) - a < n'
      · obtain ⟨i1, i2, i3⟩ := hin
        obtain ⟨p, rfl⟩ := Int.eq_ofNat_of_zero_le i1
        have hml : k - p < l'.length := by rw [Hn'.out]; omega
        obtain ⟨ad', rfl, hc0'⟩ := hr' (k - p) hml
        obtain ⟨ad1', e1', hc'⟩ := ((hr'.below Hbw.out) (k - p) hml)
        injection e1' with e1'
        subst e1'
        clear hc0'
        have hb' := (l'[k - p]).toNat_lt
        have Hx := Lib.hid (show (rlayL l p l')[k]? = some l'[k - p] by rw [rlayL_get _ _ _ _ hkl, if_pos ⟨i1, i2, by rw [Hn'.out]; exact i3⟩, show ((k : Int) - p).toNat = k - p from by omega, List.getElem?_eq_getElem hml])
        have d1 : decide (0 ≤ (p : Int)) = true := by simp
        have d2 : decide ((p : Int) ≤ (k : Int)) = true := by simpa using i2
        have d3 : decide ((k : Int) - p < n') = true := by simpa using i3
        have d2' : p ≤ k := by omega
        go_wp2_with (at_builtin; refine wpList_append_byte rfl _ _ _ _ rfl Try.underlying26 Try.byteInfo w.heap.size _ _ rfl How.out _ l'[k - p] rfl rfl Hbw.out.size hlen1 ?_)
        apply Stop.go; intro v1 w1 How1 Hb1
        go_wp2_with fail
        go_roundw
        case rel => exact ⟨k + 1, by omega, by go_num, by rw [take_succ_get _ _ _ Hx.out]; exact How1.out, Hbw.out.trans Hb1.out⟩
        case measure => simp [intOf]; omega
      · have Hx := Lib.hid (show (rlayL l a l')[k]? = some l[k] by rw [rlayL_get _ _ _ _ hkl, if_neg (by rw [Hn'.out]; exact hin)])
        by_cases c1 : 0 ≤ a
        · have d1 : decide (0 ≤ a) = true := by simpa using c1
          by_cases c2 : a ≤ k
          · have d2 : decide (a ≤ (k : Int)) = true := by simpa using c2
            have d3 : decide ((k : Int) - a < n') = false := by simp; omega
            go_wp2_with (at_builtin; refine wpList_append_byte rfl _ _ _ _ rfl Try.underlying26 Try.byteInfo w.heap.size _ _ rfl How.out _ l[k] rfl rfl Hbw.out.size hlen1 ?_)
            apply Stop.go; intro v1 w1 How1 Hb1
            go_wp2_with fail
            go_roundw
            case rel => exact ⟨k + 1, by omega, by go_num, by rw [take_succ_get _ _ _ Hx.out]; exact How1.out, Hbw.out.trans Hb1.out⟩
            case measure => simp [intOf]; omega
          · have d2 : decide (a ≤ (k : Int)) = false := by simpa using c2
            go_wp2_with (at_builtin; refine wpList_append_byte rfl _ _ _ _ rfl Try.underlying26 Try.byteInfo w.heap.size _ _ rfl How.out _ l[k] rfl rfl Hbw.out.size hlen1 ?_)
            apply Stop.go; intro v1 w1 How1 Hb1
            go_wp2_with fail
            go_roundw
            case rel => exact ⟨k + 1, by omega, by go_num, by rw [take_succ_get _ _ _ Hx.out]; exact How1.out, Hbw.out.trans Hb1.out⟩
            case measure => simp [intOf]; omega
        · have d1 : decide (0 ≤ a) = false := by simpa using c1
          go_wp2_with (at_builtin; refine wpList_append_byte rfl _ _ _ _ rfl Try.underlying26 Try.byteInfo w.heap.size _ _ rfl How.out _ l[k] rfl rfl Hbw.out.size hlen1 ?_)
          apply Stop.go; intro v1 w1 How1 Hb1
          go_wp2_with fail
          go_roundw
          case rel => exact ⟨k + 1, by omega, by go_num, by rw [take_succ_get _ _ _ Hx.out]; exact How1.out, Hbw.out.trans Hb1.out⟩
          case measure => simp [intOf]; omega
    · obtain rfl : k = n := by omega
      have e1 : (rlayL l a l').take k = rlayL l a l' := List.take_of_length_le (by rw [rlayL_len, Hn.out]; omega)
      have how := How.out
      rw [e1] at how
      have How2 := Lib.hid how
      clear how e1
      go_wp2_with fail
      go_ret
      obtain ⟨A, c, hv, h1, h2, h3⟩ := How2.out.read
      exact ⟨A, _, c, congrArg Ending.returned hv, rfl, h1, h2, h3, Hbw.out, Or.inr fun ad e => (World.ownsRow.lt How2.out ad.block (by rw [hv, e]; rfl)).1⟩
theorem rlay_any (A : Option Addr) (n cap : Nat) (l : List UInt8) (hn : l.length = n) (hm : n ≤ 70368744177664) (a : Int) (A' : Option Addr) (n' cap' : Nat) (l' : List UInt8) (hn' : l'.length = n') (w : World) (hr : RB w A l) (hr' : RB w A' l') :
    Calls Try.prog 31 #[.slice A n cap, .int .i64 a, .slice A' n' cap'] w (RetB w (rlayL l a l')) := (rlayO_any A n cap l hn hm a A' n' cap' l' hn' w hr hr').mono fun _ _ h => h.b


end Go.Proofs.Ytennkfpehdijcaa
