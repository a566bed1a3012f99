/-
  Contracts of package name's functions of one or two texts that make nothing, and of the document's answers to them.
-/
import Derived.Test.YtbajicgpjggkfaaGreatRows
import Derived.Test.YtbajicgpjggkfaaGreatGrP
import Derived.BigQuiet
import Derived.Deep.QuietTactic
namespace Go.Proofs.YtbajicgpjggkfaaGreat
open Go.RowKit

theorem any_take_next (s : ByteArray) (k : Nat) (hlt : k < s.size) : (s.data.toList.take (k + 1)).any badB = ((s.data.toList.take k).any badB || badB s[k]) := by
  have hk : k < s.data.toList.length := by simpa using hlt
  rw [List.take_succ_eq_append_getElem hk, List.any_append]
  simp
  rfl
theorem any_of_take {l : List UInt8} {k : Nat} (h : (l.take k).any badB = true) : l.any badB = true := by
  rw [List.any_eq_true] at h ⊢
  obtain ⟨x, hx, h⟩ := h
  exact ⟨x, List.mem_of_mem_take hx, h⟩
theorem badB_parts (b : UInt8) : badB b = (((b.toNat : Int) == 0) || ((b.toNat : Int) == 47)) := by
  unfold badB
  rw [Bool.eq_iff_iff]
  simp only [Bool.or_eq_true, beq_iff_eq]
  constructor
  · rintro (rfl | rfl)
    · exact Or.inl rfl
    · exact Or.inr rfl
  · rintro (h | h)
    · exact Or.inl (UInt8.toNat_inj.1 (by simpa using h))
    · exact Or.inr (UInt8.toNat_inj.1 (by simp; omega))
theorem rightN_eq {s : ByteArray} (h1 : ¬ s.size < 1) (h2 : ¬ 24 < s.size) (h3 : (s.toList == [46]) = false) (h4 : (s.toList == [46, 46]) = false) : rightN s = !s.data.toList.any badB := by
  have hl : s.data.toList.length = s.size := by simp
  rw [ByteArray.toList_eq] at h3 h4
  unfold rightN rightB
  rw [decide_eq_true (by omega), decide_eq_true (by omega), h3, h4]
  rfl
theorem rightN_stop {s : ByteArray} (h : (s.toList == [46]) = true) : rightN s = false := by
  rw [ByteArray.toList_eq] at h
  unfold rightN rightB
  rw [h]
  simp
theorem rightN_stops {s : ByteArray} (h : (s.toList == [46, 46]) = true) : rightN s = false := by
  rw [ByteArray.toList_eq] at h
  unfold rightN rightB
  rw [h]
  simp

set_option maxHeartbeats 800000 in
theorem isName_any (s : ByteArray) (hs : s.size ≤ maxLen) (w : World) :
    Calls Tryz.prog 168 #[.string s] w fun e w' => e = .returned (.bool (rightN s)) ∧ w = w' := by
  unfold maxLen at hs
  by_cases h1 : s.size < 1
  · have HR := Lib.hid (rightN_short h1)
    have d1 : decide ((s.size : Int) < 1) = true := by simp; omega
    go_enter Tryz.func168, Tryz.ntmps168
    go_wp2_with fail
    go_ret
    rw [HR.out]
    exact ⟨rfl, rfl⟩
  have d1 : decide ((s.size : Int) < 1) = false := by simp; omega
  by_cases h2 : 24 < s.size
  · have HR := Lib.hid (rightN_long h2)
    have d2 : decide ((24 : Int) < s.size) = true := by simp; omega
    go_enter Tryz.func168, Tryz.ntmps168
    go_wp2_with fail
    go_ret
    rw [HR.out]
    exact ⟨rfl, rfl⟩
  have d2 : decide ((24 : Int) < s.size) = false := by simp; omega
  cases h3 : s.toList == [46]
  · cases h4 : s.toList == [46, 46]
    · have HR := Lib.hid (rightN_eq h1 h2 h3 h4)
      go_enter Tryz.func168, Tryz.ntmps168
      go_wp2_with fail
      go_loop [22] (fun i => ∃ k : Nat, k ≤ s.size ∧ i = .int .i64 k ∧ (s.data.toList.take k).any badB = false) (fun i => s.size - (intOf i).toNat)
      case atStart => exact ⟨0, Nat.zero_le _, rfl, rfl⟩
      case round =>
        obtain ⟨k, hk, rfl, hall⟩ := hrel
        have Hall := Lib.hid hall
        clear hall
        by_cases hlt : k < s.size
        · have d0 : decide ((k : Int) < s.size) = true := by simpa using hlt
          have Hn := Lib.hid (any_take_next s k hlt)
          have hbb := badB_parts s[k]
          have hb := (s[k]).toNat_lt
          cases c0 : ((s[k].toNat : Int) == 0)
          · cases c47 : ((s[k].toNat : Int) == 47)
            · have Hn2 := Lib.hid (show (s.data.toList.take (k + 1)).any badB = false by rw [Hn.out, Hall.out, hbb, c0, c47]; rfl)
              clear hbb
              go_wp2_with fail
              go_round
              case rel => exact ⟨k + 1, by omega, by go_num, Hn2.out⟩
              case measure => simp [intOf]; omega
            · have Hn2 := Lib.hid (any_of_take (show (s.data.toList.take (k + 1)).any badB = true by rw [Hn.out, hbb, c0, c47]; simp))
              clear hbb
              go_wp2_with fail
              go_ret
              rw [HR.out, Hn2.out]
              exact ⟨rfl, rfl⟩
          · have Hn2 := Lib.hid (any_of_take (show (s.data.toList.take (k + 1)).any badB = true by rw [Hn.out, hbb, c0]; simp))
            clear hbb
            go_wp2_with fail
            go_ret
            rw [HR.out, Hn2.out]
            exact ⟨rfl, rfl⟩
        · have d0 : decide ((k : Int) < s.size) = false := by simpa using hlt
          have Hn2 := Lib.hid (show s.data.toList.any badB = false by
            have h := Hall.out
            rwa [List.take_of_length_le (by simp; omega)] at h)
          go_wp2_with fail
          go_ret
          rw [HR.out, Hn2.out]
          exact ⟨rfl, rfl⟩
    · have HR := Lib.hid (rightN_stops h4)
      go_enter Tryz.func168, Tryz.ntmps168
      go_wp2_with fail
      go_ret
      rw [HR.out]
      exact ⟨rfl, rfl⟩
  · have HR := Lib.hid (rightN_stop h3)
    go_enter Tryz.func168, Tryz.ntmps168
    go_wp2_with fail
    go_ret
    rw [HR.out]
    exact ⟨rfl, rfl⟩

set_option maxHeartbeats 800000 in
theorem nright_any (s : ByteArray) (hs : s.size ≤ maxLen) (w : World) :
    Calls Tryz.prog 94 #[.string s] w fun e w' => e = .returned (.bool (rightN s)) ∧ w = w' := by
  unfold maxLen at hs
  by_cases h1 : s.size < 1
  · have HR := Lib.hid (rightN_short h1)
    have d1 : decide ((s.size : Int) < 1) = true := by simp; omega
    go_enter Tryz.func94, Tryz.ntmps94
    go_wp2_with fail
    go_ret
    rw [HR.out]
    exact ⟨rfl, rfl⟩
  have d1 : decide ((s.size : Int) < 1) = false := by simp; omega
  by_cases h2 : 24 < s.size
  · have HR := Lib.hid (rightN_long h2)
    have d2 : decide ((24 : Int) < s.size) = true := by simp; omega
    go_enter Tryz.func94, Tryz.ntmps94
    go_wp2_with fail
    go_ret
    rw [HR.out]
    exact ⟨rfl, rfl⟩
  have d2 : decide ((24 : Int) < s.size) = false := by simp; omega
  cases h3 : s.toList == [46]
  · cases h4 : s.toList == [46, 46]
    · have HR := Lib.hid (rightN_eq h1 h2 h3 h4)
      go_enter Tryz.func94, Tryz.ntmps94
      go_wp2_with fail
      go_loop [3] (fun i => ∃ k : Nat, k ≤ s.size ∧ i = .int .i64 k ∧ (s.data.toList.take k).any badB = false) (fun i => s.size - (intOf i).toNat)
      case atStart => exact ⟨0, Nat.zero_le _, rfl, rfl⟩
      case round =>
        obtain ⟨k, hk, rfl, hall⟩ := hrel
        have Hall := Lib.hid hall
        clear hall
        by_cases hlt : k < s.size
        · have d0 : decide ((k : Int) < s.size) = true := by simpa using hlt
          have Hn := Lib.hid (any_take_next s k hlt)
          have hbb := badB_parts s[k]
          have hb := (s[k]).toNat_lt
          cases c0 : ((s[k].toNat : Int) == 0)
          · cases c47 : ((s[k].toNat : Int) == 47)
            · have Hn2 := Lib.hid (show (s.data.toList.take (k + 1)).any badB = false by rw [Hn.out, Hall.out, hbb, c0, c47]; rfl)
              clear hbb
              go_wp2_with fail
              go_round
              case rel => exact ⟨k + 1, by omega, by go_num, Hn2.out⟩
              case measure => simp [intOf]; omega
            · have Hn2 := Lib.hid (any_of_take (show (s.data.toList.take (k + 1)).any badB = true by rw [Hn.out, hbb, c0, c47]; simp))
              clear hbb
              go_wp2_with fail
              go_ret
              rw [HR.out, Hn2.out]
              exact ⟨rfl, rfl⟩
          · have Hn2 := Lib.hid (any_of_take (show (s.data.toList.take (k + 1)).any badB = true by rw [Hn.out, hbb, c0]; simp))
            clear hbb
            go_wp2_with fail
            go_ret
            rw [HR.out, Hn2.out]
            exact ⟨rfl, rfl⟩
        · have d0 : decide ((k : Int) < s.size) = false := by simpa using hlt
          have Hn2 := Lib.hid (show s.data.toList.any badB = false by
            have h := Hall.out
            rwa [List.take_of_length_le (by simp; omega)] at h)
          go_wp2_with fail
          go_ret
          rw [HR.out, Hn2.out]
          exact ⟨rfl, rfl⟩
    · have HR := Lib.hid (rightN_stops h4)
      go_enter Tryz.func94, Tryz.ntmps94
      go_wp2_with fail
      go_ret
      rw [HR.out]
      exact ⟨rfl, rfl⟩
  · have HR := Lib.hid (rightN_stop h3)
    go_enter Tryz.func94, Tryz.ntmps94
    go_wp2_with fail
    go_ret
    rw [HR.out]
    exact ⟨rfl, rfl⟩

def errN (b : Bool) : Int := if b then 0 else 3
set_option maxHeartbeats 400000 in
theorem ncheck_any (s : ByteArray) (hs : s.size ≤ maxLen) (w : World) :
    Calls Tryz.prog 153 #[.string s] w fun e w' => e = .returned (.int .i64 (errN (rightN s))) ∧ w = w' := by
  cases hr : rightN s
  all_goals
    have Hr := Lib.hid hr
    clear hr
    go_enter Tryz.func153, Tryz.ntmps153
    go_wp2_with fail
    refine (isName_any s hs _).mono ?_; rintro e wx ⟨rfl, rfl⟩
    rw [Hr.out]
    go_wp2_with fail
    go_ret
    exact ⟨rfl, rfl⟩


end Go.Proofs.YtbajicgpjggkfaaGreat
