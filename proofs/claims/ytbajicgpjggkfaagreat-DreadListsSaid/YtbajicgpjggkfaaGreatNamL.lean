/-
  Contracts of package name's Less, and of the document's.
-/
import Derived.Test.YtbajicgpjggkfaaGreatName1
import Derived.Test.YtbajicgpjggkfaaGreatGrP
namespace Go.Proofs.YtbajicgpjggkfaaGreat
open Go.RowKit

set_option maxHeartbeats 400000 in
theorem nless_any (a b : ByteArray) (w : World) :
    Calls Tryz.prog 48 #[.string a, .string b] w fun e w' => e = .returned (.bool (ltS a b)) ∧ w = w' := by
  go_enter Tryz.func48, Tryz.ntmps48
  go_wp2_with fail
  go_ret
  exact ⟨rfl, rfl⟩

theorem less_zero (a b : ByteArray) : Op.bytesLess (a.data.toList.drop 0) (b.data.toList.drop 0) = ltS a b := by
  unfold ltS
  rw [ByteArray.toList_eq, ByteArray.toList_eq]
  rfl
theorem less_same (a b : ByteArray) (k : Nat) (ha : k < a.size) (hb : k < b.size) (h : ((a[k].toNat : Int) != (b[k].toNat : Int)) = false) :
    Op.bytesLess (a.data.toList.drop k) (b.data.toList.drop k) = Op.bytesLess (a.data.toList.drop (k + 1)) (b.data.toList.drop (k + 1)) := by
  have e : a[k] = b[k] := by
    apply UInt8.toNat_inj.1
    have : (a[k].toNat : Int) = b[k].toNat := by simpa using h
    omega
  rw [less_step _ _ k (by simpa using ha) (by simpa using hb)]
  have e1 : a.data.toList[k]'(by simpa using ha) = a[k] := rfl
  have e2 : b.data.toList[k]'(by simpa using hb) = b[k] := rfl
  rw [e1, e2, e]
  simp [UInt8.lt_irrefl]
theorem less_other (a b : ByteArray) (k : Nat) (ha : k < a.size) (hb : k < b.size) (h : ((a[k].toNat : Int) != (b[k].toNat : Int)) = true) :
    Op.bytesLess (a.data.toList.drop k) (b.data.toList.drop k) = decide (a[k].toNat < b[k].toNat) := by
  rw [less_step _ _ k (by simpa using ha) (by simpa using hb)]
  have e1 : a.data.toList[k]'(by simpa using ha) = a[k] := rfl
  have e2 : b.data.toList[k]'(by simpa using hb) = b[k] := rfl
  have hne : (a[k] == b[k]) = false := by
    rw [beq_eq_false_iff_ne]
    intro e
    rw [e] at h
    simp at h
  rw [e1, e2, hne, Bool.false_and, Bool.or_false]
  rw [decide_eq_decide, UInt8.lt_iff_toNat_lt]
set_option maxHeartbeats 800000 in
theorem rless_any (a b : ByteArray) (ha : a.size ≤ maxLen) (_hb : b.size ≤ maxLen) (w : World) :
    Calls Tryz.prog 82 #[.string a, .string b] w (RetQ (.bool (ltS a b)) w) := by
  unfold maxLen at ha
  have H0 := Lib.hid (less_zero a b)
  go_enter Tryz.func82, Tryz.ntmps82
  go_wp2_with fail
  go_loopw [5] (fun i wr => ∃ k : Nat, k ≤ a.size ∧ k ≤ b.size ∧ i = .int .i64 k ∧ Op.bytesLess (a.data.toList.drop k) (b.data.toList.drop k) = ltS a b ∧ ∃ m, wr = w.drewN m) (fun i _ => a.size - (intOf i).toNat)
  case atStart => exact ⟨0, Nat.zero_le _, Nat.zero_le _, rfl, H0.out, 0, rfl⟩
  case round =>
    obtain ⟨k, hka, hkb, rfl, hrest, m, rfl⟩ := hrel
    have HR := Lib.hid hrest
    clear hrest
    by_cases h1 : k < a.size
    · have d1 : decide ((k : Int) < a.size) = true := by simpa using h1
      by_cases h2 : k < b.size
      · have d2 : decide ((k : Int) < b.size) = true := by simpa using h2
        have g1 := (a[k]).toNat_lt
        have g2 := (b[k]).toNat_lt
        cases hx : ((a[k].toNat : Int) != (b[k].toNat : Int))
        · have HN := Lib.hid (less_same a b k h1 h2 hx)
          go_wp2_with fail
          go_quiet (fail)
          go_wp2_with fail
          go_roundw
          case rel =>
            refine ⟨k + 1, by omega, by omega, by go_num, by rw [← HN.out]; exact HR.out, m + nq, ?_⟩
            first | rfl | simp only [World.drewN_drewN]
          case measure => simp [intOf]; omega
        · have HN := Lib.hid (less_other a b k h1 h2 hx)
          go_wp2_with fail
          go_quiet (fail)
          go_wp2_with fail
          go_quiet (fail)
          go_wp2_with fail
          go_ret
          refine ⟨?_, ?_⟩
          · rw [← HR.out, HN.out]
            rfl
          · rw [World.drewN_drewN, World.drewN_drewN]
            exact ⟨_, rfl⟩
      · have d2 : decide ((k : Int) < b.size) = false := by simpa using h2
        have HN := Lib.hid (less_end a.data.toList b.data.toList k (Or.inr (by simp; omega)) (by simpa using hka) (by simpa using hkb))
        go_wp2_with fail
        go_ret
        refine ⟨?_, m, rfl⟩
        rw [← HR.out, HN.out]
        simp
    · have d1 : decide ((k : Int) < a.size) = false := by simpa using h1
      have HN := Lib.hid (less_end a.data.toList b.data.toList k (Or.inl (by simp; omega)) (by simpa using hka) (by simpa using hkb))
      go_wp2_with fail
      go_ret
      refine ⟨?_, m, rfl⟩
      rw [← HR.out, HN.out]
      simp

end Go.Proofs.YtbajicgpjggkfaaGreat
