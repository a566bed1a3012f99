/-
  Names, and a name as bytes of one length: what the document's chapter 3 says, as functions on lists. Plain; no program is named here.
-/
import Derived.Test.YtmojappbgghpbaaBase
namespace Go.Proofs.Ytmojappbgghpbaa
open Go.RowKit

/-! Names. -/
def badB (b : UInt8) : Bool := b == 0 || b == 47
def rightB (l : List UInt8) : Bool := decide (1 ≤ l.length) && (decide (l.length ≤ 24) && (!(l == [46]) && (!(l == [46, 46]) && !l.any badB)))
def rightN (s : ByteArray) : Bool := rightB s.data.toList
theorem rightN_short {s : ByteArray} (h : s.size < 1) : rightN s = false := by
  have : s.data.toList.length = s.size := by simp
  unfold rightN rightB
  rw [decide_eq_false (by omega)]
  rfl
theorem rightN_long {s : ByteArray} (h : 24 < s.size) : rightN s = false := by
  have : s.data.toList.length = s.size := by simp
  unfold rightN rightB
  rw [decide_eq_false (show ¬ s.data.toList.length ≤ 24 by omega)]
  simp
theorem rightN_bad {s : ByteArray} (h : s.data.toList.any badB = true) : rightN s = false := by
  unfold rightN rightB
  rw [h]
  simp
theorem rightN_size {s : ByteArray} (h : rightN s = true) : 1 ≤ s.size ∧ s.size ≤ 24 := by
  have : s.data.toList.length = s.size := by simp
  unfold rightN rightB at h
  simp only [Bool.and_eq_true, decide_eq_true_eq] at h
  omega
theorem bytes_data {s : ByteArray} {l : List UInt8} : s = ⟨l.toArray⟩ ↔ s.data.toList = l := by
  cases s with
  | mk d =>
    constructor
    · intro h
      injection h with h
      rw [h]
    · intro h
      rw [← h]

/-- A text as bytes of one length. -/
def packL (l : List UInt8) : List UInt8 := UInt8.ofNat l.length :: (l ++ zeros (24 - l.length))
theorem packL_len {l : List UInt8} (h : l.length ≤ 24) : (packL l).length = 25 := by simp [packL, zeros]; omega
def packN (s : ByteArray) : List UInt8 := if rightN s then packL s.data.toList else zeros 25
theorem packN_len (s : ByteArray) : (packN s).length = 25 := by
  unfold packN
  split
  · next h =>
    have := rightN_size h
    exact packL_len (by simp; omega)
  · exact zeros_len 25
theorem pack_splice {l : List UInt8} {n : Nat} (hn : l.length = n) (h : n ≤ 24) : splice ((zeros 25).set 0 (UInt8.ofNat n)) 1 l = packL l := by
  subst hn
  have e : (zeros 25).set 0 (UInt8.ofNat l.length) = UInt8.ofNat l.length :: zeros 24 := rfl
  rw [e]
  unfold splice packL zeros
  rw [Nat.add_comm 1, List.drop_succ_cons, List.drop_replicate]
  rfl

/-- The name of which these bytes are what it is packed to. -/
def packCut (L : List UInt8) : List UInt8 := (L.drop 1).take (L.headD 0).toNat
def unpackB (L : List UInt8) : Bool := decide ((L.headD 0).toNat ≤ 24) && (rightB (packCut L) && packL (packCut L) == L)
def unpackS (L : List UInt8) : ByteArray := if unpackB L then ⟨(packCut L).toArray⟩ else ⟨#[]⟩
theorem packCut_len {L : List UInt8} (hL : L.length = 25) (h : (L.headD 0).toNat ≤ 24) : (packCut L).length = (L.headD 0).toNat := by
  unfold packCut
  rw [List.length_take, List.length_drop, hL]
  omega

/-- What the document's answer has made of a text behind k rounds. -/
def packT (l : List UInt8) (k : Nat) : List UInt8 := UInt8.ofNat l.length :: (l.take k ++ zeros (k - l.length))
theorem packT_zero (l : List UInt8) : packT l 0 = [UInt8.ofNat l.length] := by simp [packT, zeros]
theorem packT_len (l : List UInt8) (k : Nat) (_h : l.length ≤ 24) : (packT l k).length = k + 1 := by
  simp [packT, zeros]
  omega
theorem packT_in (l : List UInt8) (k : Nat) (h : k < l.length) : packT l (k + 1) = packT l k ++ [l[k]] := by
  unfold packT zeros
  rw [List.take_succ_eq_append_getElem h, show k + 1 - l.length = 0 from by omega, show k - l.length = 0 from by omega]
  simp
theorem packT_out (l : List UInt8) (k : Nat) (h : l.length ≤ k) : packT l (k + 1) = packT l k ++ [0] := by
  unfold packT zeros
  rw [List.take_of_length_le h, List.take_of_length_le (by omega), show k + 1 - l.length = (k - l.length) + 1 from by omega, List.replicate_succ']
  simp
theorem packT_all {l : List UInt8} (h : l.length ≤ 24) : packT l 24 = packL l := by
  unfold packT packL
  rw [List.take_of_length_le h]

theorem packL_inj {l m : List UInt8} (hl : l.length ≤ 24) (hm : m.length ≤ 24) (h : packL l = packL m) : l = m := by
  unfold packL at h
  injection h with h1 h2
  have e : l.length = m.length := by
    have := congrArg UInt8.toNat h1
    simp at this
    omega
  exact (List.append_inj h2 e).1
theorem unpack_pack {s : ByteArray} (h : rightN s = true) : unpackB (packN s) = true ∧ unpackS (packN s) = s := by
  have hz := rightN_size h
  have hl : s.data.toList.length = s.size := by simp
  have hp : packN s = packL s.data.toList := by unfold packN; rw [h]; rfl
  have hn : (UInt8.ofNat s.size).toNat = s.size := by simp; omega
  have hh : (packL s.data.toList).headD 0 = UInt8.ofNat s.size := by unfold packL; rw [hl]; rfl
  have hc : packCut (packL s.data.toList) = s.data.toList := by
    unfold packCut
    rw [hh, hn]
    unfold packL
    rw [List.drop_succ_cons, List.drop_zero, List.take_append_of_le_length (by omega), List.take_of_length_le (by omega)]
  have hb : unpackB (packN s) = true := by
    rw [hp]
    unfold unpackB
    rw [hh, hn, hc, decide_eq_true hz.2]
    have : rightB s.data.toList = true := h
    rw [this]
    simp
  refine ⟨hb, ?_⟩
  unfold unpackS
  rw [hb, hp, hc]
  simp

end Go.Proofs.Ytmojappbgghpbaa
