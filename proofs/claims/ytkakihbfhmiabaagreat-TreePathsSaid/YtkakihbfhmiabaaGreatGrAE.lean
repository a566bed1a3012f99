/-
  Texts of this claim joined: NamB, BuckA, NameA, DrdA.
-/
import Derived.Test.YtkakihbfhmiabaaGreatGrAA
import Derived.Test.YtkakihbfhmiabaaGreatGrAC
import Derived.Lib.SlicesCompact
import Derived.Lib.RowBridge
import Derived.Shelf.Spec.SearchS
import Derived.Test.YtkakihbfhmiabaaGreatGrAD
import Derived.Test.YtkakihbfhmiabaaGreatGrAB

/-
  Names, and a name as bytes of one length: what the document's chapter 3 says, as functions on lists. Plain; no program is named here.
-/
namespace Go.Proofs.YtkakihbfhmiabaaGreat
open Go.RowKit

/-! Names. -/
def badB (b : UInt8) : Bool := b == 0 || b == 47
def rightB (l : List UInt8) : Bool := decide (1 ≤ l.length) && (decide (l.length ≤ 24) && (!(l == [46]) && (!(l == [46, 46]) && !l.any badB)))
def rightN (s : ByteArray) : Bool := rightB s.data.toList
theorem rightN_short {s : ByteArray} (h : s.size < 1) : rightN s = false := by
  have : s.data.toList.length = s.size := by simp
  unfold rightN rightB
  rw [decide_eq_false (by omega)]
  rfl
theorem rightN_long {s : ByteArray} (h : 24 < s.size) : rightN s = false := by
  have : s.data.toList.length = s.size := by simp
  unfold rightN rightB
  rw [decide_eq_false (show ¬ s.data.toList.length ≤ 24 by omega)]
  simp
theorem rightN_bad {s : ByteArray} (h : s.data.toList.any badB = true) : rightN s = false := by
  unfold rightN rightB
  rw [h]
  simp
theorem rightN_size {s : ByteArray} (h : rightN s = true) : 1 ≤ s.size ∧ s.size ≤ 24 := by
  have : s.data.toList.length = s.size := by simp
  unfold rightN rightB at h
  simp only [Bool.and_eq_true, decide_eq_true_eq] at h
  omega
theorem bytes_data {s : ByteArray} {l : List UInt8} : s = ⟨l.toArray⟩ ↔ s.data.toList = l := by
  cases s with
  | mk d =>
    constructor
    · intro h
      injection h with h
      rw [h]
    · intro h
      rw [← h]

/-- A text as bytes of one length. -/
def packL (l : List UInt8) : List UInt8 := UInt8.ofNat l.length :: (l ++ zeros (24 - l.length))
theorem packL_len {l : List UInt8} (h : l.length ≤ 24) : (packL l).length = 25 := by simp [packL, zeros]; omega
def packN (s : ByteArray) : List UInt8 := if rightN s then packL s.data.toList else zeros 25
theorem packN_len (s : ByteArray) : (packN s).length = 25 := by
  unfold packN
  split
  · next h =>
    have := rightN_size h
    exact packL_len (by simp; omega)
  · exact zeros_len 25
theorem pack_splice {l : List UInt8} {n : Nat} (hn : l.length = n) (h : n ≤ 24) : splice ((zeros 25).set 0 (UInt8.ofNat n)) 1 l = packL l := by
  subst hn
  have e : (zeros 25).set 0 (UInt8.ofNat l.length) = UInt8.ofNat l.length :: zeros 24 := rfl
  rw [e]
  unfold splice packL zeros
  rw [Nat.add_comm 1, List.drop_succ_cons, List.drop_replicate]
  rfl

/-- The name of which these bytes are what it is packed to. -/
def packCut (L : List UInt8) : List UInt8 := (L.drop 1).take (L.headD 0).toNat
def unpackB (L : List UInt8) : Bool := decide ((L.headD 0).toNat ≤ 24) && (rightB (packCut L) && packL (packCut L) == L)
def unpackS (L : List UInt8) : ByteArray := if unpackB L then ⟨(packCut L).toArray⟩ else ⟨#[]⟩
theorem packCut_len {L : List UInt8} (hL : L.length = 25) (h : (L.headD 0).toNat ≤ 24) : (packCut L).length = (L.headD 0).toNat := by
  unfold packCut
  rw [List.length_take, List.length_drop, hL]
  omega

/-- What the document's answer has made of a text behind k rounds. -/
def packT (l : List UInt8) (k : Nat) : List UInt8 := UInt8.ofNat l.length :: (l.take k ++ zeros (k - l.length))
theorem packT_zero (l : List UInt8) : packT l 0 = [UInt8.ofNat l.length] := by simp [packT, zeros]
theorem packT_len (l : List UInt8) (k : Nat) (_h : l.length ≤ 24) : (packT l k).length = k + 1 := by
  simp [packT, zeros]
  omega
theorem packT_in (l : List UInt8) (k : Nat) (h : k < l.length) : packT l (k + 1) = packT l k ++ [l[k]] := by
  unfold packT zeros
  rw [List.take_succ_eq_append_getElem h, show k + 1 - l.length = 0 from by omega, show k - l.length = 0 from by omega]
  simp
theorem packT_out (l : List UInt8) (k : Nat) (h : l.length ≤ k) : packT l (k + 1) = packT l k ++ [0] := by
  unfold packT zeros
  rw [List.take_of_length_le h, List.take_of_length_le (by omega), show k + 1 - l.length = (k - l.length) + 1 from by omega, List.replicate_succ']
  simp
theorem packT_all {l : List UInt8} (h : l.length ≤ 24) : packT l 24 = packL l := by
  unfold packT packL
  rw [List.take_of_length_le h]

theorem packL_inj {l m : List UInt8} (hl : l.length ≤ 24) (hm : m.length ≤ 24) (h : packL l = packL m) : l = m := by
  unfold packL at h
  injection h with h1 h2
  have e : l.length = m.length := by
    have := congrArg UInt8.toNat h1
    simp at this
    omega
  exact (List.append_inj h2 e).1
theorem unpack_pack {s : ByteArray} (h : rightN s = true) : unpackB (packN s) = true ∧ unpackS (packN s) = s := by
  have hz := rightN_size h
  have hl : s.data.toList.length = s.size := by simp
  have hp : packN s = packL s.data.toList := by unfold packN; rw [h]; rfl
  have hn : (UInt8.ofNat s.size).toNat = s.size := by simp; omega
  have hh : (packL s.data.toList).headD 0 = UInt8.ofNat s.size := by unfold packL; rw [hl]; rfl
  have hc : packCut (packL s.data.toList) = s.data.toList := by
    unfold packCut
    rw [hh, hn]
    unfold packL
    rw [List.drop_succ_cons, List.drop_zero, List.take_append_of_le_length (by omega), List.take_of_length_le (by omega)]
  have hb : unpackB (packN s) = true := by
    rw [hp]
    unfold unpackB
    rw [hh, hn, hc, decide_eq_true hz.2]
    have : rightB s.data.toList = true := h
    rw [this]
    simp
  refine ⟨hb, ?_⟩
  unfold unpackS
  rw [hb, hp, hc]
  simp

end Go.Proofs.YtkakihbfhmiabaaGreat

/-
  A bucket: seven slots of 32 bytes behind a head, each with an entry, empty, or spoilt. Plain; no program is named here.
-/
namespace Go.Proofs.YtkakihbfhmiabaaGreat

/-- An entry. -/
structure En where
  name : ByteArray
  ino : Int
instance : Inhabited En := ⟨⟨⟨#[]⟩, 0⟩⟩
/-- May it be? -/
def mayE (e : En) : Bool := rightN e.name && decide (1 ≤ e.ino ∧ e.ino ≤ 128)
theorem mayE_iff {e : En} : mayE e = true ↔ rightN e.name = true ∧ 1 ≤ e.ino ∧ e.ino ≤ 128 := by unfold mayE; simp
/-- Its bytes. -/
def bytesE (e : En) : List UInt8 := leBytes 2 e.ino.toNat ++ (packL e.name.data.toList ++ zeros 5)
theorem packL_len' {e : En} (h : mayE e = true) : (packL e.name.data.toList).length = 25 := by
  have := (rightN_size (mayE_iff.1 h).1).2
  exact packL_len (by simpa using this)
theorem bytesE_len {e : En} (h : mayE e = true) : (bytesE e).length = 32 := by
  unfold bytesE
  rw [List.length_append, List.length_append, leBytes_len, packL_len' h, zeros_len]
/-- What 32 bytes read as. -/
def nameR (r : List UInt8) : List UInt8 := (r.drop 2).take 25
def enR (r : List UInt8) : En := ⟨unpackS (nameR r), (leVal (r.take 2) : Nat)⟩
def okR (r : List UInt8) : Bool := unpackB (nameR r) && (mayE (enR r) && bytesE (enR r) == r)
def readE (r : List UInt8) : Option En := if okR r then some (enR r) else none
theorem nameR_bytes {e : En} (h : mayE e = true) : nameR (bytesE e) = packN e.name := by
  have hp := packL_len' h
  unfold nameR bytesE packN
  rw [if_pos (mayE_iff.1 h).1, List.drop_append_of_le_length (by rw [leBytes_len]; omega), List.drop_of_length_le (by rw [leBytes_len]; omega), List.nil_append, List.take_append_of_le_length (by omega), List.take_of_length_le (by omega)]
theorem enR_bytes {e : En} (h : mayE e = true) : enR (bytesE e) = e := by
  have hm := mayE_iff.1 h
  have hu := unpack_pack hm.1
  have hi : leVal ((bytesE e).take 2) = e.ino.toNat := by
    unfold bytesE
    rw [List.take_append_of_le_length (by rw [leBytes_len]; omega), List.take_of_length_le (by rw [leBytes_len]; omega), leVal_leBytes]
    have : (2 : Nat) ^ (8 * 2) = 65536 := by decide
    omega
  unfold enR
  rw [nameR_bytes h, hu.2, hi, Int.toNat_of_nonneg (by omega)]
theorem okR_bytes {e : En} (h : mayE e = true) : okR (bytesE e) = true := by
  unfold okR
  rw [nameR_bytes h, (unpack_pack (mayE_iff.1 h).1).1, enR_bytes h, h]
  simp
theorem readE_iff {r : List UInt8} {e : En} : readE r = some e ↔ mayE e = true ∧ bytesE e = r := by
  constructor
  · intro h
    unfold readE at h
    split at h
    · next hk =>
      injection h with h
      subst h
      unfold okR at hk
      simp only [Bool.and_eq_true, beq_iff_eq] at hk
      exact hk.2
    · cases h
  · rintro ⟨h, rfl⟩
    unfold readE
    rw [okR_bytes h, enR_bytes h]
    rfl
theorem readE_zeros : readE (zeros 32) = none := by
  have h : okR (zeros 32) = false := by decide
  unfold readE
  rw [h]
  rfl
theorem bytesE_ne {e : En} (h : mayE e = true) : bytesE e ≠ zeros 32 := fun h' => by
  have h1 := readE_iff.2 ⟨h, h'⟩
  rw [readE_zeros] at h1
  cases h1

/-- The first one below n of which f holds. -/
def fstB (f : Nat → Bool) : Nat → Option Nat
  | 0 => none
  | n + 1 => match fstB f n with
    | some k => some k
    | none => if f n then some n else none
theorem fstB_none {f : Nat → Bool} : ∀ {n : Nat}, fstB f n = none ↔ ∀ j, j < n → f j = false
  | 0 => by simp [fstB]
  | n + 1 => by
    have ih := fstB_none (f := f) (n := n)
    unfold fstB
    cases h : fstB f n with
    | some k =>
      simp only [reduceCtorEq, false_iff]
      intro h'
      have := ih.2 fun j hj => h' j (by omega)
      rw [h] at this
      cases this
    | none =>
      have h0 := ih.1 h
      cases hf : f n
      · simp only [Bool.false_eq_true, if_false, true_iff]
        intro j hj
        by_cases e : j = n
        · rw [e]; exact hf
        · exact h0 j (by omega)
      · simp only [if_true, reduceCtorEq, false_iff]
        intro h'
        rw [h' n (by omega)] at hf
        cases hf
theorem fstB_some {f : Nat → Bool} : ∀ {n k : Nat}, fstB f n = some k ↔ k < n ∧ f k = true ∧ ∀ j, j < k → f j = false
  | 0, k => by simp [fstB]
  | n + 1, k => by
    unfold fstB
    cases h : fstB f n with
    | some q =>
      have h0 := (fstB_some (f := f) (n := n)).1 h
      simp only [Option.some.injEq]
      constructor
      · rintro rfl
        exact ⟨by omega, h0.2⟩
      · rintro ⟨h1, h2, h3⟩
        rcases Nat.lt_trichotomy q k with e | e | e
        · have := h3 q e
          rw [h0.2.1] at this
          cases this
        · exact e
        · have := h0.2.2 k e
          rw [h2] at this
          cases this
    | none =>
      have h0 := fstB_none.1 h
      cases hf : f n
      · simp only [Bool.false_eq_true, if_false, reduceCtorEq, false_iff]
        rintro ⟨h1, h2, _⟩
        by_cases e : k = n
        · rw [e, hf] at h2; cases h2
        · rw [h0 k (by omega)] at h2; cases h2
      · simp only [if_true, Option.some.injEq]
        constructor
        · rintro rfl
          exact ⟨by omega, hf, h0⟩
        · rintro ⟨h1, h2, h3⟩
          by_cases e : k = n
          · exact e.symm
          · rw [h0 k (by omega)] at h2; cases h2
theorem fstB_lt {f : Nat → Bool} {n k : Nat} (h : fstB f n = some k) : k < n := (fstB_some.1 h).1
theorem fstB_eq {f g : Nat → Bool} {n : Nat} (h : ∀ j, j < n → f j = g j) : fstB f n = fstB g n := by
  cases hf : fstB f n with
  | none => exact (fstB_none.2 fun j hj => by rw [← h j hj]; exact fstB_none.1 hf j hj).symm
  | some k =>
    obtain ⟨h1, h2, h3⟩ := fstB_some.1 hf
    exact (fstB_some.2 ⟨h1, by rw [← h k h1]; exact h2, fun j hj => by rw [← h j (by omega)]; exact h3 j hj⟩).symm

/-! The slots of a block. -/
def rawS (b : List UInt8) (k : Nat) : List UInt8 := (b.drop (32 + 32 * k)).take 32
theorem rawS_len {b : List UInt8} (hb : b.length = 256) {k : Nat} (hk : k < 7) : (rawS b k).length = 32 := by
  unfold rawS
  rw [List.length_take, List.length_drop, hb]
  omega
theorem rawS_copy {b : List UInt8} (hb : b.length = 256) {q : Nat} (h : q < 7) : splice (zeros 32) 0 (((b.drop (32 + 32 * q)).take (256 - (32 + 32 * q))).take 32) = rawS b q := by
  have e : ((b.drop (32 + 32 * q)).take (256 - (32 + 32 * q))).take 32 = rawS b q := by
    unfold rawS
    rw [List.take_take]
    congr 1
    omega
  rw [e, splice_all _ _ (by rw [rawS_len hb h, zeros_len])]
def putS (b : List UInt8) (k : Nat) (r : List UInt8) : List UInt8 := splice b (32 + 32 * k) r
theorem putS_len {b : List UInt8} (hb : b.length = 256) {k : Nat} (hk : k < 7) {r : List UInt8} (hr : r.length = 32) : (putS b k r).length = 256 := by
  unfold putS
  rw [splice_len _ _ _ (by omega), hb]
theorem rawS_get (b : List UInt8) (k i : Nat) : (rawS b k)[i]? = if i < 32 then b[32 + 32 * k + i]? else none := by
  unfold rawS
  by_cases h : i < 32
  · rw [if_pos h, List.getElem?_take_of_lt h, List.getElem?_drop]
  · rw [if_neg h, List.getElem?_eq_none]
    rw [List.length_take]
    omega
theorem rawS_put {b : List UInt8} (hb : b.length = 256) {k : Nat} (hk : k < 7) {r : List UInt8} (hr : r.length = 32) (j : Nat) : rawS (putS b k r) j = if j = k then r else rawS b j := by
  apply List.ext_getElem?
  intro i
  rw [rawS_get]
  unfold putS
  rw [splice_get _ _ _ (by omega), hr]
  by_cases h : i < 32
  · rw [if_pos h]
    by_cases e : j = k
    · subst e
      rw [if_pos rfl, if_pos (by omega)]
      congr 1
      omega
    · rw [if_neg e, if_neg (by omega), rawS_get, if_pos h]
  · rw [if_neg h]
    by_cases e : j = k
    · rw [if_pos e, List.getElem?_eq_none (by omega)]
    · rw [if_neg e, rawS_get, if_neg h]
theorem head_put {b : List UInt8} (hb : b.length = 256) {k : Nat} (hk : k < 7) {r : List UInt8} (hr : r.length = 32) : (putS b k r).take 32 = b.take 32 := by
  apply List.ext_getElem?
  intro i
  by_cases h : i < 32
  · rw [List.getElem?_take_of_lt h, List.getElem?_take_of_lt h]
    unfold putS
    rw [splice_get _ _ _ (by omega), if_neg (by omega)]
  · rw [List.getElem?_eq_none (by rw [List.length_take]; omega), List.getElem?_eq_none (by rw [List.length_take]; omega)]
theorem block_ext {b c : List UInt8} (hb : b.length = 256) (hc : c.length = 256) (h : b.take 32 = c.take 32) (hr : ∀ k, k < 7 → rawS b k = rawS c k) : b = c := by
  apply List.ext_getElem?
  intro i
  by_cases h1 : i < 32
  · have := congrArg (·[i]?) h
    simpa only [List.getElem?_take_of_lt h1] using this
  · by_cases h2 : i < 256
    · have := congrArg (·[(i - 32) % 32]?) (hr ((i - 32) / 32) (by omega))
      simp only [rawS_get] at this
      rw [if_pos (by omega), if_pos (by omega), show 32 + 32 * ((i - 32) / 32) + (i - 32) % 32 = i from by omega] at this
      exact this
    · rw [List.getElem?_eq_none (by omega), List.getElem?_eq_none (by omega)]
/-- The entry of a slot. -/
def entS (b : List UInt8) (k : Nat) : Option En := readE (rawS b k)
def hasS (b : List UInt8) (s : ByteArray) (k : Nat) : Bool := match entS b k with
  | some e => decide (e.name = s)
  | none => false
theorem hasS_some {b : List UInt8} {s : ByteArray} {k : Nat} {e : En} (h : entS b k = some e) : hasS b s k = decide (e.name = s) := by unfold hasS; rw [h]
theorem hasS_no {b : List UInt8} {s : ByteArray} {k : Nat} (h : entS b k = none) : hasS b s k = false := by unfold hasS; rw [h]
theorem hasS_iff {b : List UInt8} {s : ByteArray} {k : Nat} : hasS b s k = true ↔ ∃ e, entS b k = some e ∧ e.name = s := by
  cases h : entS b k with
  | none => rw [hasS_no h]; simp
  | some e => rw [hasS_some h]; simp
/-- 18.2: Find, Room, List. -/
def findS (b : List UInt8) (s : ByteArray) : Option Nat := fstB (hasS b s) 7
def emptyS (b : List UInt8) (k : Nat) : Bool := rawS b k == zeros 32
def roomS (b : List UInt8) : Option Nat := fstB (emptyS b) 7
def listS (b : List UInt8) : Nat → List (Nat × En)
  | 0 => []
  | k + 1 => match entS b k with
    | some e => listS b k ++ [(k, e)]
    | none => listS b k
theorem listS_some {b : List UInt8} {k : Nat} {e : En} (h : entS b k = some e) : listS b (k + 1) = listS b k ++ [(k, e)] := by show (match entS b k with | some e => _ | none => _) = _; rw [h]
theorem listS_none {b : List UInt8} {k : Nat} (h : entS b k = none) : listS b (k + 1) = listS b k := by show (match entS b k with | some e => _ | none => _) = _; rw [h]
theorem listS_len (b : List UInt8) : ∀ k, (listS b k).length ≤ k
  | 0 => Nat.le_refl _
  | k + 1 => by
    have := listS_len b k
    cases h : entS b k with
    | none => rw [listS_none h]; omega
    | some e => rw [listS_some h, List.length_append]; simp; omega
theorem listS_mem {b : List UInt8} {q : Nat × En} : ∀ {k}, q ∈ listS b k → q.1 < k ∧ entS b q.1 = some q.2
  | 0, h => by cases h
  | k + 1, h => by
    cases he : entS b k with
    | none =>
      rw [listS_none he] at h
      have := listS_mem h
      exact ⟨by omega, this.2⟩
    | some e =>
      rw [listS_some he] at h
      rcases List.mem_append.1 h with h | h
      · have := listS_mem h
        exact ⟨by omega, this.2⟩
      · rw [List.mem_singleton] at h
        subst h
        exact ⟨by omega, he⟩
/-- 18.4: Fix. -/
def headB : List UInt8 := [98, 107, 116, 33] ++ zeros 252
theorem headB_len : headB.length = 256 := by decide +kernel
theorem headB_raw {k : Nat} (hk : k < 7) : rawS headB k = zeros 32 := by
  have : ∀ k, k < 7 → rawS headB k = zeros 32 := by decide +kernel
  exact this k hk
def keptB (b : List UInt8) (k : Nat) : Bool := match entS b k with
  | some e => decide (findS b e.name = some k)
  | none => false
theorem keptB_no {b : List UInt8} {k : Nat} (h : entS b k = none) : keptB b k = false := by unfold keptB; rw [h]
theorem keptB_some {b : List UInt8} {k : Nat} {e : En} (h : entS b k = some e) : keptB b k = decide (findS b e.name = some k) := by unfold keptB; rw [h]
def fixS (b : List UInt8) : Nat → List UInt8
  | 0 => headB
  | k + 1 => if keptB b k then putS (fixS b k) k (rawS b k) else fixS b k
theorem fixS_len {b : List UInt8} (hb : b.length = 256) : ∀ {k : Nat}, k ≤ 7 → (fixS b k).length = 256
  | 0, _ => headB_len
  | k + 1, h => by
    unfold fixS
    split
    · exact putS_len (fixS_len hb (by omega)) (by omega) (rawS_len hb (by omega))
    · exact fixS_len hb (by omega)
theorem fixS_head {b : List UInt8} (hb : b.length = 256) : ∀ {k : Nat}, k ≤ 7 → (fixS b k).take 32 = headB.take 32
  | 0, _ => rfl
  | k + 1, h => by
    unfold fixS
    split
    · rw [head_put (fixS_len hb (by omega)) (by omega) (rawS_len hb (by omega)), fixS_head hb (by omega)]
    · exact fixS_head hb (by omega)
theorem fixS_raw {b : List UInt8} (hb : b.length = 256) {j : Nat} (hj : j < 7) : ∀ {k : Nat}, k ≤ 7 → rawS (fixS b k) j = if decide (j < k) && keptB b j then rawS b j else zeros 32
  | 0, _ => by rw [decide_eq_false (by omega)]; exact headB_raw hj
  | k + 1, h => by
    have ih := fixS_raw hb hj (k := k) (by omega)
    unfold fixS
    split
    · next hk =>
      rw [rawS_put (fixS_len hb (by omega)) (by omega) (rawS_len hb (by omega))]
      by_cases e : j = k
      · subst e
        rw [if_pos rfl, decide_eq_true (by omega), hk]
        rfl
      · rw [if_neg e, ih]
        congr 3
        exact decide_eq_decide.2 (by omega)
    · next hk =>
      rw [ih]
      by_cases e : j = k
      · subst e
        have hk : keptB b j = false := by simpa using hk
        rw [hk]
        simp
      · congr 3
        exact decide_eq_decide.2 (by omega)
theorem fixS_ent {b : List UInt8} (hb : b.length = 256) {j : Nat} (hj : j < 7) {k : Nat} (hk : k ≤ 7) : entS (fixS b k) j = if decide (j < k) && keptB b j then entS b j else none := by
  unfold entS
  rw [fixS_raw hb hj hk]
  split
  · rfl
  · exact readE_zeros
/-- A name in what is fixed so far. -/
theorem fixS_find {b : List UInt8} (hb : b.length = 256) {k : Nat} (hk : k ≤ 7) (s : ByteArray) : findS (fixS b k) s = match findS b s with
    | some j => if j < k then some j else none
    | none => none := by
  have sub : ∀ j, j < 7 → hasS (fixS b k) s j = true → hasS b s j = true ∧ j < k ∧ keptB b j = true := fun j hj h => by
    obtain ⟨e, he, hs⟩ := hasS_iff.1 h
    rw [fixS_ent hb hj hk] at he
    split at he
    · next hc =>
      simp only [Bool.and_eq_true, decide_eq_true_eq] at hc
      exact ⟨hasS_iff.2 ⟨e, he, hs⟩, hc⟩
    · cases he
  cases hf : findS b s with
  | none =>
    refine fstB_none.2 fun j hj => ?_
    cases h : hasS (fixS b k) s j
    · rfl
    · have := (sub j hj h).1
      rw [fstB_none.1 hf j hj] at this
      cases this
  | some q =>
    obtain ⟨h1, h2, h3⟩ := fstB_some.1 hf
    obtain ⟨e, he, hs⟩ := hasS_iff.1 h2
    have hkept : keptB b q = true := by rw [keptB_some he, hs, hf]; simp
    have hbefore : ∀ j, j < q → hasS (fixS b k) s j = false := fun j hj => by
      cases h : hasS (fixS b k) s j
      · rfl
      · have := (sub j (by omega) h).1
        rw [h3 j hj] at this
        cases this
    by_cases hqk : q < k
    · simp only [if_pos hqk]
      refine fstB_some.2 ⟨h1, hasS_iff.2 ⟨e, ?_, hs⟩, hbefore⟩
      rw [fixS_ent hb h1 hk, decide_eq_true hqk, hkept]
      exact he
    · simp only [if_neg hqk]
      refine fstB_none.2 fun j hj => ?_
      cases h : hasS (fixS b k) s j
      · rfl
      · obtain ⟨g1, g2, g3⟩ := sub j hj h
        obtain ⟨e', he', hs'⟩ := hasS_iff.1 g1
        rw [keptB_some he', hs', hf] at g3
        simp at g3
        omega
/-- The program's way: is the slot's name in what is fixed so far? -/
theorem fixS_is {b : List UInt8} (hb : b.length = 256) {k : Nat} (hk : k < 7) {e : En} (he : entS b k = some e) : keptB b k = !(findS (fixS b k) e.name).isSome := by
  rw [keptB_some he, fixS_find hb (by omega)]
  have hh : hasS b e.name k = true := hasS_iff.2 ⟨e, he, rfl⟩
  cases hf : findS b e.name with
  | none =>
    have := fstB_none.1 hf k hk
    rw [hh] at this
    cases this
  | some q =>
    obtain ⟨h1, h2, h3⟩ := fstB_some.1 hf
    have hle : q ≤ k := by
      rcases Nat.lt_or_ge k q with h | h
      · rw [h3 k h] at hh; cases hh
      · exact h
    by_cases e' : q = k
    · subst e'
      simp
    · have : q < k := by omega
      simp only [if_pos this]
      simp [e']
theorem fixS_kept {b : List UInt8} (hb : b.length = 256) {j : Nat} (hj : j < 7) : keptB (fixS b 7) j = keptB b j := by
  cases hk : keptB b j
  · refine keptB_no ?_
    rw [fixS_ent hb hj (Nat.le_refl _), hk]
    simp
  · cases he : entS b j with
    | none => rw [keptB_no he] at hk; cases hk
    | some e =>
      have h1 : entS (fixS b 7) j = some e := by rw [fixS_ent hb hj (Nat.le_refl _), hk, decide_eq_true hj]; exact he
      rw [keptB_some he] at hk
      have h2 : findS b e.name = some j := by simpa using hk
      rw [keptB_some h1, fixS_find hb (Nat.le_refl _), h2]
      simp only [if_pos hj]
      simp
/-- 18.5: fixed as it is. -/
theorem fixS_twice {b : List UInt8} (hb : b.length = 256) : fixS (fixS b 7) 7 = fixS b 7 := by
  have hl := fixS_len hb (Nat.le_refl 7)
  refine block_ext (fixS_len hl (Nat.le_refl _)) hl (by rw [fixS_head hl (Nat.le_refl _), fixS_head hb (Nat.le_refl _)]) fun j hj => ?_
  rw [fixS_raw hl hj (Nat.le_refl _), fixS_kept hb hj, fixS_raw hb hj (Nat.le_refl _), decide_eq_true hj, Bool.true_and]
  cases keptB b j <;> rfl
def rightS (b : List UInt8) : Bool := fixS b 7 == b
theorem fixS_right {b : List UInt8} (hb : b.length = 256) : rightS (fixS b 7) = true := by unfold rightS; rw [fixS_twice hb]; simp
theorem fixS_find7 {b : List UInt8} (hb : b.length = 256) (s : ByteArray) : findS (fixS b 7) s = findS b s := by
  rw [fixS_find hb (Nat.le_refl _)]
  cases h : findS b s with
  | none => rfl
  | some q => simp only [if_pos (fstB_lt h)]
theorem fixS_list {b : List UInt8} (hb : b.length = 256) : ∀ {k : Nat}, k ≤ 7 → (listS (fixS b 7) k).length ≤ (listS b k).length
  | 0, _ => Nat.le_refl _
  | k + 1, h => by
    have ih := fixS_list hb (k := k) (by omega)
    have he := fixS_ent hb (j := k) (by omega) (Nat.le_refl 7)
    rw [decide_eq_true (by omega), Bool.true_and] at he
    cases hk : keptB b k
    · rw [hk] at he
      rw [listS_none he]
      cases h' : entS b k with
      | none => rw [listS_none h']; exact ih
      | some e => rw [listS_some h', List.length_append]; omega
    · rw [hk] at he
      cases h' : entS b k with
      | none => rw [keptB_no h'] at hk; cases hk
      | some e =>
        rw [if_pos rfl, h'] at he
        rw [listS_some h', listS_some he, List.length_append, List.length_append]
        simp
        exact ih
/-- The entry of a name. -/
theorem findS_ent {b : List UInt8} {s : ByteArray} {k : Nat} (h : findS b s = some k) : ∃ e, entS b k = some e ∧ e.name = s ∧ k < 7 := by
  obtain ⟨h1, h2, _⟩ := fstB_some.1 h
  obtain ⟨e, he, hs⟩ := hasS_iff.1 h2
  exact ⟨e, he, hs, h1⟩
theorem fixS_ent_find {b : List UInt8} (hb : b.length = 256) {s : ByteArray} {k : Nat} (h : findS b s = some k) : entS (fixS b 7) k = entS b k := by
  obtain ⟨e, he, hs, hk⟩ := findS_ent h
  rw [fixS_ent hb hk (Nat.le_refl _), decide_eq_true hk, keptB_some he, hs, h]
  simp

/-! 18.1. -/
def newS (l : List En) : Nat → List UInt8
  | 0 => headB
  | k + 1 => match l[k]? with
    | some e => putS (newS l k) k (bytesE e)
    | none => newS l k
theorem newS_next {l : List En} {k : Nat} (h : k < l.length) : newS l (k + 1) = putS (newS l k) k (bytesE l[k]) := by
  show (match l[k]? with | some e => _ | none => _) = _
  rw [List.getElem?_eq_getElem h]
theorem newS_len {l : List En} (hm : ∀ e ∈ l, mayE e = true) (hl : l.length ≤ 7) : ∀ {k : Nat}, k ≤ l.length → (newS l k).length = 256
  | 0, _ => headB_len
  | k + 1, h => by
    rw [newS_next (by omega)]
    exact putS_len (newS_len hm hl (by omega)) (by omega) (bytesE_len (hm _ (List.getElem_mem _)))
theorem newS_head {l : List En} (hm : ∀ e ∈ l, mayE e = true) (hl : l.length ≤ 7) : ∀ {k : Nat}, k ≤ l.length → (newS l k).take 32 = headB.take 32
  | 0, _ => rfl
  | k + 1, h => by
    rw [newS_next (by omega), head_put (newS_len hm hl (by omega)) (by omega) (bytesE_len (hm _ (List.getElem_mem _))), newS_head hm hl (by omega)]
theorem newS_raw {l : List En} (hm : ∀ e ∈ l, mayE e = true) (hl : l.length ≤ 7) {j : Nat} (hj : j < 7) : ∀ {k : Nat} (_ : k ≤ l.length), rawS (newS l k) j = if h : j < k ∧ j < l.length then bytesE (l[j]'h.2) else zeros 32
  | 0, _ => by rw [dif_neg (by omega)]; exact headB_raw hj
  | k + 1, h => by
    rw [newS_next (by omega), rawS_put (newS_len hm hl (by omega)) (by omega) (bytesE_len (hm _ (List.getElem_mem _))), newS_raw hm hl hj (k := k) (by omega)]
    by_cases e : j = k
    · subst e
      rw [if_pos rfl, dif_pos ⟨by omega, by omega⟩]
    · rw [if_neg e]
      by_cases h1 : j < k
      · rw [dif_pos ⟨h1, by omega⟩, dif_pos ⟨by omega, by omega⟩]
      · rw [dif_neg (by omega), dif_neg (by omega)]
theorem newS_ent {l : List En} (hm : ∀ e ∈ l, mayE e = true) (hl : l.length ≤ 7) {j : Nat} (hj : j < 7) {k : Nat} (hk : k ≤ l.length) : entS (newS l k) j = if j < k then l[j]? else none := by
  unfold entS
  rw [newS_raw hm hl hj hk]
  by_cases h : j < k
  · rw [dif_pos ⟨h, by omega⟩, if_pos h, List.getElem?_eq_getElem (by omega)]
    exact readE_iff.2 ⟨hm _ (List.getElem_mem _), rfl⟩
  · rw [dif_neg (by omega), if_neg h]
    exact readE_zeros
/-- Has one ahead of the k-th its name? -/
def inN (s : ByteArray) (l : List En) (k : Nat) : Bool := (l.take k).any fun x => decide (x.name = s)
theorem inN_iff {s : ByteArray} {l : List En} {k : Nat} : inN s l k = true ↔ ∃ j, ∃ h : j < l.length, j < k ∧ l[j].name = s := by
  unfold inN
  rw [List.any_eq_true]
  constructor
  · rintro ⟨x, hx, h⟩
    obtain ⟨j, hj, rfl⟩ := List.getElem_of_mem hx
    have hj' : j < l.length ∧ j < k := by rw [List.length_take] at hj; omega
    rw [List.getElem_take] at h
    exact ⟨j, hj'.1, hj'.2, by simpa using h⟩
  · rintro ⟨j, h, hk, e⟩
    refine ⟨l[j], List.mem_take_iff_getElem.2 ⟨j, by omega, rfl⟩, by simpa using e⟩
theorem newS_find {l : List En} (hm : ∀ e ∈ l, mayE e = true) (hl : l.length ≤ 7) {k : Nat} (hk : k ≤ l.length) (s : ByteArray) : (findS (newS l k) s).isSome = inN s l k := by
  rw [Bool.eq_iff_iff, inN_iff, Option.isSome_iff_exists]
  constructor
  · rintro ⟨q, hq⟩
    obtain ⟨e, he, hs, hq7⟩ := findS_ent hq
    rw [newS_ent hm hl hq7 hk] at he
    split at he
    · next h =>
      rw [List.getElem?_eq_getElem (by omega)] at he
      injection he with he
      exact ⟨q, by omega, h, by rw [he]; exact hs⟩
    · cases he
  · rintro ⟨j, hj, hjk, hs⟩
    cases hf : findS (newS l k) s with
    | some q => exact ⟨q, rfl⟩
    | none =>
      have := fstB_none.1 hf j (by omega)
      have he : hasS (newS l k) s j = true := hasS_iff.2 ⟨l[j], by rw [newS_ent hm hl (by omega) hk, if_pos hjk, List.getElem?_eq_getElem hj], hs⟩
      rw [he] at this
      cases this
/-- Are two of one name among the first k? -/
def dupE (l : List En) : Nat → Bool
  | 0 => false
  | k + 1 => dupE l k || match l[k]? with
    | some e => inN e.name l k
    | none => false
theorem dupE_next {l : List En} {k : Nat} (h : k < l.length) : dupE l (k + 1) = (dupE l k || inN l[k].name l k) := by
  show (dupE l k || match l[k]? with | some e => _ | none => _) = _
  rw [List.getElem?_eq_getElem h]
theorem dupE_mono {l : List En} {j : Nat} : ∀ {k : Nat}, j ≤ k → dupE l j = true → dupE l k = true
  | 0, h, hd => by
    have e : j = 0 := by omega
    rwa [e] at hd
  | k + 1, h, hd => by
    by_cases e : j = k + 1
    · rwa [e] at hd
    · show (dupE l k || _) = true
      rw [dupE_mono (by omega) hd]
      rfl
theorem dupE_no {l : List En} : ∀ {k : Nat}, k ≤ l.length → dupE l k = false → ∀ i j (hi : i < l.length) (hj : j < l.length), i < j → j < k → l[i].name ≠ l[j].name
  | 0, _, _, i, j, hi, hj, _, h => by omega
  | k + 1, hk, hd, i, j, hi, hj, hij, h => by
    rw [dupE_next (by omega)] at hd
    simp only [Bool.or_eq_false_iff] at hd
    by_cases e : j = k
    · subst e
      intro hn
      have := inN_iff.2 ⟨i, hi, hij, hn⟩
      rw [hd.2] at this
      cases this
    · exact dupE_no (by omega) hd.1 i j hi hj hij (by omega)
/-- Where the one of a name stands. -/
theorem newS_at {l : List En} (hm : ∀ e ∈ l, mayE e = true) (hl : l.length ≤ 7) (hd : dupE l l.length = false) {j : Nat} (hj : j < l.length) : findS (newS l l.length) l[j].name = some j := by
  refine fstB_some.2 ⟨by omega, hasS_iff.2 ⟨l[j], by rw [newS_ent hm hl (by omega) (Nat.le_refl _), if_pos hj, List.getElem?_eq_getElem hj], rfl⟩, fun i hi => ?_⟩
  cases h : hasS (newS l l.length) l[j].name i
  · rfl
  · obtain ⟨e, he, hs⟩ := hasS_iff.1 h
    rw [newS_ent hm hl (by omega) (Nat.le_refl _), if_pos (by omega), List.getElem?_eq_getElem (by omega)] at he
    injection he with he
    subst he
    exact absurd hs (dupE_no (Nat.le_refl _) hd i j (by omega) hj hi hj)
theorem newS_kept {l : List En} (hm : ∀ e ∈ l, mayE e = true) (hl : l.length ≤ 7) (hd : dupE l l.length = false) {j : Nat} (hj : j < 7) : keptB (newS l l.length) j = decide (j < l.length) := by
  have he := newS_ent hm hl hj (Nat.le_refl l.length)
  by_cases h : j < l.length
  · rw [if_pos h, List.getElem?_eq_getElem h] at he
    rw [keptB_some he, newS_at hm hl hd h, decide_eq_true h]
    simp
  · rw [if_neg h] at he
    rw [keptB_no he, decide_eq_false h]
/-- A block is right, if it begins so, and each slot's bytes are kept, or noughts. -/
theorem right_of {b : List UInt8} (hb : b.length = 256) (hh : b.take 32 = headB.take 32) (h : ∀ j, j < 7 → keptB b j = false → rawS b j = zeros 32) : rightS b = true := by
  unfold rightS
  rw [beq_iff_eq]
  refine block_ext (fixS_len hb (Nat.le_refl _)) hb (by rw [fixS_head hb (Nat.le_refl _), hh]) fun j hj => ?_
  rw [fixS_raw hb hj (Nat.le_refl _), decide_eq_true hj, Bool.true_and]
  cases hk : keptB b j
  · rw [h j hj hk]; rfl
  · rfl
theorem newS_right {l : List En} (hm : ∀ e ∈ l, mayE e = true) (hl : l.length ≤ 7) (hd : dupE l l.length = false) : rightS (newS l l.length) = true := by
  refine right_of (newS_len hm hl (Nat.le_refl _)) (newS_head hm hl (Nat.le_refl _)) fun j hj hk => ?_
  rw [newS_kept hm hl hd hj] at hk
  have hk := of_decide_eq_false hk
  rw [newS_raw hm hl hj (Nat.le_refl _), dif_neg (by omega)]
theorem newS_room {l : List En} (hm : ∀ e ∈ l, mayE e = true) (hl : l.length ≤ 7) : roomS (newS l l.length) = if l.length < 7 then some l.length else none := by
  have key : ∀ j, j < 7 → emptyS (newS l l.length) j = decide (l.length ≤ j) := fun j hj => by
    unfold emptyS
    rw [newS_raw hm hl hj (Nat.le_refl _)]
    by_cases h : j < l.length
    · rw [dif_pos ⟨h, h⟩, decide_eq_false (by omega), beq_eq_false_iff_ne]
      exact bytesE_ne (hm _ (List.getElem_mem _))
    · rw [dif_neg (by omega), decide_eq_true (by omega)]
      simp
  by_cases h : l.length < 7
  · rw [if_pos h]
    exact fstB_some.2 ⟨h, by rw [key _ h]; simp, fun j hj => by rw [key j (by omega)]; simp; omega⟩
  · rw [if_neg h]
    exact fstB_none.2 fun j hj => by rw [key j hj]; simp; omega
theorem newS_list {l : List En} (hm : ∀ e ∈ l, mayE e = true) (hl : l.length ≤ 7) : ∀ {k : Nat}, k ≤ 7 → (listS (newS l l.length) k).length = min k l.length
  | 0, _ => by simp [listS]
  | k + 1, h => by
    have ih := newS_list hm hl (k := k) (by omega)
    have he := newS_ent hm hl (j := k) (by omega) (Nat.le_refl l.length)
    by_cases hk : k < l.length
    · rw [if_pos hk, List.getElem?_eq_getElem hk] at he
      rw [listS_some he, List.length_append, ih]
      simp
      omega
    · rw [if_neg hk] at he
      rw [listS_none he, ih]
      omega
/-- 18.1: New. -/
def errB (l : List En) : Int := if 7 < l.length then 11 else if l.all mayE then (if dupE l l.length then 5 else 0) else 1
theorem errB_zero {l : List En} : errB l = 0 ↔ l.length ≤ 7 ∧ (∀ e ∈ l, mayE e = true) ∧ dupE l l.length = false := by
  unfold errB
  by_cases h : 7 < l.length
  · rw [if_pos h]
    simp
    omega
  · rw [if_neg h]
    by_cases h2 : l.all mayE = true
    · rw [if_pos h2]
      have h3 := List.all_eq_true.1 h2
      cases hd : dupE l l.length
      · simp
        exact ⟨by omega, h3⟩
      · simp
    · rw [if_neg h2]
      simp at h2
      simp
      intro _ h4
      obtain ⟨x, hx, h5⟩ := h2
      rw [h4 x hx] at h5
      cases h5

/-! 18.5: one more, and one less. -/
theorem newS_more (l : List En) (e : En) : ∀ {k : Nat}, k ≤ l.length → newS (l ++ [e]) k = newS l k
  | 0, _ => rfl
  | k + 1, h => by
    rw [newS_next (by simp; omega), newS_next (by omega), newS_more l e (by omega), List.getElem_append_left (by omega)]
theorem newS_snoc (l : List En) (e : En) : newS (l ++ [e]) (l ++ [e]).length = putS (newS l l.length) l.length (bytesE e) := by
  rw [List.length_append, List.length_singleton, newS_next (by simp), newS_more l e (Nat.le_refl _)]
  simp
theorem dupE_snoc {l : List En} {e : En} (h : dupE l l.length = false) (hn : inN e.name l l.length = false) : dupE (l ++ [e]) (l ++ [e]).length = false := by
  have key : ∀ k, k ≤ l.length → dupE (l ++ [e]) k = dupE l k := fun k => by
    induction k with
    | zero => intro _; rfl
    | succ k ih =>
      intro hk
      rw [dupE_next (by simp; omega), dupE_next (by omega), ih (by omega), List.getElem_append_left (by omega)]
      unfold inN
      rw [List.take_append_of_le_length (by omega)]
  rw [List.length_append, List.length_singleton, dupE_next (by simp), key _ (Nat.le_refl _), h]
  unfold inN at hn ⊢
  rw [List.take_append_of_le_length (Nat.le_refl _)]
  simpa using hn
section
variable {l : List En} (hm : ∀ e ∈ l, mayE e = true) (hl : l.length ≤ 7) (hd : dupE l l.length = false) {q : Nat} (hq : q < l.length)
include hm hl hq
theorem gone_ent {j : Nat} (hj : j < 7) : entS (putS (newS l l.length) q (zeros 32)) j = if j = q then none else if j < l.length then l[j]? else none := by
  unfold entS
  rw [rawS_put (newS_len hm hl (Nat.le_refl _)) (by omega) (zeros_len _)]
  split
  · exact readE_zeros
  · exact newS_ent hm hl hj (Nat.le_refl _)
include hd
theorem gone_find {j : Nat} (hj : j < l.length) : findS (putS (newS l l.length) q (zeros 32)) l[j].name = if j = q then none else some j := by
  have hno : ∀ i, i < 7 → i ≠ j → hasS (putS (newS l l.length) q (zeros 32)) l[j].name i = false := fun i hi hne => by
    cases h : hasS (putS (newS l l.length) q (zeros 32)) l[j].name i
    · rfl
    · obtain ⟨e, he, hs⟩ := hasS_iff.1 h
      rw [gone_ent hm hl hq hi] at he
      split at he
      · cases he
      · split at he
        · next h1 =>
          rw [List.getElem?_eq_getElem h1] at he
          injection he with he
          subst he
          rcases Nat.lt_or_gt_of_ne hne with h2 | h2
          · exact absurd hs (dupE_no (Nat.le_refl _) hd i j h1 hj h2 hj)
          · exact absurd hs.symm (dupE_no (Nat.le_refl _) hd j i hj h1 h2 h1)
        · cases he
  by_cases e : j = q
  · rw [if_pos e]
    refine fstB_none.2 fun i hi => ?_
    by_cases hij : i = j
    · exact hasS_no (by rw [gone_ent hm hl hq hi, if_pos (by omega)])
    · exact hno i hi hij
  · rw [if_neg e]
    refine fstB_some.2 ⟨by omega, hasS_iff.2 ⟨l[j], by rw [gone_ent hm hl hq (by omega), if_neg e, if_pos hj, List.getElem?_eq_getElem hj], rfl⟩, fun i hi => hno i (by omega) (by omega)⟩
theorem gone_right : rightS (putS (newS l l.length) q (zeros 32)) = true := by
  have hL := newS_len hm hl (Nat.le_refl l.length)
  refine right_of (putS_len hL (by omega) (zeros_len _)) (by rw [head_put hL (by omega) (zeros_len _), newS_head hm hl (Nat.le_refl _)]) fun j hj hk => ?_
  rw [rawS_put hL (by omega) (zeros_len _)]
  by_cases e : j = q
  · rw [if_pos e]
  · rw [if_neg e]
    by_cases h : j < l.length
    · have he := gone_ent hm hl hq hj
      rw [if_neg e, if_pos h, List.getElem?_eq_getElem h] at he
      rw [keptB_some he, gone_find hm hl hd hq h, if_neg e] at hk
      simp at hk
    · rw [newS_raw hm hl hj (Nat.le_refl _), dif_neg (by omega)]
end

end Go.Proofs.YtkakihbfhmiabaaGreat

/-
  Names, and texts in order: what the document's chapter 3 says, as functions and laws on lists. Plain; no program is named here.
-/
namespace Go.Proofs.YtkakihbfhmiabaaGreat
open Go.RowKit

/-! The order of texts. -/
def ltS (a b : ByteArray) : Bool := Op.bytesLess a.toList b.toList
theorem less_eq : ∀ (x y : List UInt8), Op.bytesLess x y = decide (x < y)
  | [], [] => by simp [Op.bytesLess]
  | _ :: _, [] => by simp [Op.bytesLess]
  | [], _ :: _ => by simp [Op.bytesLess]
  | a :: x, b :: y => by
    rw [Op.bytesLess, less_eq x y]
    simp only [List.cons_lt_cons_iff]
    by_cases h1 : a < b <;> by_cases h2 : a = b <;> by_cases h3 : x < y <;> simp [h1, h2, h3]
theorem ltS_eq (a b : ByteArray) : ltS a b = decide (a.data.toList < b.data.toList) := by
  unfold ltS
  rw [ByteArray.toList_eq, ByteArray.toList_eq, less_eq]
theorem ltS_iff (a b : ByteArray) : ltS a b = true ↔ a.data.toList < b.data.toList := by rw [ltS_eq]; simp
theorem ltS_irrefl (a : ByteArray) : ltS a a = false := by rw [ltS_eq]; simp [List.lt_irrefl]
theorem ltS_trans {a b c : ByteArray} (h : ltS a b = true) (k : ltS b c = true) : ltS a c = true := by
  rw [ltS_iff] at *
  exact List.lt_trans h k
theorem ltS_asymm {a b : ByteArray} (h : ltS a b = true) : ltS b a = false := by
  cases k : ltS b a with
  | false => rfl
  | true =>
    have := ltS_trans h k
    rw [ltS_irrefl] at this
    cases this
theorem ltS_tri {a b : ByteArray} (h : ltS a b = false) (k : ltS b a = false) : a = b := by
  rw [ltS_eq] at h k
  simp only [decide_eq_false_iff_not, List.not_lt] at h k
  have e := List.le_antisymm k h
  cases a with
  | mk x => cases b with
    | mk y => exact congrArg ByteArray.mk (Array.toList_inj.1 e)
theorem ltS_ne {a b : ByteArray} (h : ltS a b = true) : a ≠ b := by
  rintro rfl
  rw [ltS_irrefl] at h
  cases h
/-- Of two unlike texts just one is less. -/
theorem ltS_one (a b : ByteArray) : (ltS a b == ltS b a) = decide (a = b) := by
  by_cases h : a = b
  · subst h; simp
  · rw [decide_eq_false h]
    cases h1 : ltS a b
    · cases h2 : ltS b a
      · exact absurd (ltS_tri h1 h2) h
      · rfl
    · rw [ltS_asymm h1]
      rfl

/-- They rise. -/
def RiseS (l : List ByteArray) : Prop := l.Pairwise fun a b => ltS a b = true
theorem RiseS.uniq : ∀ {l m : List ByteArray}, RiseS l → RiseS m → (∀ x, x ∈ l ↔ x ∈ m) → l = m
  | [], [], _, _, _ => rfl
  | [], b :: m, _, _, h => absurd ((h b).2 (by simp)) (by simp)
  | a :: l, [], _, _, h => absurd ((h a).1 (by simp)) (by simp)
  | a :: l, b :: m, hl, hm, h => by
    have hl' := List.pairwise_cons.1 hl
    have hm' := List.pairwise_cons.1 hm
    have e : a = b := by
      have h1 := (h a).1 (by simp)
      have h2 := (h b).2 (by simp)
      rcases List.mem_cons.1 h1 with h1 | h1
      · exact h1
      · rcases List.mem_cons.1 h2 with h2 | h2
        · exact h2.symm
        · have k1 := hm'.1 a h1
          have k2 := hl'.1 b h2
          rw [ltS_asymm k1] at k2
          cases k2
    subst e
    congr 1
    refine RiseS.uniq hl'.2 hm'.2 fun x => ⟨fun hx => ?_, fun hx => ?_⟩
    · rcases List.mem_cons.1 ((h x).1 (List.mem_cons_of_mem _ hx)) with e | e
      · subst e
        have := hl'.1 x hx
        rw [ltS_irrefl] at this
        cases this
      · exact e
    · rcases List.mem_cons.1 ((h x).2 (List.mem_cons_of_mem _ hx)) with e | e
      · subst e
        have := hm'.1 x hx
        rw [ltS_irrefl] at this
        cases this
      · exact e

/-! What slices.Sort and slices.Compact make of texts. -/
theorem compactUpTo_rises (d : Array (List UInt8)) (hs : ∀ i j, i ≤ j → j < d.size → d[i]! ≤ d[j]!) : ∀ m, m ≤ d.size → (Lib.compactUpTo d m).Pairwise (· < ·) ∧ ∀ x, x ∈ Lib.compactUpTo d m ↔ ∃ j, j < m ∧ d[j]! = x
  | 0, _ => by simp [Lib.compactUpTo]
  | m + 1, hm => by
    obtain ⟨h1, h2⟩ := compactUpTo_rises d hs m (by omega)
    rw [Lib.compactUpTo_succ]
    by_cases hk : Lib.keeps d m = true
    · rw [if_pos hk]
      refine ⟨List.pairwise_append.2 ⟨h1, by simp, fun x hx y hy => ?_⟩, fun x => ?_⟩
      · rw [List.mem_singleton] at hy
        subst hy
        obtain ⟨j, hj, rfl⟩ := (h2 x).1 hx
        have hle := hs j m (by omega) (by omega)
        unfold Lib.keeps at hk
        rw [decide_eq_true_eq] at hk
        rcases hk with hk | hk
        · omega
        · rcases List.le_iff_lt_or_eq.1 hle with h | h
          · exact h
          · exfalso
            have a1 := hs j (m - 1) (by omega) (by omega)
            have a2 := hs (m - 1) m (by omega) (by omega)
            rw [h] at a1
            exact hk (List.le_antisymm a1 a2)
      · rw [List.mem_append, h2, List.mem_singleton]
        constructor
        · rintro (⟨j, hj, e⟩ | rfl)
          · exact ⟨j, by omega, e⟩
          · exact ⟨m, by omega, rfl⟩
        · rintro ⟨j, hj, e⟩
          by_cases hjm : j = m
          · subst hjm; exact Or.inr e.symm
          · exact Or.inl ⟨j, by omega, e⟩
    · rw [if_neg hk, List.append_nil]
      refine ⟨h1, fun x => ?_⟩
      rw [h2]
      constructor
      · rintro ⟨j, hj, e⟩
        exact ⟨j, by omega, e⟩
      · rintro ⟨j, hj, e⟩
        by_cases hjm : j = m
        · subst hjm
          unfold Lib.keeps at hk
          rw [decide_eq_true_eq] at hk
          have h0 : ¬ j = 0 := fun h => hk (Or.inl h)
          have h3 : d[j]! = d[j - 1]! := Classical.byContradiction fun h => hk (Or.inr h)
          exact ⟨j - 1, by omega, by rw [← h3]; exact e⟩
        · exact ⟨j, by omega, e⟩
def sortL (l : List (List UInt8)) : List (List UInt8) := Lib.compact (l.mergeSort fun x y => decide (x ≤ y))
theorem sortL_rises (l : List (List UInt8)) : (sortL l).Pairwise (· < ·) ∧ ∀ x, x ∈ sortL l ↔ x ∈ l := by
  have hp : (l.mergeSort fun x y => decide (x ≤ y)).Pairwise (fun x y => decide (x ≤ y) = true) :=
    List.pairwise_mergeSort (fun a b c h1 h2 => by simp only [decide_eq_true_eq] at *; exact List.le_trans h1 h2) (fun a b => by simp only [Bool.or_eq_true, decide_eq_true_eq]; exact List.le_total a b) l
  have hm : ∀ x, x ∈ (l.mergeSort fun x y => decide (x ≤ y)) ↔ x ∈ l := fun x => (List.mergeSort_perm l _).mem_iff
  unfold sortL Lib.compact
  generalize (l.mergeSort fun x y => decide (x ≤ y)) = m at *
  have hs : ∀ i j, i ≤ j → j < m.toArray.size → m.toArray[i]! ≤ m.toArray[j]! := by
    intro i j hij hj
    have hj' : j < m.length := by simpa using hj
    rw [getElem!_pos _ i (by simp; omega), getElem!_pos _ j hj]
    simp only [List.getElem_toArray]
    by_cases e : i = j
    · subst e; exact List.le_refl _
    · have := List.pairwise_iff_getElem.1 hp i j (by omega) hj' (by omega)
      simpa using this
  obtain ⟨h1, h2⟩ := compactUpTo_rises m.toArray hs m.length (by simp)
  refine ⟨h1, fun x => ?_⟩
  rw [h2, ← hm x, List.mem_iff_getElem]
  constructor
  · rintro ⟨j, hj, e⟩
    exact ⟨j, hj, by rw [← e, getElem!_pos _ j (by simpa using hj)]; simp⟩
  · rintro ⟨j, hj, e⟩
    exact ⟨j, hj, by rw [← e, getElem!_pos _ j (by simpa using hj)]; simp⟩
/-- The texts of a list, each once, so that they rise. -/
def sortS (l : List ByteArray) : List ByteArray := (sortL (l.map (·.data.toList))).map fun b => ⟨b.toArray⟩
theorem sortS_rises (l : List ByteArray) : RiseS (sortS l) := by
  unfold RiseS sortS
  rw [List.pairwise_map]
  exact (sortL_rises _).1.imp fun h => by rw [ltS_iff]; exact h
theorem sortS_mem (l : List ByteArray) (s : ByteArray) : s ∈ sortS l ↔ s ∈ l := by
  unfold sortS
  rw [List.mem_map]
  constructor
  · rintro ⟨b, hb, rfl⟩
    obtain ⟨t, ht, e⟩ := List.mem_map.1 (((sortL_rises _).2 b).1 hb)
    rw [← bytes_data.2 e]
    exact ht
  · intro h
    exact ⟨s.data.toList, ((sortL_rises _).2 _).2 (List.mem_map.2 ⟨s, h, rfl⟩), by simp⟩
theorem sortS_len (l : List ByteArray) : (sortS l).length ≤ l.length := by
  unfold sortS sortL
  rw [List.length_map]
  refine Nat.le_trans (Lib.compact_length_le _) ?_
  rw [List.length_mergeSort, List.length_map]
  exact Nat.le_refl _
theorem sortS_sort (l : List ByteArray) : sortS (sortS l) = sortS l :=
  (sortS_rises _).uniq (sortS_rises _) fun x => sortS_mem _ x
theorem svals_sortS (l : List ByteArray) : svals (sortS l) = (sortL (l.map (·.data.toList))).map fun b => Value.string ⟨b.toArray⟩ := by
  unfold svals sortS
  rw [List.map_map]
  rfl

/-! How many are less, and whether it is one of them. -/
def fewerN (l : List ByteArray) (s : ByteArray) : Nat := l.countP fun x => ltS x s
def inB (l : List ByteArray) (s : ByteArray) : Bool := l.any fun x => decide (x = s)
theorem inB_true {l : List ByteArray} {s : ByteArray} (h : s ∈ l) : inB l s = true := List.any_eq_true.2 ⟨s, h, by simp⟩
theorem inB_false {l : List ByteArray} {s : ByteArray} (h : s ∉ l) : inB l s = false := List.any_eq_false.2 fun x hx e => h (by simp at e; rw [← e]; exact hx)
theorem fewerN_le (l : List ByteArray) (s : ByteArray) : fewerN l s ≤ l.length := List.countP_le_length
theorem fewerN_none {l : List ByteArray} {s : ByteArray} (h : ∀ x ∈ l, ltS x s = false) : fewerN l s = 0 := by
  unfold fewerN
  rw [List.countP_eq_zero]
  intro x hx
  rw [h x hx]
  simp
theorem fewerN_iff : ∀ {l : List ByteArray} (s : ByteArray), RiseS l → ∀ t (ht : t < l.length), ltS l[t] s = true ↔ t < fewerN l s
  | a :: l, s, hr, t, ht => by
    have hr' := List.pairwise_cons.1 hr
    cases ha : ltS a s
    · have hn : ∀ x ∈ l, ltS x s = false := fun x hx => by
        cases hx2 : ltS x s with
        | false => rfl
        | true =>
          have := ltS_trans (hr'.1 x hx) hx2
          rw [ha] at this
          cases this
      have h0 : fewerN (a :: l) s = 0 := fewerN_none fun x hx => by
        rcases List.mem_cons.1 hx with rfl | hx
        · exact ha
        · exact hn x hx
      have h1 : ltS (a :: l)[t] s = false := by
        have := List.getElem_mem ht
        rcases List.mem_cons.1 this with e | e
        · rw [e]; exact ha
        · exact hn _ e
      rw [h0, h1]
      simp
    · have h1 : fewerN (a :: l) s = fewerN l s + 1 := by unfold fewerN; rw [List.countP_cons, ha]; rfl
      rw [h1]
      cases t with
      | zero => simp [ha]
      | succ t =>
        rw [List.getElem_cons_succ, fewerN_iff s hr'.2 t (by simpa using ht)]
        omega
theorem place_rises {l : List ByteArray} (s : ByteArray) (hr : RiseS l) (n : Nat) (hn : l.length = n) :
    Lib.bsGo (fun t => Op.bytesLess (l.getD t s).toList s.toList) n 0 n = fewerN l s ∧ decide (fewerN l s < n ∧ l.getD (fewerN l s) s = s) = inB l s := by
  subst hn
  constructor
  · refine Lib.bsGo_spec _ (fewerN l s) (fun t ht => ?_) (fun t ht => ?_) _ _ _ (by omega) (by omega) (fewerN_le l s)
    · have h1 : t < l.length := Nat.lt_of_lt_of_le ht (fewerN_le l s)
      have := (fewerN_iff s hr t h1).2 ht
      show ltS (l.getD t s) s = true
      simpa [List.getD, h1] using this
    · show ltS (l.getD t s) s = false
      by_cases h1 : t < l.length
      · cases h2 : ltS l[t] s with
        | false => simpa [List.getD, h1] using h2
        | true =>
          have := (fewerN_iff s hr t h1).1 h2
          omega
      · have : l.getD t s = s := by simp [List.getD, show l.length ≤ t by omega]
        rw [this, ltS_irrefl]
  · by_cases hm : s ∈ l
    · rw [inB_true hm]
      obtain ⟨i, hi, e⟩ := List.mem_iff_getElem.1 hm
      have h1 : ¬ i < fewerN l s := fun h => by
        have := (fewerN_iff s hr i hi).2 h
        rw [e, ltS_irrefl] at this
        cases this
      have h2 : ¬ fewerN l s < i := fun h => by
        have k1 : ltS l[fewerN l s] l[i] = true := List.pairwise_iff_getElem.1 hr _ _ (by omega) hi h
        rw [e] at k1
        have := (fewerN_iff s hr _ (by omega)).1 k1
        omega
      have h3 : fewerN l s = i := by omega
      rw [h3]
      simp [List.getD, hi, e]
    · rw [inB_false hm, decide_eq_false_iff_not]
      rintro ⟨h1, h2⟩
      apply hm
      rw [← h2]
      simp [List.getD, h1]
theorem bsGo_le (less : Nat → Bool) : ∀ (f lo hi : Nat), lo ≤ hi → Lib.bsGo less f lo hi ≤ hi
  | 0, lo, hi, h => by simpa [Lib.bsGo] using h
  | f + 1, lo, hi, h => by
    unfold Lib.bsGo
    by_cases h1 : lo < hi
    · rw [if_pos h1]
      cases less ((lo + hi) / 2)
      · rw [if_neg (by simp)]
        exact Nat.le_trans (bsGo_le less f lo _ (by omega)) (by omega)
      · rw [if_pos rfl]
        exact bsGo_le less f _ hi (by omega)
    · rw [if_neg h1]
      exact h
theorem fewerN_next (l : List ByteArray) (s : ByteArray) (k : Nat) (hk : k < l.length) : fewerN (l.take (k + 1)) s = fewerN (l.take k) s + if ltS l[k] s then 1 else 0 := by
  unfold fewerN
  rw [List.take_succ_eq_append_getElem hk, List.countP_append, List.countP_singleton]
theorem inB_next (l : List ByteArray) (s : ByteArray) (k : Nat) (hk : k < l.length) : inB (l.take (k + 1)) s = (inB (l.take k) s || decide (l[k] = s)) := by
  unfold inB
  rw [List.take_succ_eq_append_getElem hk, List.any_append]
  simp

/-- Does each one stand behind the one ahead of it? -/
def riseB (l : List ByteArray) : Bool := (List.range (l.length - 1)).all fun i => ltS (l.getD i ⟨#[]⟩) (l.getD (i + 1) ⟨#[]⟩)
theorem riseB_next {l : List ByteArray} (h : riseB l = true) (i : Nat) (hi : i + 1 < l.length) : ltS l[i] l[i + 1] = true := by
  have := List.all_eq_true.1 h i (List.mem_range.2 (by omega))
  simpa [List.getD, hi, show i < l.length by omega] using this
theorem riseB_not {l : List ByteArray} (i : Nat) (hi : i + 1 < l.length) (h : ltS l[i] l[i + 1] = false) : riseB l = false := by
  unfold riseB
  rw [List.all_eq_false]
  exact ⟨i, List.mem_range.2 (by omega), by simpa [List.getD, hi, show i < l.length by omega] using h⟩
theorem riseB_all {l : List ByteArray} (h : ∀ i, (hi : i + 1 < l.length) → ltS l[i] l[i + 1] = true) : riseB l = true := by
  unfold riseB
  rw [List.all_eq_true]
  intro i hi
  have hi' := List.mem_range.1 hi
  have := h i (by omega)
  simpa [List.getD, show i + 1 < l.length by omega, show i < l.length by omega] using this
theorem riseB_rises {l : List ByteArray} (h : riseB l = true) : RiseS l := by
  refine List.pairwise_iff_getElem.2 fun i j hi hj hij => ?_
  induction j with
  | zero => omega
  | succ j ih =>
    have h1 := riseB_next h j hj
    by_cases e : i = j
    · subst e; exact h1
    · exact ltS_trans (ih (by omega) (by omega)) h1

/-! One less than another, byte by byte. -/
theorem less_step (A B : List UInt8) (k : Nat) (ha : k < A.length) (hb : k < B.length) :
    Op.bytesLess (A.drop k) (B.drop k) = (decide (A[k] < B[k]) || (A[k] == B[k] && Op.bytesLess (A.drop (k + 1)) (B.drop (k + 1)))) := by
  rw [List.drop_eq_getElem_cons ha, List.drop_eq_getElem_cons hb, Op.bytesLess]
theorem less_end (A B : List UInt8) (k : Nat) (h : A.length ≤ k ∨ B.length ≤ k) (ha : k ≤ A.length) (hb : k ≤ B.length) : Op.bytesLess (A.drop k) (B.drop k) = decide (A.length < B.length) := by
  by_cases h1 : B.length ≤ k
  · rw [List.drop_of_length_le h1, decide_eq_false (by omega)]
    cases A.drop k <;> rfl
  · rw [List.drop_of_length_le (show A.length ≤ k by omega), decide_eq_true (by omega), List.drop_eq_getElem_cons (by omega)]
    rfl

end Go.Proofs.YtkakihbfhmiabaaGreat

/-
  What a directory has: where a name's hash leads, its buckets' entries, listed and stray ones. Plain; no program is named here.
-/
namespace Go.Proofs.YtkakihbfhmiabaaGreat
open Go.RowKit

theorem icells_sizes {a b : List Int} {n : Nat} (ha : a.length = n) (hb : b.length = n) : (icells a).size = (icells b).size := by rw [icells_size, icells_size, ha, hb]
/-- 24.1: where a name's hash leads. -/
def rouP (l : Lay14) (T : Int → List UInt8) (X : List Int) (s : ByteArray) : Nat := hashN s % 2 ^ dpN (ixD l T X)
def rouN (l : Lay14) (T : Int → List UInt8) (X : List Int) (s : ByteArray) : Int := fld (ixT l T X) (rouP l T X s)
/-- Where a bucket has a name: its block, the slot, the inode. -/
def inoS (b : List UInt8) (k : Nat) : Int := match entS b k with
  | some e => e.ino
  | none => 0
def lkO (b : List UInt8) (no : Int) (s : ByteArray) : Option (List Int) := match findS b s with
  | some k => some [no, (k : Int), inoS b k]
  | none => none
def lkD (l : Lay14) (T : Int → List UInt8) (X : List Int) (s : ByteArray) : Option (List Int) := if l.isD (rouN l T X s) then lkO (vBk l T (rouN l T X s)) (rouN l T X s) s else none
def orZ (o : Option (List Int)) : List Int := match o with
  | some p => p
  | none => [0, 0, 0]
/-- The entries of a bucket, each with where it is; of buckets. -/
def entP (no : Int) (q : Nat × En) : List Int × En := ([no, (q.1 : Int), q.2.ino], q.2)
def entB (no : Int) (b : List UInt8) : List (List Int × En) := (listS b 7).map (entP no)
def entsD (l : Lay14) (T : Int → List UInt8) (bs : List Int) : List (List Int × En) := bs.flatMap fun no => entB no (vBk l T no)
def entA (l : Lay14) (T : Int → List UInt8) (X : List Int) : List (List Int × En) := entsD l T (bukF l T X)
/-- Stray? -/
def strB (l : Lay14) (T : Int → List UInt8) (X : List Int) (q : List Int × En) : Bool := !(orZ (lkD l T X q.2.name) == q.1)
def lisE (f : List Int × En → Bool) (P : List (List Int × En)) : List En := (P.filter fun q => !f q).map (·.2)
def strE (f : List Int × En → Bool) (P : List (List Int × En)) : List (List Int) := (P.filter f).map (·.1)
theorem lisE_snoc (f : List Int × En → Bool) (P : List (List Int × En)) (q : List Int × En) : lisE f (P ++ [q]) = if f q then lisE f P else lisE f P ++ [q.2] := by
  unfold lisE
  rw [List.filter_append]
  cases h : f q <;> simp [h]
theorem strE_snoc (f : List Int × En → Bool) (P : List (List Int × En)) (q : List Int × En) : strE f (P ++ [q]) = if f q then strE f P ++ [q.1] else strE f P := by
  unfold strE
  rw [List.filter_append]
  cases h : f q <;> simp [h]
theorem lisE_len (f : List Int × En → Bool) (P : List (List Int × En)) : (lisE f P).length ≤ P.length := by unfold lisE; rw [List.length_map]; exact List.length_filter_le _ _
theorem strE_len (f : List Int × En → Bool) (P : List (List Int × En)) : (strE f P).length ≤ P.length := by unfold strE; rw [List.length_map]; exact List.length_filter_le _ _
theorem both_len (f : List Int × En → Bool) (P : List (List Int × En)) : (lisE f P).length + (strE f P).length = P.length := by
  unfold lisE strE
  rw [List.length_map, List.length_map]
  induction P with
  | nil => rfl
  | cons q P ih => cases h : f q <;> simp [h] <;> omega
/-- 24.2: the entries that are listed, as they stand; the stray ones; how many. -/
def lisD (l : Lay14) (T : Int → List UInt8) (X : List Int) : List En := lisE (strB l T X) (entA l T X)
def strD (l : Lay14) (T : Int → List UInt8) (X : List Int) : List (List Int) := strE (strB l T X) (entA l T X)
def lodL (l : Lay14) (T : Int → List UInt8) (bs : List Int) : List Int := bs.map fun no => ((listS (vBk l T no) 7).length : Int)

section
variable {l : Lay14} {T : Int → List UInt8} {X : List Int}
theorem ix_none (hi : isF l T X = false) : ixD l T X = 0 ∧ ixT l T X = zeroT := by
  by_cases h : fld X 0 = 2 ∧ l.isD (fld X 4) = true
  · have := ix_on (T := T) h.1 h.2
    rw [this.1] at hi
    rw [this.2.1, this.2.2]
    unfold getD_ getT_
    rw [hi]
    exact ⟨rfl, rfl⟩
  · exact (ix_off (l := l) (T := T) (X := X) (by
      by_cases h2 : fld X 0 = 2
      · right
        cases hd : l.isD (fld X 4)
        · rfl
        · exact absurd ⟨h2, hd⟩ h
      · exact Or.inl h2)).2
theorem ixD_in : 0 ≤ ixD l T X ∧ ixD l T X ≤ 5 := by
  cases hi : isF l T X
  · rw [(ix_none hi).1]; omega
  · obtain ⟨h1, h2⟩ := isF_is hi
    have := ix_on (T := T) h1 h2
    rw [this.1] at hi
    rw [this.2.1]
    unfold getD_
    rw [hi]
    unfold getB mayX inD at hi
    rw [Bool.and_eq_true, Bool.and_eq_true, decide_eq_true_eq] at hi
    exact hi.1.2
theorem rouP_lt (s : ByteArray) : rouP l T X s < 2 ^ dpN (ixD l T X) := Nat.mod_lt _ (Nat.pow_pos (by omega))
theorem rouP_32 (s : ByteArray) : rouP l T X s < 32 := Nat.lt_of_lt_of_le (rouP_lt s) (pow32 (dpN_le _))
theorem zeroT_at (k : Nat) : fld zeroT k = 0 := by
  by_cases h : k < 32
  · exact mapT_at _ k h
  · exact fld_out _ _ (by rw [zeroT_len]; omega)
theorem rou_none (hi : isF l T X = false) (s : ByteArray) : rouP l T X s = 0 ∧ rouN l T X s = 0 := by
  have e := ix_none hi
  refine ⟨?_, ?_⟩
  · unfold rouP
    rw [e.1, show dpN 0 = 0 from rfl, Nat.pow_zero, Nat.mod_one]
  · unfold rouN
    rw [e.2, zeroT_at]
theorem low_rou (s : ByteArray) : lowN (hashN s) (ixD l T X) = rouP l T X s := by
  have h := ixD_in (l := l) (T := T) (X := X)
  unfold lowN rouP
  congr 2
  unfold dpN
  omega
theorem isD_zero (l : Lay14) : l.isD 0 = false := by
  cases h : l.isD 0
  · rfl
  · exact absurd rfl (isD_pos h).1
theorem lkD_none (hi : isF l T X = false) (s : ByteArray) : lkD l T X s = none := by
  unfold lkD
  rw [(rou_none hi s).2, isD_zero]
  rfl
theorem lkD_off {s : ByteArray} (h : l.isD (rouN l T X s) = false) : lkD l T X s = none := by unfold lkD; rw [h]; rfl
theorem lkD_on {s : ByteArray} (h : l.isD (rouN l T X s) = true) : lkD l T X s = lkO (vBk l T (rouN l T X s)) (rouN l T X s) s := by unfold lkD; rw [h]; rfl
theorem lkD_some {s : ByteArray} {p : List Int} : lkD l T X s = some p ↔ ∃ k e, l.isD (rouN l T X s) = true ∧ findS (vBk l T (rouN l T X s)) s = some k ∧ entS (vBk l T (rouN l T X s)) k = some e ∧ e.name = s ∧ p = [rouN l T X s, (k : Int), e.ino] := by
  cases hd : l.isD (rouN l T X s)
  · rw [lkD_off hd]; simp
  · rw [lkD_on hd]
    unfold lkO
    cases hf : findS (vBk l T (rouN l T X s)) s with
    | none => simp
    | some k =>
      obtain ⟨h1, h2, h3⟩ := fstB_some.1 hf
      obtain ⟨e, he, hs⟩ := hasS_iff.1 h2
      have hi : inoS (vBk l T (rouN l T X s)) k = e.ino := by unfold inoS; rw [he]
      show some [rouN l T X s, (k : Int), inoS (vBk l T (rouN l T X s)) k] = some p ↔ _
      rw [hi]
      constructor
      · intro h
        injection h with h
        exact ⟨k, e, rfl, rfl, he, hs, h.symm⟩
      · rintro ⟨k', e', _, hk, he', _, hp⟩
        injection hk with hk
        subst hk
        rw [he] at he'
        injection he' with he'
        subst he'
        rw [hp]
/-! The entries -/
theorem listS_in {b : List UInt8} {q : Nat × En} : ∀ {k : Nat}, q ∈ listS b k ↔ q.1 < k ∧ entS b q.1 = some q.2
  | 0 => ⟨listS_mem, fun h => absurd h.1 (Nat.not_lt_zero _)⟩
  | k + 1 => by
    refine ⟨listS_mem, fun ⟨h1, h2⟩ => ?_⟩
    have ih := listS_in (b := b) (q := q) (k := k)
    rcases Nat.lt_or_ge q.1 k with h | h
    · have hq := ih.2 ⟨h, h2⟩
      cases he : entS b k with
      | none => rw [listS_none he]; exact hq
      | some e => rw [listS_some he]; exact List.mem_append_left _ hq
    · have e1 : q.1 = k := by omega
      rw [e1] at h2
      rw [listS_some h2]
      refine List.mem_append_right _ ?_
      rw [List.mem_singleton]
      exact Prod.ext e1 rfl
theorem listS_up (b : List UInt8) : ∀ k, (listS b k).Pairwise fun p q => p.1 < q.1
  | 0 => List.Pairwise.nil
  | k + 1 => by
    have ih := listS_up b k
    cases he : entS b k with
    | none => rw [listS_none he]; exact ih
    | some e =>
      rw [listS_some he, List.pairwise_append]
      refine ⟨ih, List.pairwise_singleton _ _, fun p hp q hq => ?_⟩
      rw [List.mem_singleton] at hq
      subst hq
      exact (listS_mem hp).1
theorem entsD_in {bs : List Int} {q : List Int × En} : q ∈ entsD l T bs ↔ ∃ no k, no ∈ bs ∧ k < 7 ∧ entS (vBk l T no) k = some q.2 ∧ q.1 = [no, (k : Int), q.2.ino] := by
  unfold entsD entB entP
  rw [List.mem_flatMap]
  constructor
  · rintro ⟨no, hno, hq⟩
    rw [List.mem_map] at hq
    obtain ⟨⟨k, e⟩, hm, rfl⟩ := hq
    have := listS_mem hm
    exact ⟨no, k, hno, this.1, this.2, rfl⟩
  · rintro ⟨no, k, hno, hk, he, hp⟩
    refine ⟨no, hno, ?_⟩
    rw [List.mem_map]
    exact ⟨(k, q.2), listS_in.2 ⟨hk, he⟩, Prod.ext hp.symm rfl⟩
theorem entsD_app (bs cs : List Int) : entsD l T (bs ++ cs) = entsD l T bs ++ entsD l T cs := List.flatMap_append
theorem entsD_one (no : Int) : entsD l T [no] = entB no (vBk l T no) := by unfold entsD; rw [List.flatMap_cons, List.flatMap_nil, List.append_nil]
theorem entB_len (no : Int) (b : List UInt8) : (entB no b).length ≤ 7 := by unfold entB; rw [List.length_map]; exact listS_len b 7
theorem entsD_len (bs : List Int) : (entsD l T bs).length ≤ 7 * bs.length := by
  induction bs with
  | nil => simp [entsD]
  | cons no bs ih =>
    have e := entsD_app (l := l) (T := T) [no] bs
    rw [entsD_one] at e
    rw [show no :: bs = [no] ++ bs from rfl, e, List.length_append, List.length_append]
    have := entB_len no (vBk l T no)
    simp only [List.length_singleton]
    omega
theorem entA_len : (entA l T X).length ≤ 224 := by
  have h1 := entsD_len (l := l) (T := T) (bukF l T X)
  have h2 := bukF_len (l := l) (T := T) (X := X)
  unfold entA
  omega
theorem buckK_nodup (t : List Int) : ∀ k, (buckK t k).Nodup
  | 0 => List.nodup_nil
  | k + 1 => by
    have ih := buckK_nodup t k
    rw [buckK_succ]
    split
    · exact ih
    · split
      · exact ih
      · next h =>
        rw [List.nodup_append]
        refine ⟨ih, by simp, fun a ha b hb e => ?_⟩
        rw [List.mem_singleton] at hb
        subst hb
        subst e
        exact h (by simpa using ha)
theorem bukF_nodup : (bukF l T X).Nodup := by
  unfold bukF
  split
  · exact List.Pairwise.filter _ (buckK_nodup _ _)
  · exact List.nodup_nil
theorem bukF_is {no : Int} (h : no ∈ bukF l T X) : l.isD no = true := by
  unfold bukF at h
  split at h
  · unfold dataF at h
    rw [List.mem_filter] at h
    exact h.2
  · cases h
theorem rouN_buk {s : ByteArray} (h : l.isD (rouN l T X s) = true) : rouN l T X s ∈ bukF l T X := by
  cases hi : isF l T X
  · rw [(rou_none hi s).2, isD_zero] at h
    cases h
  · unfold bukF dataF
    rw [hi, if_pos rfl, List.mem_filter]
    refine ⟨(buckK_mem (isD_pos h).1).2 ⟨rouP l T X s, rouP_lt s, rfl⟩, h⟩
/-- No two entries stand at one place. -/
theorem entB_apart (no : Int) (b : List UInt8) : (entB no b).Pairwise fun p q => p.1 ≠ q.1 := by
  unfold entB
  rw [List.pairwise_map]
  refine (listS_up b 7).imp fun {p q} h e => ?_
  unfold entP at e
  injection e with _ e
  injection e with e _
  omega
theorem entsD_apart : ∀ {bs : List Int}, bs.Nodup → (entsD l T bs).Pairwise fun p q => p.1 ≠ q.1
  | [], _ => List.Pairwise.nil
  | no :: bs, h => by
    have h' := List.nodup_cons.1 h
    have e := entsD_app (l := l) (T := T) [no] bs
    rw [entsD_one] at e
    rw [show no :: bs = [no] ++ bs from rfl, e, List.pairwise_append]
    refine ⟨entB_apart _ _, entsD_apart h'.2, fun p hp q hq e' => ?_⟩
    rw [← entsD_one (l := l) (T := T)] at hp
    obtain ⟨n1, k1, m1, _, _, e1⟩ := entsD_in.1 hp
    obtain ⟨n2, k2, m2, _, _, e2⟩ := entsD_in.1 hq
    rw [List.mem_singleton] at m1
    subst m1
    rw [e1, e2] at e'
    injection e' with e' _
    subst e'
    exact h'.1 m2
/-! What is listed is found -/
theorem strB_iff {q : List Int × En} (h : q ∈ entA l T X) : strB l T X q = false ↔ lkD l T X q.2.name = some q.1 := by
  obtain ⟨no, k, hno, _, _, hp⟩ := entsD_in.1 h
  have h0 := (isD_pos (bukF_is hno)).1
  unfold strB
  rw [Bool.not_eq_false', beq_iff_eq]
  cases hl : lkD l T X q.2.name with
  | none =>
    simp only [orZ, reduceCtorEq, iff_false]
    rw [hp]
    intro e
    injection e with e _
    exact h0 e.symm
  | some p => simp [orZ]
/-- .. by the document's words. -/
theorem strB_doc {no : Int} {k : Nat} {e : En} (hno : no ∈ bukF l T X) (_hk : k < 7) (he : entS (vBk l T no) k = some e) : strB l T X (entP no (k, e)) = !(rouN l T X e.name == no && decide (findS (vBk l T no) e.name = some k)) := by
  have hm : entP no (k, e) ∈ entA l T X := entsD_in.2 ⟨no, k, hno, _hk, he, rfl⟩
  have h := strB_iff hm
  have hk : lkD l T X e.name = some [no, (k : Int), e.ino] ↔ rouN l T X e.name = no ∧ findS (vBk l T no) e.name = some k := by
    rw [lkD_some]
    constructor
    · rintro ⟨k', e', h1, h2, h3, h4, h5⟩
      injection h5 with h5 h6
      injection h6 with h6 _
      have : k' = k := by omega
      subst this
      rw [← h5] at h2
      exact ⟨h5.symm, h2⟩
    · rintro ⟨h1, h2⟩
      rw [h1]
      exact ⟨k, e, bukF_is hno, h2, he, rfl, rfl⟩
  have h' : strB l T X (entP no (k, e)) = false ↔ rouN l T X e.name = no ∧ findS (vBk l T no) e.name = some k := h.trans hk
  cases hb : strB l T X (entP no (k, e))
  · obtain ⟨h1, h2⟩ := h'.1 hb
    rw [h1, h2]
    simp
  · cases hc : (rouN l T X e.name == no && decide (findS (vBk l T no) e.name = some k))
    · rfl
    · rw [Bool.and_eq_true, beq_iff_eq, decide_eq_true_eq] at hc
      rw [h'.2 hc] at hb
      cases hb
theorem lisD_in {e : En} : e ∈ lisD l T X ↔ ∃ p, lkD l T X e.name = some p ∧ p.getD 2 0 = e.ino := by
  unfold lisD lisE
  rw [List.mem_map]
  constructor
  · rintro ⟨q, hq, rfl⟩
    rw [List.mem_filter, Bool.not_eq_true'] at hq
    refine ⟨q.1, (strB_iff hq.1).1 hq.2, ?_⟩
    obtain ⟨no, k, _, _, _, hp⟩ := entsD_in.1 hq.1
    rw [hp]
    rfl
  · rintro ⟨p, hp, hi⟩
    obtain ⟨k, e', h1, h2, h3, h4, h5⟩ := lkD_some.1 hp
    have he : e' = e := by
      rw [h5] at hi
      cases e
      cases e'
      simp at h4 hi
      rw [h4, hi]
    subst he
    have hm : (p, e') ∈ entA l T X := entsD_in.2 ⟨rouN l T X e'.name, k, rouN_buk h1, fstB_lt h2, h3, h5⟩
    exact ⟨(p, e'), by rw [List.mem_filter, Bool.not_eq_true']; exact ⟨hm, (strB_iff hm).2 hp⟩, rfl⟩
/-- A name is listed once. -/
theorem lisD_apart : (lisD l T X).Pairwise fun a b => a.name ≠ b.name := by
  have h0 : (entA l T X).Pairwise fun p q => p.1 ≠ q.1 := entsD_apart bukF_nodup
  have h : ((entA l T X).filter fun q => !strB l T X q).Pairwise fun p q => p.1 ≠ q.1 := h0.filter _
  unfold lisD lisE
  rw [List.pairwise_map]
  refine List.Pairwise.imp_of_mem (fun {p q} hp hq hne e => ?_) h
  rw [List.mem_filter, Bool.not_eq_true'] at hp hq
  have h1 := (strB_iff hp.1).1 hp.2
  have h2 := (strB_iff hq.1).1 hq.2
  rw [e, h2] at h1
  injection h1 with h1
  exact hne h1.symm
theorem lisD_len : (lisD l T X).length ≤ 224 := Nat.le_trans (lisE_len _ _) entA_len
theorem strD_len : (strD l T X).length ≤ 224 := Nat.le_trans (strE_len _ _) entA_len
end

/-! In order of names -/
def ltE (a b : En) : Bool := ltS a.name b.name
def RiseE (l : List En) : Prop := l.Pairwise fun a b => ltE a b = true
theorem RiseE.uniq : ∀ {l m : List En}, RiseE l → RiseE m → (∀ x, x ∈ l ↔ x ∈ m) → l = m
  | [], [], _, _, _ => rfl
  | [], b :: m, _, _, h => absurd ((h b).2 (by simp)) (by simp)
  | a :: l, [], _, _, h => absurd ((h a).1 (by simp)) (by simp)
  | a :: l, b :: m, hl, hm, h => by
    have hl' := List.pairwise_cons.1 hl
    have hm' := List.pairwise_cons.1 hm
    have e : a = b := by
      have h1 := (h a).1 (by simp)
      have h2 := (h b).2 (by simp)
      rcases List.mem_cons.1 h1 with h1 | h1
      · exact h1
      · rcases List.mem_cons.1 h2 with h2 | h2
        · exact h2.symm
        · have k1 := hm'.1 a h1
          have k2 := hl'.1 b h2
          unfold ltE at k1 k2
          rw [ltS_asymm k1] at k2
          cases k2
    subst e
    congr 1
    refine RiseE.uniq hl'.2 hm'.2 fun x => ⟨fun hx => ?_, fun hx => ?_⟩
    · rcases List.mem_cons.1 ((h x).1 (List.mem_cons_of_mem _ hx)) with e | e
      · subst e
        have := hl'.1 x hx
        unfold ltE at this
        rw [ltS_irrefl] at this
        cases this
      · exact e
    · rcases List.mem_cons.1 ((h x).2 (List.mem_cons_of_mem _ hx)) with e | e
      · subst e
        have := hm'.1 x hx
        unfold ltE at this
        rw [ltS_irrefl] at this
        cases this
      · exact e
/-- The listed ones by rising names. -/
def srtE (L : List En) : List En := (sortS (L.map (·.name))).flatMap fun s => L.filter fun e => decide (e.name = s)
theorem srtE_in {L : List En} {e : En} : e ∈ srtE L ↔ e ∈ L := by
  unfold srtE
  rw [List.mem_flatMap]
  constructor
  · rintro ⟨s, _, h⟩
    exact (List.mem_filter.1 h).1
  · intro h
    refine ⟨e.name, (sortS_mem _ _).2 (List.mem_map.2 ⟨e, h, rfl⟩), ?_⟩
    rw [List.mem_filter]
    exact ⟨h, by simp⟩
theorem one_name {L : List En} (h : L.Pairwise fun a b => a.name ≠ b.name) (s : ByteArray) : (L.filter fun e => decide (e.name = s)).length ≤ 1 := by
  have h2 : (L.filter fun e => decide (e.name = s)).Pairwise fun a b => a.name ≠ b.name := h.filter _
  have h3 : ∀ e ∈ L.filter (fun e => decide (e.name = s)), e.name = s := fun e he => by simpa using (List.mem_filter.1 he).2
  generalize L.filter (fun e => decide (e.name = s)) = M at h2 h3
  match M with
  | [] => simp
  | [_] => simp
  | a :: b :: M =>
    have := (List.pairwise_cons.1 h2).1 b (by simp)
    rw [h3 a (by simp), h3 b (by simp)] at this
    exact absurd rfl this
theorem srtE_rise {L : List En} (h : L.Pairwise fun a b => a.name ≠ b.name) : RiseE (srtE L) := by
  have hr := sortS_rises (L.map (·.name))
  unfold srtE
  generalize sortS (L.map (·.name)) = S at hr
  induction S with
  | nil => exact List.Pairwise.nil
  | cons s S ih =>
    have hr' := List.pairwise_cons.1 hr
    unfold RiseE
    rw [List.flatMap_cons, List.pairwise_append]
    refine ⟨?_, ih hr'.2, fun a ha b hb => ?_⟩
    · have h1 := one_name h s
      generalize L.filter (fun e => decide (e.name = s)) = M at h1
      match M, h1 with
      | [], _ => exact List.Pairwise.nil
      | [_], _ => exact List.pairwise_singleton _ _
      | _ :: _ :: _, h1 => simp at h1
    · rw [List.mem_flatMap] at hb
      obtain ⟨u, hu, hb⟩ := hb
      have ea : a.name = s := by simpa using (List.mem_filter.1 ha).2
      have eb : b.name = u := by simpa using (List.mem_filter.1 hb).2
      unfold ltE
      rw [ea, eb]
      exact hr'.1 u hu
theorem srtE_len {L : List En} (h : L.Pairwise fun a b => a.name ≠ b.name) : (srtE L).length ≤ L.length := by
  have hL := sortS_len (L.map (·.name))
  rw [List.length_map] at hL
  refine Nat.le_trans ?_ hL
  unfold srtE
  generalize sortS (L.map (·.name)) = S
  induction S with
  | nil => simp
  | cons s S ih =>
    rw [List.flatMap_cons, List.length_append, List.length_cons]
    have := one_name h s
    omega
/-- Whatever is sorted by names, of as many, is this. -/
theorem srtE_of {L M : List En} (h : L.Pairwise fun a b => a.name ≠ b.name) (hp : M.Perm L) (hs : M.Pairwise fun a b => ltE b a = false) : M = srtE L := by
  refine RiseE.uniq ?_ (srtE_rise h) fun x => by rw [srtE_in]; exact hp.mem_iff
  have hn : M.Pairwise fun a b => a.name ≠ b.name := by
    have hsym : ∀ {a b : En}, a.name ≠ b.name → b.name ≠ a.name := fun h e => h e.symm
    exact (hp.pairwise_iff (R := fun a b : En => a.name ≠ b.name) hsym).2 h
  refine List.Pairwise.imp_of_mem ?_ (List.Pairwise.and hs hn)
  rintro a b _ _ ⟨h1, h2⟩
  unfold ltE at h1 ⊢
  cases h3 : ltS a.name b.name
  · exact absurd (ltS_tri h3 h1) h2
  · rfl
theorem srtE_perm {L : List En} (h : L.Pairwise fun a b => a.name ≠ b.name) : (srtE L).length = L.length := by
  have e := srtE_of h (List.mergeSort_perm L fun a b => !ltE b a) (by
    have := List.pairwise_mergeSort (le := fun a b : En => !ltE b a) (fun a b c h1 h2 => by
      simp only [Bool.not_eq_true'] at h1 h2 ⊢
      unfold ltE at *
      cases h3 : ltS c.name a.name
      · rfl
      · cases h4 : ltS b.name c.name
        · have := ltS_tri h2 h4
          rw [this] at h3
          rw [h1] at h3
          cases h3
        · have := ltS_trans h4 h3
          rw [h1] at this
          cases this) (fun a b => by
      simp only [Bool.or_eq_true, Bool.not_eq_true']
      unfold ltE
      cases h3 : ltS b.name a.name
      · exact Or.inl rfl
      · exact Or.inr (ltS_asymm h3)) L
    exact this.imp fun {a b} h => by simpa using h)
  rw [← e, List.length_mergeSort]
end Go.Proofs.YtkakihbfhmiabaaGreat
