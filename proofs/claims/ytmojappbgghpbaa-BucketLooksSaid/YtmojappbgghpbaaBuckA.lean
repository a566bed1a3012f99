/-
  A bucket: seven slots of 32 bytes behind a head, each with an entry, empty, or spoilt. Plain; no program is named here.
-/
import Derived.Test.YtmojappbgghpbaaNamB
import Derived.Test.YtmojappbgghpbaaLeV
namespace Go.Proofs.Ytmojappbgghpbaa

/-- An entry. -/
structure En where
  name : ByteArray
  ino : Int
instance : Inhabited En := ⟨⟨⟨#[]⟩, 0⟩⟩
/-- May it be? -/
def mayE (e : En) : Bool := rightN e.name && decide (1 ≤ e.ino ∧ e.ino ≤ 128)
theorem mayE_iff {e : En} : mayE e = true ↔ rightN e.name = true ∧ 1 ≤ e.ino ∧ e.ino ≤ 128 := by unfold mayE; simp
/-- Its bytes. -/
def bytesE (e : En) : List UInt8 := leBytes 2 e.ino.toNat ++ (packL e.name.data.toList ++ zeros 5)
theorem packL_len' {e : En} (h : mayE e = true) : (packL e.name.data.toList).length = 25 := by
  have := (rightN_size (mayE_iff.1 h).1).2
  exact packL_len (by simpa using this)
theorem bytesE_len {e : En} (h : mayE e = true) : (bytesE e).length = 32 := by
  unfold bytesE
  rw [List.length_append, List.length_append, leBytes_len, packL_len' h, zeros_len]
/-- What 32 bytes read as. -/
def nameR (r : List UInt8) : List UInt8 := (r.drop 2).take 25
def enR (r : List UInt8) : En := ⟨unpackS (nameR r), (leVal (r.take 2) : Nat)⟩
def okR (r : List UInt8) : Bool := unpackB (nameR r) && (mayE (enR r) && bytesE (enR r) == r)
def readE (r : List UInt8) : Option En := if okR r then some (enR r) else none
theorem nameR_bytes {e : En} (h : mayE e = true) : nameR (bytesE e) = packN e.name := by
  have hp := packL_len' h
  unfold nameR bytesE packN
  rw [if_pos (mayE_iff.1 h).1, List.drop_append_of_le_length (by rw [leBytes_len]; omega), List.drop_of_length_le (by rw [leBytes_len]; omega), List.nil_append, List.take_append_of_le_length (by omega), List.take_of_length_le (by omega)]
theorem enR_bytes {e : En} (h : mayE e = true) : enR (bytesE e) = e := by
  have hm := mayE_iff.1 h
  have hu := unpack_pack hm.1
  have hi : leVal ((bytesE e).take 2) = e.ino.toNat := by
    unfold bytesE
    rw [List.take_append_of_le_length (by rw [leBytes_len]; omega), List.take_of_length_le (by rw [leBytes_len]; omega), leVal_leBytes]
    have : (2 : Nat) ^ (8 * 2) = 65536 := by decide
    omega
  unfold enR
  rw [nameR_bytes h, hu.2, hi, Int.toNat_of_nonneg (by omega)]
theorem okR_bytes {e : En} (h : mayE e = true) : okR (bytesE e) = true := by
  unfold okR
  rw [nameR_bytes h, (unpack_pack (mayE_iff.1 h).1).1, enR_bytes h, h]
  simp
theorem readE_iff {r : List UInt8} {e : En} : readE r = some e ↔ mayE e = true ∧ bytesE e = r := by
  constructor
  · intro h
    unfold readE at h
    split at h
    · next hk =>
      injection h with h
      subst h
      unfold okR at hk
      simp only [Bool.and_eq_true, beq_iff_eq] at hk
      exact hk.2
    · cases h
  · rintro ⟨h, rfl⟩
    unfold readE
    rw [okR_bytes h, enR_bytes h]
    rfl
theorem readE_zeros : readE (zeros 32) = none := by
  have h : okR (zeros 32) = false := by decide
  unfold readE
  rw [h]
  rfl
theorem bytesE_ne {e : En} (h : mayE e = true) : bytesE e ≠ zeros 32 := fun h' => by
  have h1 := readE_iff.2 ⟨h, h'⟩
  rw [readE_zeros] at h1
  cases h1

/-- The first one below n of which f holds. -/
def fstB (f : Nat → Bool) : Nat → Option Nat
  | 0 => none
  | n + 1 => match fstB f n with
    | some k => some k
    | none => if f n then some n else none
theorem fstB_none {f : Nat → Bool} : ∀ {n : Nat}, fstB f n = none ↔ ∀ j, j < n → f j = false
  | 0 => by simp [fstB]
  | n + 1 => by
    have ih := fstB_none (f := f) (n := n)
    unfold fstB
    cases h : fstB f n with
    | some k =>
      simp only [reduceCtorEq, false_iff]
      intro h'
      have := ih.2 fun j hj => h' j (by omega)
      rw [h] at this
      cases this
    | none =>
      have h0 := ih.1 h
      cases hf : f n
      · simp only [Bool.false_eq_true, if_false, true_iff]
        intro j hj
        by_cases e : j = n
        · rw [e]; exact hf
        · exact h0 j (by omega)
      · simp only [if_true, reduceCtorEq, false_iff]
        intro h'
        rw [h' n (by omega)] at hf
        cases hf
theorem fstB_some {f : Nat → Bool} : ∀ {n k : Nat}, fstB f n = some k ↔ k < n ∧ f k = true ∧ ∀ j, j < k → f j = false
  | 0, k => by simp [fstB]
  | n + 1, k => by
    unfold fstB
    cases h : fstB f n with
    | some q =>
      have h0 := (fstB_some (f := f) (n := n)).1 h
      simp only [Option.some.injEq]
      constructor
      · rintro rfl
        exact ⟨by omega, h0.2⟩
      · rintro ⟨h1, h2, h3⟩
        rcases Nat.lt_trichotomy q k with e | e | e
        · have := h3 q e
          rw [h0.2.1] at this
          cases this
        · exact e
        · have := h0.2.2 k e
          rw [h2] at this
          cases this
    | none =>
      have h0 := fstB_none.1 h
      cases hf : f n
      · simp only [Bool.false_eq_true, if_false, reduceCtorEq, false_iff]
        rintro ⟨h1, h2, _⟩
        by_cases e : k = n
        · rw [e, hf] at h2; cases h2
        · rw [h0 k (by omega)] at h2; cases h2
      · simp only [if_true, Option.some.injEq]
        constructor
        · rintro rfl
          exact ⟨by omega, hf, h0⟩
        · rintro ⟨h1, h2, h3⟩
          by_cases e : k = n
          · exact e.symm
          · rw [h0 k (by omega)] at h2; cases h2
theorem fstB_lt {f : Nat → Bool} {n k : Nat} (h : fstB f n = some k) : k < n := (fstB_some.1 h).1
theorem fstB_eq {f g : Nat → Bool} {n : Nat} (h : ∀ j, j < n → f j = g j) : fstB f n = fstB g n := by
  cases hf : fstB f n with
  | none => exact (fstB_none.2 fun j hj => by rw [← h j hj]; exact fstB_none.1 hf j hj).symm
  | some k =>
    obtain ⟨h1, h2, h3⟩ := fstB_some.1 hf
    exact (fstB_some.2 ⟨h1, by rw [← h k h1]; exact h2, fun j hj => by rw [← h j (by omega)]; exact h3 j hj⟩).symm

/-! The slots of a block. -/
def rawS (b : List UInt8) (k : Nat) : List UInt8 := (b.drop (32 + 32 * k)).take 32
theorem rawS_len {b : List UInt8} (hb : b.length = 256) {k : Nat} (hk : k < 7) : (rawS b k).length = 32 := by
  unfold rawS
  rw [List.length_take, List.length_drop, hb]
  omega
theorem rawS_copy {b : List UInt8} (hb : b.length = 256) {q : Nat} (h : q < 7) : splice (zeros 32) 0 (((b.drop (32 + 32 * q)).take (256 - (32 + 32 * q))).take 32) = rawS b q := by
  have e : ((b.drop (32 + 32 * q)).take (256 - (32 + 32 * q))).take 32 = rawS b q := by
    unfold rawS
    rw [List.take_take]
    congr 1
    omega
  rw [e, splice_all _ _ (by rw [rawS_len hb h, zeros_len])]
def putS (b : List UInt8) (k : Nat) (r : List UInt8) : List UInt8 := splice b (32 + 32 * k) r
theorem putS_len {b : List UInt8} (hb : b.length = 256) {k : Nat} (hk : k < 7) {r : List UInt8} (hr : r.length = 32) : (putS b k r).length = 256 := by
  unfold putS
  rw [splice_len _ _ _ (by omega), hb]
theorem rawS_get (b : List UInt8) (k i : Nat) : (rawS b k)[i]? = if i < 32 then b[32 + 32 * k + i]? else none := by
  unfold rawS
  by_cases h : i < 32
  · rw [if_pos h, List.getElem?_take_of_lt h, List.getElem?_drop]
  · rw [if_neg h, List.getElem?_eq_none]
    rw [List.length_take]
    omega
theorem rawS_put {b : List UInt8} (hb : b.length = 256) {k : Nat} (hk : k < 7) {r : List UInt8} (hr : r.length = 32) (j : Nat) : rawS (putS b k r) j = if j = k then r else rawS b j := by
  apply List.ext_getElem?
  intro i
  rw [rawS_get]
  unfold putS
  rw [splice_get _ _ _ (by omega), hr]
  by_cases h : i < 32
  · rw [if_pos h]
    by_cases e : j = k
    · subst e
      rw [if_pos rfl, if_pos (by omega)]
      congr 1
      omega
    · rw [if_neg e, if_neg (by omega), rawS_get, if_pos h]
  · rw [if_neg h]
    by_cases e : j = k
    · rw [if_pos e, List.getElem?_eq_none (by omega)]
    · rw [if_neg e, rawS_get, if_neg h]
theorem head_put {b : List UInt8} (hb : b.length = 256) {k : Nat} (hk : k < 7) {r : List UInt8} (hr : r.length = 32) : (putS b k r).take 32 = b.take 32 := by
  apply List.ext_getElem?
  intro i
  by_cases h : i < 32
  · rw [List.getElem?_take_of_lt h, List.getElem?_take_of_lt h]
    unfold putS
    rw [splice_get _ _ _ (by omega), if_neg (by omega)]
  · rw [List.getElem?_eq_none (by rw [List.length_take]; omega), List.getElem?_eq_none (by rw [List.length_take]; omega)]
theorem block_ext {b c : List UInt8} (hb : b.length = 256) (hc : c.length = 256) (h : b.take 32 = c.take 32) (hr : ∀ k, k < 7 → rawS b k = rawS c k) : b = c := by
  apply List.ext_getElem?
  intro i
  by_cases h1 : i < 32
  · have := congrArg (·[i]?) h
    simpa only [List.getElem?_take_of_lt h1] using this
  · by_cases h2 : i < 256
    · have := congrArg (·[(i - 32) % 32]?) (hr ((i - 32) / 32) (by omega))
      simp only [rawS_get] at this
      rw [if_pos (by omega), if_pos (by omega), show 32 + 32 * ((i - 32) / 32) + (i - 32) % 32 = i from by omega] at this
      exact this
    · rw [List.getElem?_eq_none (by omega), List.getElem?_eq_none (by omega)]
/-- The entry of a slot. -/
def entS (b : List UInt8) (k : Nat) : Option En := readE (rawS b k)
def hasS (b : List UInt8) (s : ByteArray) (k : Nat) : Bool := match entS b k with
  | some e => decide (e.name = s)
  | none => false
theorem hasS_some {b : List UInt8} {s : ByteArray} {k : Nat} {e : En} (h : entS b k = some e) : hasS b s k = decide (e.name = s) := by unfold hasS; rw [h]
theorem hasS_no {b : List UInt8} {s : ByteArray} {k : Nat} (h : entS b k = none) : hasS b s k = false := by unfold hasS; rw [h]
theorem hasS_iff {b : List UInt8} {s : ByteArray} {k : Nat} : hasS b s k = true ↔ ∃ e, entS b k = some e ∧ e.name = s := by
  cases h : entS b k with
  | none => rw [hasS_no h]; simp
  | some e => rw [hasS_some h]; simp
/-- 18.2: Find, Room, List. -/
def findS (b : List UInt8) (s : ByteArray) : Option Nat := fstB (hasS b s) 7
def emptyS (b : List UInt8) (k : Nat) : Bool := rawS b k == zeros 32
def roomS (b : List UInt8) : Option Nat := fstB (emptyS b) 7
def listS (b : List UInt8) : Nat → List (Nat × En)
  | 0 => []
  | k + 1 => match entS b k with
    | some e => listS b k ++ [(k, e)]
    | none => listS b k
theorem listS_some {b : List UInt8} {k : Nat} {e : En} (h : entS b k = some e) : listS b (k + 1) = listS b k ++ [(k, e)] := by show (match entS b k with | some e => _ | none => _) = _; rw [h]
theorem listS_none {b : List UInt8} {k : Nat} (h : entS b k = none) : listS b (k + 1) = listS b k := by show (match entS b k with | some e => _ | none => _) = _; rw [h]
theorem listS_len (b : List UInt8) : ∀ k, (listS b k).length ≤ k
  | 0 => Nat.le_refl _
  | k + 1 => by
    have := listS_len b k
    cases h : entS b k with
    | none => rw [listS_none h]; omega
    | some e => rw [listS_some h, List.length_append]; simp; omega
theorem listS_mem {b : List UInt8} {q : Nat × En} : ∀ {k}, q ∈ listS b k → q.1 < k ∧ entS b q.1 = some q.2
  | 0, h => by cases h
  | k + 1, h => by
    cases he : entS b k with
    | none =>
      rw [listS_none he] at h
      have := listS_mem h
      exact ⟨by omega, this.2⟩
    | some e =>
      rw [listS_some he] at h
      rcases List.mem_append.1 h with h | h
      · have := listS_mem h
        exact ⟨by omega, this.2⟩
      · rw [List.mem_singleton] at h
        subst h
        exact ⟨by omega, he⟩
/-- 18.4: Fix. -/
def headB : List UInt8 := [98, 107, 116, 33] ++ zeros 252
theorem headB_len : headB.length = 256 := by decide +kernel
theorem headB_raw {k : Nat} (hk : k < 7) : rawS headB k = zeros 32 := by
  have : ∀ k, k < 7 → rawS headB k = zeros 32 := by decide +kernel
  exact this k hk
def keptB (b : List UInt8) (k : Nat) : Bool := match entS b k with
  | some e => decide (findS b e.name = some k)
  | none => false
theorem keptB_no {b : List UInt8} {k : Nat} (h : entS b k = none) : keptB b k = false := by unfold keptB; rw [h]
theorem keptB_some {b : List UInt8} {k : Nat} {e : En} (h : entS b k = some e) : keptB b k = decide (findS b e.name = some k) := by unfold keptB; rw [h]
def fixS (b : List UInt8) : Nat → List UInt8
  | 0 => headB
  | k + 1 => if keptB b k then putS (fixS b k) k (rawS b k) else fixS b k
theorem fixS_len {b : List UInt8} (hb : b.length = 256) : ∀ {k : Nat}, k ≤ 7 → (fixS b k).length = 256
  | 0, _ => headB_len
  | k + 1, h => by
    unfold fixS
    split
    · exact putS_len (fixS_len hb (by omega)) (by omega) (rawS_len hb (by omega))
    · exact fixS_len hb (by omega)
theorem fixS_head {b : List UInt8} (hb : b.length = 256) : ∀ {k : Nat}, k ≤ 7 → (fixS b k).take 32 = headB.take 32
  | 0, _ => rfl
  | k + 1, h => by
    unfold fixS
    split
    · rw [head_put (fixS_len hb (by omega)) (by omega) (rawS_len hb (by omega)), fixS_head hb (by omega)]
    · exact fixS_head hb (by omega)
theorem fixS_raw {b : List UInt8} (hb : b.length = 256) {j : Nat} (hj : j < 7) : ∀ {k : Nat}, k ≤ 7 → rawS (fixS b k) j = if decide (j < k) && keptB b j then rawS b j else zeros 32
  | 0, _ => by rw [decide_eq_false (by omega)]; exact headB_raw hj
  | k + 1, h => by
    have ih := fixS_raw hb hj (k := k) (by omega)
    unfold fixS
    split
    · next hk =>
      rw [rawS_put (fixS_len hb (by omega)) (by omega) (rawS_len hb (by omega))]
      by_cases e : j = k
      · subst e
        rw [if_pos rfl, decide_eq_true (by omega), hk]
        rfl
      · rw [if_neg e, ih]
        congr 3
        exact decide_eq_decide.2 (by omega)
    · next hk =>
      rw [ih]
      by_cases e : j = k
      · subst e
        have hk : keptB b j = false := by simpa using hk
        rw [hk]
        simp
      · congr 3
        exact decide_eq_decide.2 (by omega)
theorem fixS_ent {b : List UInt8} (hb : b.length = 256) {j : Nat} (hj : j < 7) {k : Nat} (hk : k ≤ 7) : entS (fixS b k) j = if decide (j < k) && keptB b j then entS b j else none := by
  unfold entS
  rw [fixS_raw hb hj hk]
  split
  · rfl
  · exact readE_zeros
/-- A name in what is fixed so far. -/
theorem fixS_find {b : List UInt8} (hb : b.length = 256) {k : Nat} (hk : k ≤ 7) (s : ByteArray) : findS (fixS b k) s = match findS b s with
    | some j => if j < k then some j else none
    | none => none := by
  have sub : ∀ j, j < 7 → hasS (fixS b k) s j = true → hasS b s j = true ∧ j < k ∧ keptB b j = true := fun j hj h => by
    obtain ⟨e, he, hs⟩ := hasS_iff.1 h
    rw [fixS_ent hb hj hk] at he
    split at he
    · next hc =>
      simp only [Bool.and_eq_true, decide_eq_true_eq] at hc
      exact ⟨hasS_iff.2 ⟨e, he, hs⟩, hc⟩
    · cases he
  cases hf : findS b s with
  | none =>
    refine fstB_none.2 fun j hj => ?_
    cases h : hasS (fixS b k) s j
    · rfl
    · have := (sub j hj h).1
      rw [fstB_none.1 hf j hj] at this
      cases this
  | some q =>
    obtain ⟨h1, h2, h3⟩ := fstB_some.1 hf
    obtain ⟨e, he, hs⟩ := hasS_iff.1 h2
    have hkept : keptB b q = true := by rw [keptB_some he, hs, hf]; simp
    have hbefore : ∀ j, j < q → hasS (fixS b k) s j = false := fun j hj => by
      cases h : hasS (fixS b k) s j
      · rfl
      · have := (sub j (by omega) h).1
        rw [h3 j hj] at this
        cases this
    by_cases hqk : q < k
    · simp only [if_pos hqk]
      refine fstB_some.2 ⟨h1, hasS_iff.2 ⟨e, ?_, hs⟩, hbefore⟩
      rw [fixS_ent hb h1 hk, decide_eq_true hqk, hkept]
      exact he
    · simp only [if_neg hqk]
      refine fstB_none.2 fun j hj => ?_
      cases h : hasS (fixS b k) s j
      · rfl
      · obtain ⟨g1, g2, g3⟩ := sub j hj h
        obtain ⟨e', he', hs'⟩ := hasS_iff.1 g1
        rw [keptB_some he', hs', hf] at g3
        simp at g3
        omega
/-- The program's way: is the slot's name in what is fixed so far? -/
theorem fixS_is {b : List UInt8} (hb : b.length = 256) {k : Nat} (hk : k < 7) {e : En} (he : entS b k = some e) : keptB b k = !(findS (fixS b k) e.name).isSome := by
  rw [keptB_some he, fixS_find hb (by omega)]
  have hh : hasS b e.name k = true := hasS_iff.2 ⟨e, he, rfl⟩
  cases hf : findS b e.name with
  | none =>
    have := fstB_none.1 hf k hk
    rw [hh] at this
    cases this
  | some q =>
    obtain ⟨h1, h2, h3⟩ := fstB_some.1 hf
    have hle : q ≤ k := by
      rcases Nat.lt_or_ge k q with h | h
      · rw [h3 k h] at hh; cases hh
      · exact h
    by_cases e' : q = k
    · subst e'
      simp
    · have : q < k := by omega
      simp only [if_pos this]
      simp [e']
theorem fixS_kept {b : List UInt8} (hb : b.length = 256) {j : Nat} (hj : j < 7) : keptB (fixS b 7) j = keptB b j := by
  cases hk : keptB b j
  · refine keptB_no ?_
    rw [fixS_ent hb hj (Nat.le_refl _), hk]
    simp
  · cases he : entS b j with
    | none => rw [keptB_no he] at hk; cases hk
    | some e =>
      have h1 : entS (fixS b 7) j = some e := by rw [fixS_ent hb hj (Nat.le_refl _), hk, decide_eq_true hj]; exact he
      rw [keptB_some he] at hk
      have h2 : findS b e.name = some j := by simpa using hk
      rw [keptB_some h1, fixS_find hb (Nat.le_refl _), h2]
      simp only [if_pos hj]
      simp
/-- 18.5: fixed as it is. -/
theorem fixS_twice {b : List UInt8} (hb : b.length = 256) : fixS (fixS b 7) 7 = fixS b 7 := by
  have hl := fixS_len hb (Nat.le_refl 7)
  refine block_ext (fixS_len hl (Nat.le_refl _)) hl (by rw [fixS_head hl (Nat.le_refl _), fixS_head hb (Nat.le_refl _)]) fun j hj => ?_
  rw [fixS_raw hl hj (Nat.le_refl _), fixS_kept hb hj, fixS_raw hb hj (Nat.le_refl _), decide_eq_true hj, Bool.true_and]
  cases keptB b j <;> rfl
def rightS (b : List UInt8) : Bool := fixS b 7 == b
theorem fixS_right {b : List UInt8} (hb : b.length = 256) : rightS (fixS b 7) = true := by unfold rightS; rw [fixS_twice hb]; simp
theorem fixS_find7 {b : List UInt8} (hb : b.length = 256) (s : ByteArray) : findS (fixS b 7) s = findS b s := by
  rw [fixS_find hb (Nat.le_refl _)]
  cases h : findS b s with
  | none => rfl
  | some q => simp only [if_pos (fstB_lt h)]
theorem fixS_list {b : List UInt8} (hb : b.length = 256) : ∀ {k : Nat}, k ≤ 7 → (listS (fixS b 7) k).length ≤ (listS b k).length
  | 0, _ => Nat.le_refl _
  | k + 1, h => by
    have ih := fixS_list hb (k := k) (by omega)
    have he := fixS_ent hb (j := k) (by omega) (Nat.le_refl 7)
    rw [decide_eq_true (by omega), Bool.true_and] at he
    cases hk : keptB b k
    · rw [hk] at he
      rw [listS_none he]
      cases h' : entS b k with
      | none => rw [listS_none h']; exact ih
      | some e => rw [listS_some h', List.length_append]; omega
    · rw [hk] at he
      cases h' : entS b k with
      | none => rw [keptB_no h'] at hk; cases hk
      | some e =>
        rw [if_pos rfl, h'] at he
        rw [listS_some h', listS_some he, List.length_append, List.length_append]
        simp
        exact ih
/-- The entry of a name. -/
theorem findS_ent {b : List UInt8} {s : ByteArray} {k : Nat} (h : findS b s = some k) : ∃ e, entS b k = some e ∧ e.name = s ∧ k < 7 := by
  obtain ⟨h1, h2, _⟩ := fstB_some.1 h
  obtain ⟨e, he, hs⟩ := hasS_iff.1 h2
  exact ⟨e, he, hs, h1⟩
theorem fixS_ent_find {b : List UInt8} (hb : b.length = 256) {s : ByteArray} {k : Nat} (h : findS b s = some k) : entS (fixS b 7) k = entS b k := by
  obtain ⟨e, he, hs, hk⟩ := findS_ent h
  rw [fixS_ent hb hk (Nat.le_refl _), decide_eq_true hk, keptB_some he, hs, h]
  simp

/-! 18.1. -/
def newS (l : List En) : Nat → List UInt8
  | 0 => headB
  | k + 1 => match l[k]? with
    | some e => putS (newS l k) k (bytesE e)
    | none => newS l k
theorem newS_next {l : List En} {k : Nat} (h : k < l.length) : newS l (k + 1) = putS (newS l k) k (bytesE l[k]) := by
  show (match l[k]? with | some e => _ | none => _) = _
  rw [List.getElem?_eq_getElem h]
theorem newS_len {l : List En} (hm : ∀ e ∈ l, mayE e = true) (hl : l.length ≤ 7) : ∀ {k : Nat}, k ≤ l.length → (newS l k).length = 256
  | 0, _ => headB_len
  | k + 1, h => by
    rw [newS_next (by omega)]
    exact putS_len (newS_len hm hl (by omega)) (by omega) (bytesE_len (hm _ (List.getElem_mem _)))
theorem newS_head {l : List En} (hm : ∀ e ∈ l, mayE e = true) (hl : l.length ≤ 7) : ∀ {k : Nat}, k ≤ l.length → (newS l k).take 32 = headB.take 32
  | 0, _ => rfl
  | k + 1, h => by
    rw [newS_next (by omega), head_put (newS_len hm hl (by omega)) (by omega) (bytesE_len (hm _ (List.getElem_mem _))), newS_head hm hl (by omega)]
theorem newS_raw {l : List En} (hm : ∀ e ∈ l, mayE e = true) (hl : l.length ≤ 7) {j : Nat} (hj : j < 7) : ∀ {k : Nat} (_ : k ≤ l.length), rawS (newS l k) j = if h : j < k ∧ j < l.length then bytesE (l[j]'h.2) else zeros 32
  | 0, _ => by rw [dif_neg (by omega)]; exact headB_raw hj
  | k + 1, h => by
    rw [newS_next (by omega), rawS_put (newS_len hm hl (by omega)) (by omega) (bytesE_len (hm _ (List.getElem_mem _))), newS_raw hm hl hj (k := k) (by omega)]
    by_cases e : j = k
    · subst e
      rw [if_pos rfl, dif_pos ⟨by omega, by omega⟩]
    · rw [if_neg e]
      by_cases h1 : j < k
      · rw [dif_pos ⟨h1, by omega⟩, dif_pos ⟨by omega, by omega⟩]
      · rw [dif_neg (by omega), dif_neg (by omega)]
theorem newS_ent {l : List En} (hm : ∀ e ∈ l, mayE e = true) (hl : l.length ≤ 7) {j : Nat} (hj : j < 7) {k : Nat} (hk : k ≤ l.length) : entS (newS l k) j = if j < k then l[j]? else none := by
  unfold entS
  rw [newS_raw hm hl hj hk]
  by_cases h : j < k
  · rw [dif_pos ⟨h, by omega⟩, if_pos h, List.getElem?_eq_getElem (by omega)]
    exact readE_iff.2 ⟨hm _ (List.getElem_mem _), rfl⟩
  · rw [dif_neg (by omega), if_neg h]
    exact readE_zeros
/-- Has one ahead of the k-th its name? -/
def inN (s : ByteArray) (l : List En) (k : Nat) : Bool := (l.take k).any fun x => decide (x.name = s)
theorem inN_iff {s : ByteArray} {l : List En} {k : Nat} : inN s l k = true ↔ ∃ j, ∃ h : j < l.length, j < k ∧ l[j].name = s := by
  unfold inN
  rw [List.any_eq_true]
  constructor
  · rintro ⟨x, hx, h⟩
    obtain ⟨j, hj, rfl⟩ := List.getElem_of_mem hx
    have hj' : j < l.length ∧ j < k := by rw [List.length_take] at hj; omega
    rw [List.getElem_take] at h
    exact ⟨j, hj'.1, hj'.2, by simpa using h⟩
  · rintro ⟨j, h, hk, e⟩
    refine ⟨l[j], List.mem_take_iff_getElem.2 ⟨j, by omega, rfl⟩, by simpa using e⟩
theorem newS_find {l : List En} (hm : ∀ e ∈ l, mayE e = true) (hl : l.length ≤ 7) {k : Nat} (hk : k ≤ l.length) (s : ByteArray) : (findS (newS l k) s).isSome = inN s l k := by
  rw [Bool.eq_iff_iff, inN_iff, Option.isSome_iff_exists]
  constructor
  · rintro ⟨q, hq⟩
    obtain ⟨e, he, hs, hq7⟩ := findS_ent hq
    rw [newS_ent hm hl hq7 hk] at he
    split at he
    · next h =>
      rw [List.getElem?_eq_getElem (by omega)] at he
      injection he with he
      exact ⟨q, by omega, h, by rw [he]; exact hs⟩
    · cases he
  · rintro ⟨j, hj, hjk, hs⟩
    cases hf : findS (newS l k) s with
    | some q => exact ⟨q, rfl⟩
    | none =>
      have := fstB_none.1 hf j (by omega)
      have he : hasS (newS l k) s j = true := hasS_iff.2 ⟨l[j], by rw [newS_ent hm hl (by omega) hk, if_pos hjk, List.getElem?_eq_getElem hj], hs⟩
      rw [he] at this
      cases this
/-- Are two of one name among the first k? -/
def dupE (l : List En) : Nat → Bool
  | 0 => false
  | k + 1 => dupE l k || match l[k]? with
    | some e => inN e.name l k
    | none => false
theorem dupE_next {l : List En} {k : Nat} (h : k < l.length) : dupE l (k + 1) = (dupE l k || inN l[k].name l k) := by
  show (dupE l k || match l[k]? with | some e => _ | none => _) = _
  rw [List.getElem?_eq_getElem h]
theorem dupE_mono {l : List En} {j : Nat} : ∀ {k : Nat}, j ≤ k → dupE l j = true → dupE l k = true
  | 0, h, hd => by
    have e : j = 0 := by omega
    rwa [e] at hd
  | k + 1, h, hd => by
    by_cases e : j = k + 1
    · rwa [e] at hd
    · show (dupE l k || _) = true
      rw [dupE_mono (by omega) hd]
      rfl
theorem dupE_no {l : List En} : ∀ {k : Nat}, k ≤ l.length → dupE l k = false → ∀ i j (hi : i < l.length) (hj : j < l.length), i < j → j < k → l[i].name ≠ l[j].name
  | 0, _, _, i, j, hi, hj, _, h => by omega
  | k + 1, hk, hd, i, j, hi, hj, hij, h => by
    rw [dupE_next (by omega)] at hd
    simp only [Bool.or_eq_false_iff] at hd
    by_cases e : j = k
    · subst e
      intro hn
      have := inN_iff.2 ⟨i, hi, hij, hn⟩
      rw [hd.2] at this
      cases this
    · exact dupE_no (by omega) hd.1 i j hi hj hij (by omega)
/-- Where the one of a name stands. -/
theorem newS_at {l : List En} (hm : ∀ e ∈ l, mayE e = true) (hl : l.length ≤ 7) (hd : dupE l l.length = false) {j : Nat} (hj : j < l.length) : findS (newS l l.length) l[j].name = some j := by
  refine fstB_some.2 ⟨by omega, hasS_iff.2 ⟨l[j], by rw [newS_ent hm hl (by omega) (Nat.le_refl _), if_pos hj, List.getElem?_eq_getElem hj], rfl⟩, fun i hi => ?_⟩
  cases h : hasS (newS l l.length) l[j].name i
  · rfl
  · obtain ⟨e, he, hs⟩ := hasS_iff.1 h
    rw [newS_ent hm hl (by omega) (Nat.le_refl _), if_pos (by omega), List.getElem?_eq_getElem (by omega)] at he
    injection he with he
    subst he
    exact absurd hs (dupE_no (Nat.le_refl _) hd i j (by omega) hj hi hj)
theorem newS_kept {l : List En} (hm : ∀ e ∈ l, mayE e = true) (hl : l.length ≤ 7) (hd : dupE l l.length = false) {j : Nat} (hj : j < 7) : keptB (newS l l.length) j = decide (j < l.length) := by
  have he := newS_ent hm hl hj (Nat.le_refl l.length)
  by_cases h : j < l.length
  · rw [if_pos h, List.getElem?_eq_getElem h] at he
    rw [keptB_some he, newS_at hm hl hd h, decide_eq_true h]
    simp
  · rw [if_neg h] at he
    rw [keptB_no he, decide_eq_false h]
/-- A block is right, if it begins so, and each slot's bytes are kept, or noughts. -/
theorem right_of {b : List UInt8} (hb : b.length = 256) (hh : b.take 32 = headB.take 32) (h : ∀ j, j < 7 → keptB b j = false → rawS b j = zeros 32) : rightS b = true := by
  unfold rightS
  rw [beq_iff_eq]
  refine block_ext (fixS_len hb (Nat.le_refl _)) hb (by rw [fixS_head hb (Nat.le_refl _), hh]) fun j hj => ?_
  rw [fixS_raw hb hj (Nat.le_refl _), decide_eq_true hj, Bool.true_and]
  cases hk : keptB b j
  · rw [h j hj hk]; rfl
  · rfl
theorem newS_right {l : List En} (hm : ∀ e ∈ l, mayE e = true) (hl : l.length ≤ 7) (hd : dupE l l.length = false) : rightS (newS l l.length) = true := by
  refine right_of (newS_len hm hl (Nat.le_refl _)) (newS_head hm hl (Nat.le_refl _)) fun j hj hk => ?_
  rw [newS_kept hm hl hd hj] at hk
  have hk := of_decide_eq_false hk
  rw [newS_raw hm hl hj (Nat.le_refl _), dif_neg (by omega)]
theorem newS_room {l : List En} (hm : ∀ e ∈ l, mayE e = true) (hl : l.length ≤ 7) : roomS (newS l l.length) = if l.length < 7 then some l.length else none := by
  have key : ∀ j, j < 7 → emptyS (newS l l.length) j = decide (l.length ≤ j) := fun j hj => by
    unfold emptyS
    rw [newS_raw hm hl hj (Nat.le_refl _)]
    by_cases h : j < l.length
    · rw [dif_pos ⟨h, h⟩, decide_eq_false (by omega), beq_eq_false_iff_ne]
      exact bytesE_ne (hm _ (List.getElem_mem _))
    · rw [dif_neg (by omega), decide_eq_true (by omega)]
      simp
  by_cases h : l.length < 7
  · rw [if_pos h]
    exact fstB_some.2 ⟨h, by rw [key _ h]; simp, fun j hj => by rw [key j (by omega)]; simp; omega⟩
  · rw [if_neg h]
    exact fstB_none.2 fun j hj => by rw [key j hj]; simp; omega
theorem newS_list {l : List En} (hm : ∀ e ∈ l, mayE e = true) (hl : l.length ≤ 7) : ∀ {k : Nat}, k ≤ 7 → (listS (newS l l.length) k).length = min k l.length
  | 0, _ => by simp [listS]
  | k + 1, h => by
    have ih := newS_list hm hl (k := k) (by omega)
    have he := newS_ent hm hl (j := k) (by omega) (Nat.le_refl l.length)
    by_cases hk : k < l.length
    · rw [if_pos hk, List.getElem?_eq_getElem hk] at he
      rw [listS_some he, List.length_append, ih]
      simp
      omega
    · rw [if_neg hk] at he
      rw [listS_none he, ih]
      omega
/-- 18.1: New. -/
def errB (l : List En) : Int := if 7 < l.length then 11 else if l.all mayE then (if dupE l l.length then 5 else 0) else 1
theorem errB_zero {l : List En} : errB l = 0 ↔ l.length ≤ 7 ∧ (∀ e ∈ l, mayE e = true) ∧ dupE l l.length = false := by
  unfold errB
  by_cases h : 7 < l.length
  · rw [if_pos h]
    simp
    omega
  · rw [if_neg h]
    by_cases h2 : l.all mayE = true
    · rw [if_pos h2]
      have h3 := List.all_eq_true.1 h2
      cases hd : dupE l l.length
      · simp
        exact ⟨by omega, h3⟩
      · simp
    · rw [if_neg h2]
      simp at h2
      simp
      intro _ h4
      obtain ⟨x, hx, h5⟩ := h2
      rw [h4 x hx] at h5
      cases h5

/-! 18.5: one more, and one less. -/
theorem newS_more (l : List En) (e : En) : ∀ {k : Nat}, k ≤ l.length → newS (l ++ [e]) k = newS l k
  | 0, _ => rfl
  | k + 1, h => by
    rw [newS_next (by simp; omega), newS_next (by omega), newS_more l e (by omega), List.getElem_append_left (by omega)]
theorem newS_snoc (l : List En) (e : En) : newS (l ++ [e]) (l ++ [e]).length = putS (newS l l.length) l.length (bytesE e) := by
  rw [List.length_append, List.length_singleton, newS_next (by simp), newS_more l e (Nat.le_refl _)]
  simp
theorem dupE_snoc {l : List En} {e : En} (h : dupE l l.length = false) (hn : inN e.name l l.length = false) : dupE (l ++ [e]) (l ++ [e]).length = false := by
  have key : ∀ k, k ≤ l.length → dupE (l ++ [e]) k = dupE l k := fun k => by
    induction k with
    | zero => intro _; rfl
    | succ k ih =>
      intro hk
      rw [dupE_next (by simp; omega), dupE_next (by omega), ih (by omega), List.getElem_append_left (by omega)]
      unfold inN
      rw [List.take_append_of_le_length (by omega)]
  rw [List.length_append, List.length_singleton, dupE_next (by simp), key _ (Nat.le_refl _), h]
  unfold inN at hn ⊢
  rw [List.take_append_of_le_length (Nat.le_refl _)]
  simpa using hn
section
variable {l : List En} (hm : ∀ e ∈ l, mayE e = true) (hl : l.length ≤ 7) (hd : dupE l l.length = false) {q : Nat} (hq : q < l.length)
include hm hl hq
theorem gone_ent {j : Nat} (hj : j < 7) : entS (putS (newS l l.length) q (zeros 32)) j = if j = q then none else if j < l.length then l[j]? else none := by
  unfold entS
  rw [rawS_put (newS_len hm hl (Nat.le_refl _)) (by omega) (zeros_len _)]
  split
  · exact readE_zeros
  · exact newS_ent hm hl hj (Nat.le_refl _)
include hd
theorem gone_find {j : Nat} (hj : j < l.length) : findS (putS (newS l l.length) q (zeros 32)) l[j].name = if j = q then none else some j := by
  have hno : ∀ i, i < 7 → i ≠ j → hasS (putS (newS l l.length) q (zeros 32)) l[j].name i = false := fun i hi hne => by
    cases h : hasS (putS (newS l l.length) q (zeros 32)) l[j].name i
    · rfl
    · obtain ⟨e, he, hs⟩ := hasS_iff.1 h
      rw [gone_ent hm hl hq hi] at he
      split at he
      · cases he
      · split at he
        · next h1 =>
          rw [List.getElem?_eq_getElem h1] at he
          injection he with he
          subst he
          rcases Nat.lt_or_gt_of_ne hne with h2 | h2
          · exact absurd hs (dupE_no (Nat.le_refl _) hd i j h1 hj h2 hj)
          · exact absurd hs.symm (dupE_no (Nat.le_refl _) hd j i hj h1 h2 h1)
        · cases he
  by_cases e : j = q
  · rw [if_pos e]
    refine fstB_none.2 fun i hi => ?_
    by_cases hij : i = j
    · exact hasS_no (by rw [gone_ent hm hl hq hi, if_pos (by omega)])
    · exact hno i hi hij
  · rw [if_neg e]
    refine fstB_some.2 ⟨by omega, hasS_iff.2 ⟨l[j], by rw [gone_ent hm hl hq (by omega), if_neg e, if_pos hj, List.getElem?_eq_getElem hj], rfl⟩, fun i hi => hno i (by omega) (by omega)⟩
theorem gone_right : rightS (putS (newS l l.length) q (zeros 32)) = true := by
  have hL := newS_len hm hl (Nat.le_refl l.length)
  refine right_of (putS_len hL (by omega) (zeros_len _)) (by rw [head_put hL (by omega) (zeros_len _), newS_head hm hl (Nat.le_refl _)]) fun j hj hk => ?_
  rw [rawS_put hL (by omega) (zeros_len _)]
  by_cases e : j = q
  · rw [if_pos e]
  · rw [if_neg e]
    by_cases h : j < l.length
    · have he := gone_ent hm hl hq hj
      rw [if_neg e, if_pos h, List.getElem?_eq_getElem h] at he
      rw [keptB_some he, gone_find hm hl hd hq h, if_neg e] at hk
      simp at hk
    · rw [newS_raw hm hl hj (Nat.le_refl _), dif_neg (by omega)]
end

end Go.Proofs.Ytmojappbgghpbaa
