/-
  A layout as a block of 256 bytes, and back: one byte that is another one is enough that it is none. Plain; no program is named here.
-/
import Derived.Test.YtpdeohmgjblkeaaSuperA
import Derived.Test.YtpdeohmgjblkeaaGrA
import Derived.Test.YtpdeohmgjblkeaaLayV
namespace Go.Proofs.Ytpdeohmgjblkeaa

/-- The text escheat1, as bytes. -/
def magic : List UInt8 := [101, 115, 99, 104, 101, 97, 116, 49]
/-- The first 20 bytes. -/
def Lay14.head (l : Lay14) : List UInt8 := magic ++ (leBytes 2 l.blocks.toNat ++ (leBytes 2 l.inodes.toNat ++ leBytes 8 l.merge))
theorem Lay14.head_len (l : Lay14) : l.head.length = 20 := by
  unfold Lay14.head
  simp only [List.length_append, leBytes_len]
  rfl
/-- The whole block. -/
def Lay14.put (l : Lay14) : List UInt8 := l.head ++ (leBytes 4 (fnvs start l.head) ++ zeros 232)
theorem Lay14.put_len (l : Lay14) : l.put.length = 256 := by
  unfold Lay14.put
  simp only [List.length_append, leBytes_len, zeros_len, l.head_len]
theorem Lay14.put_head (l : Lay14) : l.put.take 20 = l.head := by
  unfold Lay14.put
  rw [List.take_append_of_le_length (by rw [l.head_len]; exact Nat.le_refl _), List.take_of_length_le (by rw [l.head_len]; exact Nat.le_refl _)]
theorem Lay14.put_hash (l : Lay14) : (l.put.drop 20).take 4 = leBytes 4 (fnvs start l.head) := by
  unfold Lay14.put
  rw [List.drop_left' l.head_len, List.take_left' (leBytes_len _ _)]
/-- What a block's bytes tell. -/
def seen14 (b : List UInt8) : Lay14 := ⟨(leVal ((b.drop 8).take 2) : Nat), (leVal ((b.drop 10).take 2) : Nat), leVal ((b.drop 12).take 8)⟩
theorem Lay14.seen_head {l : Lay14} (h : l.may = true) (hm : l.merge < 18446744073709551616) (r : List UInt8) : seen14 (l.head ++ r) = l := by
  have hh := Lay14.may_iff.1 h
  have e1 : ((l.head ++ r).drop 8).take 2 = leBytes 2 l.blocks.toNat := by
    unfold Lay14.head
    rw [List.append_assoc, List.drop_left' (by rfl), List.append_assoc, List.take_left' (leBytes_len _ _)]
  have e2 : ((l.head ++ r).drop 10).take 2 = leBytes 2 l.inodes.toNat := by
    unfold Lay14.head
    rw [List.append_assoc, List.append_assoc, ← List.append_assoc, List.drop_left' (by rw [List.length_append, leBytes_len]; rfl), List.append_assoc, List.take_left' (leBytes_len _ _)]
  have e3 : ((l.head ++ r).drop 12).take 8 = leBytes 8 l.merge := by
    unfold Lay14.head
    rw [List.append_assoc, List.append_assoc, List.append_assoc, ← List.append_assoc, ← List.append_assoc, List.drop_left' (by rw [List.length_append, List.length_append, leBytes_len, leBytes_len]; rfl), List.take_left' (leBytes_len _ _)]
  unfold seen14
  rw [e1, e2, e3, leVal_leBytes _ _ (by omega), leVal_leBytes _ _ (by omega), leVal_leBytes _ _ hm]
  obtain ⟨b, i, m⟩ := l
  simp only [Lay14.mk.injEq, and_true] at hh ⊢
  omega
theorem Lay14.seen_put {l : Lay14} (h : l.may = true) (hm : l.merge < 18446744073709551616) : seen14 l.put = l := Lay14.seen_head h hm _
/-- The layout that may be of which a block is Put. -/
def get14 (b : List UInt8) : Option Lay14 := if (seen14 b).may = true ∧ (seen14 b).put = b then some (seen14 b) else none
/-- 14.3: got again. -/
theorem get_put14 {l : Lay14} (h : l.may = true) (hm : l.merge < 18446744073709551616) : get14 l.put = some l := by
  unfold get14
  rw [Lay14.seen_put h hm, if_pos ⟨h, rfl⟩]
theorem get_some14 {b : List UInt8} {l : Lay14} (h : get14 b = some l) : l.may = true ∧ l.put = b := by
  unfold get14 at h
  split at h
  · injection h with h
    subst h
    assumption
  · cases h
/-- 14.3: two that may be have the same block just if they are the same. -/
theorem put_inj14 {l m : Lay14} (hl : l.may = true) (hlm : l.merge < 18446744073709551616) (hm : m.may = true) (hmm : m.merge < 18446744073709551616) (h : l.put = m.put) : l = m := by
  rw [← Lay14.seen_put hl hlm, h, Lay14.seen_put hm hmm]
theorem fnvs_start_lt (l : List UInt8) : fnvs start l < 4294967296 := fnvs_lt _ _ start_lt
theorem seen_merge (b : List UInt8) : (seen14 b).merge < 18446744073709551616 := leVal_lt8 _ (by rw [List.length_take]; omega)
/-- 14.3: a block in which just one byte is another one is none. -/
theorem one_byte14 {l : Lay14} (h : l.may = true) (hlm : l.merge < 18446744073709551616) {k : Nat} (hk : k < 256) {x : UInt8} (hx : l.put.set k x ≠ l.put) : get14 (l.put.set k x) = none := by
  cases hg : get14 (l.put.set k x) with
  | none => rfl
  | some m =>
    exfalso
    have hmm : m.merge < 18446744073709551616 := by
      unfold get14 at hg
      split at hg
      · injection hg with hg
        rw [← hg]
        exact seen_merge _
      · cases hg
    obtain ⟨h1, h2⟩ := get_some14 hg
    by_cases hk2 : k < 20
    · have e1 : m.head = l.head.set k x := by rw [← m.put_head, h2, List.take_set, l.put_head]
      have e2 : leBytes 4 (fnvs start m.head) = leBytes 4 (fnvs start l.head) := by
        rw [← m.put_hash, h2, ← l.put_hash, List.drop_set_of_lt hk2]
      have e3 : fnvs start m.head = fnvs start l.head := by
        rw [← leVal_leBytes 4 (fnvs start m.head) (fnvs_start_lt _), e2, leVal_leBytes 4 _ (fnvs_start_lt _)]
      have hkl : k < l.head.length := by rw [l.head_len]; exact hk2
      have hne : l.head[k] ≠ x := fun e => hx (by
        have e5 : l.put[k]? = some x := by
          have e6 : (l.put.take 20)[k]? = some x := by rw [l.put_head, List.getElem?_eq_getElem hkl, e]
          rwa [List.getElem?_take_of_lt hk2] at e6
        obtain ⟨hlt, e7⟩ := List.getElem?_eq_some_iff.1 e5
        rw [← e7]
        exact List.set_getElem_self hlt)
      rw [e1] at e3
      exact fnvs_set start_lt l.head k hkl x hne e3
    · have e1 : m.head = l.head := by rw [← m.put_head, h2, List.take_set_of_le (by omega), l.put_head]
      have e2 : m = l := by
        rw [← Lay14.seen_head h1 hmm [], e1, Lay14.seen_head h hlm []]
      rw [e2] at h2
      exact hx h2.symm

end Go.Proofs.Ytpdeohmgjblkeaa
