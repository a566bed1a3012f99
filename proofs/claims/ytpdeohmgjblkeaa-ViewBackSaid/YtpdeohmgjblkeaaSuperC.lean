/-
  A block that is written from the front: what comes behind is noughts.
-/
import Derived.Test.YtpdeohmgjblkeaaGrA
import Derived.Test.YtpdeohmgjblkeaaSuperB
namespace Go.Proofs.Ytpdeohmgjblkeaa
open Go.RowKit

theorem putL_zeros (v : Nat) : putL (zeros 8) 0 8 v = leBytes 8 v := by
  unfold putL
  rw [if_pos (by decide)]
  exact splice_all (zeros 8) (leBytes 8 v) (by rw [leBytes_len, zeros_len])
theorem magic_len : magic.length = 8 := rfl

/-! The program's way to a layout's block, step by step. -/
theorem put_step1 : layL (zeros 256) 0 magic = magic ++ zeros 248 := layL_zeros [] magic 0 256 rfl rfl (by rw [magic_len]; omega) (by omega)
theorem put_step2 (n : Nat) : nwithL (magic ++ zeros 248) 8 2 n = (magic ++ leBytes 2 n) ++ zeros 246 := by
  have h := nwithL_zeros magic 8 248 2 n rfl (by omega) (by omega) (by omega)
  rw [List.append_assoc]
  exact h
theorem put_step3 (n m : Nat) : nwithL ((magic ++ leBytes 2 n) ++ zeros 246) 10 2 m = ((magic ++ leBytes 2 n) ++ leBytes 2 m) ++ zeros 244 := by
  have h := nwithL_zeros (magic ++ leBytes 2 n) 10 246 2 m (by rw [List.length_append, leBytes_len, magic_len]) (by omega) (by omega) (by omega)
  rw [List.append_assoc (magic ++ leBytes 2 n)]
  exact h
theorem put_step4 (n m v : Nat) : layL (((magic ++ leBytes 2 n) ++ leBytes 2 m) ++ zeros 244) 12 (leBytes 8 v) = (((magic ++ leBytes 2 n) ++ leBytes 2 m) ++ leBytes 8 v) ++ zeros 236 := by
  have h := layL_zeros ((magic ++ leBytes 2 n) ++ leBytes 2 m) (leBytes 8 v) 12 244 (by rw [List.length_append, List.length_append, leBytes_len, leBytes_len, magic_len]) rfl (by rw [leBytes_len]; omega) (by omega)
  rw [leBytes_len] at h
  rw [List.append_assoc ((magic ++ leBytes 2 n) ++ leBytes 2 m)]
  exact h
theorem Lay14.head_eq (l : Lay14) : ((magic ++ leBytes 2 l.blocks.toNat) ++ leBytes 2 l.inodes.toNat) ++ leBytes 8 l.merge = l.head := by
  unfold Lay14.head
  rw [List.append_assoc, List.append_assoc]
theorem put_cut (l : Lay14) : ncutL (l.head ++ zeros 236) 0 20 = l.head := by
  unfold ncutL
  rw [if_pos (by decide)]
  exact List.take_left' l.head_len
theorem put_step5 (l : Lay14) : nwithL (l.head ++ zeros 236) 20 4 (fnvs start l.head) = l.put := by
  have h := nwithL_zeros l.head 20 236 4 (fnvs start l.head) l.head_len (by omega) (by omega) (by omega)
  exact h
/-- The document's way. -/
theorem put_doc (l : Lay14) : rlayL (zeros 256) 0 (l.head ++ leBytes 4 (fnvs start l.head)) = l.put := by
  unfold rlayL
  have hl : (l.head ++ leBytes 4 (fnvs start l.head)).length = 24 := by rw [List.length_append, leBytes_len, l.head_len]
  rw [if_pos (by simp), zeros_len, List.take_of_length_le (by rw [hl]; decide)]
  have h := splice_zeros [] (l.head ++ leBytes 4 (fnvs start l.head)) 0 256 rfl
  rw [hl] at h
  unfold Lay14.put
  rw [← List.append_assoc]
  exact h
theorem put_all (l : Lay14) : ∃ X1 X2 X3 X4 : List UInt8, layL (zeros 256) 0 magic = X1 ∧ nwithL X1 8 2 l.blocks.toNat = X2 ∧ nwithL X2 10 2 l.inodes.toNat = X3 ∧ layL X3 12 (leBytes 8 l.merge) = X4 ∧ ncutL X4 0 20 = l.head ∧ nwithL X4 20 4 (fnvs start l.head) = l.put ∧
    X1.length = 256 ∧ X2.length = 256 ∧ X3.length = 256 ∧ X4.length = 256 := by
  refine ⟨_, _, _, _, rfl, rfl, rfl, rfl, ?_, ?_, ?_, ?_, ?_, ?_⟩
  · rw [put_step1, put_step2, put_step3, put_step4, l.head_eq, put_cut]
  · rw [put_step1, put_step2, put_step3, put_step4, l.head_eq, put_step5]
  · exact layL_len _ _ _ (zeros_len _)
  · rw [nwithL_len]; exact layL_len _ _ _ (zeros_len _)
  · rw [nwithL_len, nwithL_len]; exact layL_len _ _ _ (zeros_len _)
  · exact layL_len _ _ _ (by rw [nwithL_len, nwithL_len]; exact layL_len _ _ _ (zeros_len _))
theorem hashN_bytes (l : List UInt8) : hashN ⟨l.toArray⟩ = fnvs start l := rfl

theorem getN_seen (b : List UInt8) (hb : b.length = 256) : getN b 8 2 4 = leVal ((b.drop 8).take 2) ∧ getN b 10 2 4 = leVal ((b.drop 10).take 2) ∧ getN b 12 8 8 = leVal ((b.drop 12).take 8) := by
  refine ⟨?_, ?_, ?_⟩ <;> unfold getN <;> rw [if_pos (by unfold fitsB; rw [hb]; decide)] <;> rfl

end Go.Proofs.Ytpdeohmgjblkeaa
