/-
  The hash of bytes: one byte that is another one makes another hash (the factor is odd, so each step can be undone). Plain; no program is named here.
-/
import Derived.Test.YtpdeohmgjblkeaaMixA
namespace Go.Proofs.Ytpdeohmgjblkeaa

theorem odd_inj {M p q k u v : Nat} (hpq : p * q = M * k + 1) (hu : u < M) (hv : v < M) (h : u * p % M = v * p % M) : u = v := by
  have key : ∀ x, x < M → (x * p % M) * q % M = x := fun x hx => by
    rw [Nat.mod_mul_mod, Nat.mul_assoc, hpq, Nat.mul_add, Nat.mul_one, Nat.mul_left_comm, Nat.mul_add_mod, Nat.mod_eq_of_lt hx]
  rw [← key u hu, h, key v hv]
theorem factor_inv : 16777619 * 899433627 = 4294967296 * 3513497 + 1 := by decide
theorem xor_back (a x : Nat) : (a ^^^ x) ^^^ x = a := by rw [Nat.xor_assoc, Nat.xor_self, Nat.xor_zero]
theorem xor_lt32 {a : Nat} (h : a < 4294967296) (b : UInt8) : a ^^^ b.toNat < 4294967296 :=
  Nat.xor_lt_two_pow (n := 32) h (Nat.lt_trans b.toNat_lt (by decide))
/-- Of two hashes that a byte is added to. -/
theorem fnv_inj {a b : Nat} {x : UInt8} (ha : a < 4294967296) (hb : b < 4294967296) (h : fnv a x = fnv b x) : a = b := by
  unfold fnv at h
  have h1 := odd_inj factor_inv (xor_lt32 ha x) (xor_lt32 hb x) h
  rw [← xor_back a x.toNat, h1, xor_back]
/-- Of two bytes that are added to a hash. -/
theorem fnv_byte {a : Nat} {x y : UInt8} (ha : a < 4294967296) (h : fnv a x = fnv a y) : x = y := by
  unfold fnv at h
  have h1 := odd_inj factor_inv (xor_lt32 ha x) (xor_lt32 ha y) h
  have h2 : x.toNat = y.toNat := by
    rw [← xor_back x.toNat a, Nat.xor_comm x.toNat a, h1, Nat.xor_comm a y.toNat, xor_back]
  exact UInt8.toNat_inj.1 h2
theorem fnvs_inj {l : List UInt8} : ∀ {a b : Nat}, a < 4294967296 → b < 4294967296 → fnvs a l = fnvs b l → a = b := by
  induction l with
  | nil => intro a b _ _ h; exact h
  | cons c l ih => intro a b ha hb h; exact fnv_inj ha hb (ih (fnv_lt _ _) (fnv_lt _ _) h)
/-- One byte is another one: so is the hash. -/
theorem fnvs_set {h : Nat} (hh : h < 4294967296) (l : List UInt8) (k : Nat) (hk : k < l.length) (x : UInt8) (hx : l[k] ≠ x) : fnvs h (l.set k x) ≠ fnvs h l := fun e => by
  have e1 : l = l.take k ++ l[k] :: l.drop (k + 1) := by rw [List.getElem_cons_drop, List.take_append_drop]
  have e2 : l.set k x = l.take k ++ x :: l.drop (k + 1) := by rw [List.set_eq_take_append_cons_drop, if_pos hk]
  rw [e2] at e
  have e3 : fnvs h l = fnvs h (l.take k ++ l[k] :: l.drop (k + 1)) := congrArg _ e1
  rw [e3, fnvs_append, fnvs_append] at e
  have h1 := fnvs_lt h (l.take k) hh
  have e4 : fnvs (fnv (fnvs h (l.take k)) x) (l.drop (k + 1)) = fnvs (fnv (fnvs h (l.take k)) l[k]) (l.drop (k + 1)) := e
  exact hx (fnv_byte h1 (fnvs_inj (fnv_lt _ _) (fnv_lt _ _) e4)).symm

end Go.Proofs.Ytpdeohmgjblkeaa
