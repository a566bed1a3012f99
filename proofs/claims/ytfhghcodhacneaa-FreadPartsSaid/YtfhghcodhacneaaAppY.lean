/-
  Bytes appended to bytes of the call's own, none too; % of two counts in a region gone through in order. Plain; no program is named here.
-/
import Derived.Test.YtfhghcodhacneaaAppM
import Derived.Test.YtfhghcodhacneaaAppB
namespace Go.Proofs.Ytfhghcodhacneaa
open Go.RowKit

def bvalsY (l : List UInt8) : List Value := l.map fun x => Value.int .u8 (x.toNat : Int)
theorem bvalsY_len (l : List UInt8) : (bvalsY l).length = l.length := by simp [bvalsY]
theorem OwnB.toC {w : World} {B : Nat} {e : TypeId} {v : Value} {l : List UInt8} (h : OwnB w B e v l) : OwnC w B e v (bvalsY l) := by
  unfold OwnC
  rw [bvalsY_len]
  exact h
theorem OwnC.toB {w : World} {B : Nat} {e : TypeId} {v : Value} {l : List UInt8} (h : OwnC w B e v (bvalsY l)) : OwnB w B e v l := by
  unfold OwnC at h
  rw [bvalsY_len] at h
  exact h
theorem RB.toC {w : World} {A : Option Addr} {l : List UInt8} (h : RB w A l) : RC w A (bvalsY l) := fun k hk => by
  have hk' : k < l.length := by rwa [bvalsY_len] at hk
  obtain ⟨ad, e, hc⟩ := h k hk'
  refine ⟨ad, e, ?_⟩
  rw [hc]
  simp [bvalsY]
/-- A literal without elements. -/
theorem OwnB.empty (w : World) (e : TypeId) : OwnB (w.alloc (.cells #[] e)) w.heap.size e (.slice (some ⟨w.heap.size, 0, none⟩) 0 0) [] :=
  ⟨rfl, Or.inr ⟨w.heap.size, 0, #[], rfl, Nat.le_refl _, heap_alloc_new w _, Nat.le_refl _, by unfold maxLen; omega, rfl, rfl⟩⟩
section
variable {P : Program} {ops : Array Oper} {rest : List Oper} {o : Oper} {a : Act} {w : World} {K : Act → World → Prop} {Q : Exit → Act → World → Prop}
theorem wpList_append_ownY (hgd : Region.wanted o (yielded ops a.tmps) = true) (s x : Operand) (t e : TypeId) (ho : o.op = .call { callee := .builtin .append, args := #[s, x], argTypes := #[t, t] })
    (ht : P.underlying t = some (.slice e)) (hi : (P.info? e).map (fun i => (i.zero, i.size, i.bytes)) = some (some (.int .u8 0), 1, 1))
    (B : Nat) (v : Value) (l : List UInt8) (hs : a.eval s = v) (hown : OwnB w B e v l) (hB : B ≤ w.heap.size) (A : Option Addr) (m c' : Nat) (l' : List UInt8) (hx : a.eval x = .slice A m c') (hm : l'.length = m) (hr' : RB w A l') (hlen : l.length + m ≤ 140737488355328)
    (h : Stop (∀ v' w', Hid (OwnB w' B e v' (l ++ l')) → Hid (Below B w w') → wpList P ops Q rest (a.put o.dst v') w')) : wpList P ops Q (o :: rest) a w := by
  obtain ⟨v', w', hrun, r1, r2⟩ := run_append_many P w t o.type e ht (.int .u8 0) 1 hi rfl B v (bvalsY l) hown.toC A m c' (bvalsY l') (by rw [bvalsY_len]; exact hm) hr'.toC (oneCell_bytes l') hB (by rw [bvalsY_len]; unfold maxLen; omega) (by rw [bvalsY_len]; omega)
  refine wpList_wanted hgd fun K hK => ?_
  unfold Oper.wp execOp
  simp only [ho, resolve, invoke, builtin, Sem.run_bind, Sem.run_pure, Result.andThen_ok, List.map_toArray, List.map_cons, List.map_nil, hs, hx, hrun]
  refine hK _ _ (h v' w' ?_ ((Below.refl _ _).grown r2 hB (fun k hk => (World.ownsRow.lt hown k hk).1)))
  refine OwnC.toB ?_
  have e1 : bvalsY l ++ bvalsY l' = bvalsY (l ++ l') := by unfold bvalsY; rw [List.map_append]
  rw [e1] at r1
  exact r1
theorem wpList_rem_nat (hgd : Region.wanted o (yielded ops a.tmps) = true) (t t' : TypeId) (x y : Operand) (ho : o.op = .binOp .rem t x y t') (i M : Nat) (hx : a.eval x = .int .i64 i) (hy : a.eval y = .int .i64 M) (hM : 0 < M) (hi : i < 9223372036854775808)
    (h : wpList P ops Q rest (a.put o.dst (.int .i64 ((i % M : Nat) : Int))) w) : wpList P ops Q (o :: rest) a w := by
  have m1 : (M : Int) ≠ 0 := by omega
  have i1 : Int.tmod (i : Int) (M : Int) = ((i % M : Nat) : Int) := by rw [Int.tmod_eq_emod_of_nonneg (by omega)]; rfl
  have i2 : IntKind.i64.wrap ((i % M : Nat) : Int) = ((i % M : Nat) : Int) := IntWalk.i64_in _ (by have := Nat.mod_le i M; omega)
  have he : (execOp a.eval o).run P w = .ok (.value (.int .i64 ((i % M : Nat) : Int))) w := by
    unfold execOp
    simp only [ho, hx, hy]
    go_simp
    omega
  refine wpList_wanted hgd fun K hK => ?_
  unfold Oper.wp
  rw [he]
  exact hK _ _ h
end

end Go.Proofs.Ytfhghcodhacneaa
