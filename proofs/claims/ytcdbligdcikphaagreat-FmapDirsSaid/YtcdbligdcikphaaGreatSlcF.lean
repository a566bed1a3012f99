/-
  l[k:] and l[:k] of a slice of one-cell values, wherever it lies. Plain.
-/
import Derived.Test.YtcdbligdcikphaaGreatGrA
import Derived.Test.YtcdbligdcikphaaGreatGrC
namespace Go.Proofs.YtcdbligdcikphaaGreat
open Go.RowKit

theorem RC.takeI {w : World} {A : Option Addr} {l : List Int} (h : RC w A (ivals l)) (k : Nat) : RC w A (ivals (l.take k)) := fun j hj => by
  rw [ivals_len, List.length_take] at hj
  obtain ⟨ad, e, hc⟩ := h j (by rw [ivals_len]; omega)
  exact ⟨ad, e, by rw [hc]; simp [ivals]⟩
theorem RC.dropI {w : World} {ad : Addr} {l : List Int} (h : RC w (some ad) (ivals l)) (k : Nat) : RC w (some (ad.add k)) (ivals (l.drop k)) := fun j hj => by
  rw [ivals_len, List.length_drop] at hj
  obtain ⟨ad', e, hc⟩ := h (k + j) (by rw [ivals_len]; omega)
  injection e with e
  subst e
  exact ⟨_, rfl, by rw [add_of_add, hc]; simp [ivals]⟩
section
variable {P : Program} {ops : Array Oper} {rest : List Oper} {o : Oper} {a : Act} {w : World} {Q : Exit → Act → World → Prop}
/-- l[k:] of a slice of one-cell values, wherever it lies. -/
theorem wpList_slice_from (hgd : Region.wanted o (yielded ops a.tmps) = true) (t : TypeId) (x lo : Operand) (ho : o.op = .slice t x (some lo) none none) (e : TypeId) (hu : P.underlying t = some (.slice e)) (hs : (P.info? e).map (·.size) = some 1)
    (A : Option Addr) (n c : Nat) (hx : a.eval x = .slice A n c) (kl : IntKind) (L : Int) (hlo : a.eval lo = .int kl L) (l : Nat) (hL : L = l) (h1 : l ≤ n) (_h2 : n ≤ c)
    (k : wpList P ops Q rest (a.put o.dst (.slice (if c = l then A else A.map (·.add l)) (n - l) (c - l))) w) : wpList P ops Q (o :: rest) a w := by
  refine wpList_wanted hgd fun K hK => ?_
  subst hL
  have hel : P.elem t = e := by simp [Program.elem, hu]
  have hr : (Instr.slice t (.slice A n c) (some (.int kl (l : Int))) none none).run P w = .ok (.slice (if c = l then A else A.map (·.add l)) (n - l) (c - l)) w := by
    rw [run_slice_l w t _ _ _ (by rw [hel]; exact hu) kl l (by omega) (by omega), hel, sizeOf_of hs]
    simp only [Result.andThen, sliced, Int.toNat_natCast, Nat.mul_one]
  unfold Oper.wp execOp
  simp only [ho, hx, hlo, Sem.run_bind, Sem.run_pure, Result.andThen_ok, Option.map_some, Option.map_none, Instr.sliceAt, run_underlying hu, hr]
  exact hK _ _ k
/-- The same, where something lies behind: told outright. -/
theorem wpList_slice_off (hgd : Region.wanted o (yielded ops a.tmps) = true) (t : TypeId) (x lo : Operand) (ho : o.op = .slice t x (some lo) none none) (e : TypeId) (hu : P.underlying t = some (.slice e)) (hs : (P.info? e).map (·.size) = some 1)
    (ad : Addr) (n c : Nat) (hx : a.eval x = .slice (some ad) n c) (kl : IntKind) (L : Int) (hlo : a.eval lo = .int kl L) (l : Nat) (hL : L = l) (h1 : l < n) (h2 : n ≤ c) (n' c' : Nat) (hn : n = l + n') (hc : c = l + c')
    (k : wpList P ops Q rest (a.put o.dst (.slice (some (ad.add l)) n' c')) w) : wpList P ops Q (o :: rest) a w := by
  refine wpList_slice_from hgd t x lo ho e hu hs (some ad) n c hx kl L hlo l hL (by omega) h2 ?_
  rw [if_neg (by omega), show n - l = n' from by omega, show c - l = c' from by omega]
  exact k
/-- l[:k] of a slice of one-cell values, wherever it lies. -/
theorem wpList_slice_upto (hgd : Region.wanted o (yielded ops a.tmps) = true) (t : TypeId) (x hi : Operand) (ho : o.op = .slice t x none (some hi) none) (e : TypeId) (hu : P.underlying t = some (.slice e)) (hs : (P.info? e).map (·.size) = some 1)
    (ad : Addr) (n c : Nat) (hx : a.eval x = .slice (some ad) n c) (kh : IntKind) (H : Int) (hhi : a.eval hi = .int kh H) (h : Nat) (hH : H = h) (h1 : h ≤ c) (h2 : 0 < c)
    (k : wpList P ops Q rest (a.put o.dst (.slice (some ad) h c)) w) : wpList P ops Q (o :: rest) a w := by
  refine wpList_wanted hgd fun K hK => ?_
  subst hH
  have hel : P.elem t = e := by simp [Program.elem, hu]
  have hr : (Instr.slice t (.slice (some ad) n c) none (some (.int kh (h : Int))) none).run P w = .ok (.slice (some ad) h c) w := by
    rw [run_slice_h w t _ _ _ (by rw [hel]; exact hu) kh h (by omega) (by omega), hel, sizeOf_of hs]
    simp only [Result.andThen, sliced, Int.toNat_natCast, Nat.mul_one, Nat.sub_zero, Option.map_some]
    rw [if_neg (by omega), show ad.add 0 = ad from by cases ad; simp [Addr.add]]
  unfold Oper.wp execOp
  simp only [ho, hx, hhi, Sem.run_bind, Sem.run_pure, Result.andThen_ok, Option.map_some, Option.map_none, Instr.sliceAt, run_underlying hu, hr]
  exact hK _ _ k
end

end Go.Proofs.YtcdbligdcikphaaGreat
