/-
  Texts of this claim joined: Cg1, Cg2, Cg3.
-/
import Derived.Test.YtknbjdldmednlaaGreatGrF
import Derived.Test.YtknbjdldmednlaaGreatGrA
import Derived.Deep.LoopGhost

/-
  Contracts of package ready: needsMayBe, Check. Laws on structs of five cells (changes).
-/
namespace Go.Proofs.YtknbjdldmednlaaGreat
open Go.RowKit

theorem Tryz.chgZero : (Tryz.prog.info? 83).map (·.zero) = some (some (.agg #[.int .i64 0, .int .i64 0, .int .i64 0, .slice none 0 0, .slice none 0 0])) := by kernel_rfl
theorem Tryz.chgSize : (Tryz.prog.info? 83).map (·.size) = some 5 := by kernel_rfl
theorem Tryz.chgInfo : (Tryz.prog.info? 83).map (fun i => (i.zero, i.size, i.bytes)) = some (some (.agg #[.int .i64 0, .int .i64 0, .int .i64 0, .slice none 0 0, .slice none 0 0]), 5, 72) := by kernel_rfl
theorem Tryz.rchgSize : (Tryz.prog.info? 81).map (·.size) = some 5 := by kernel_rfl
theorem Tryz.rchgInfo : (Tryz.prog.info? 81).map (fun i => (i.zero, i.size, i.bytes)) = some (some (.agg #[.int .i64 0, .int .i64 0, .int .i64 0, .slice none 0 0, .slice none 0 0]), 5, 72) := by kernel_rfl

/-- A change as a value: its two slices lie here. -/
structure CV (w : World) (c : Cg) (Ad : Option Addr) (nd cd : Nat) (An : Option Addr) (nn cn : Nat) : Prop where
  lo0 : -9223372036854775808 ≤ c.id
  hi0 : c.id < 9223372036854775808
  lo1 : -9223372036854775808 ≤ c.block
  hi1 : c.block < 9223372036854775808
  p : PV w c.p Ad nd cd
  len : c.needs.length = nn
  cap : nn ≤ cn
  max : cn ≤ maxLen
  read : RC w An (ivals c.needs)
  nb : ∀ z ∈ c.needs, -9223372036854775808 ≤ z ∧ z < 9223372036854775808
theorem CV.below {w w' : World} {c : Cg} {Ad : Option Addr} {nd cd : Nat} {An : Option Addr} {nn cn : Nat} (h : CV w c Ad nd cd An nn cn) (hb : Below w.heap.size w w') : CV w' c Ad nd cd An nn cn :=
  ⟨h.lo0, h.hi0, h.lo1, h.hi1, h.p.below hb, h.len, h.cap, h.max, h.read.below hb, h.nb⟩
theorem RCg.cv {w : World} {v0 v1 v2 v3 v4 : Value} {c : Cg} (h : RCg w v0 v1 v2 v3 v4 c) : ∃ Ad nd cd An nn cn, v0 = .int .i64 c.id ∧ v1 = .int .i64 c.block ∧ v2 = .int .i64 c.p.at_ ∧ v3 = .slice Ad nd cd ∧ v4 = .slice An nn cn ∧ CV w c Ad nd cd An nn cn := by
  obtain ⟨Ad, nd, cd, e2, e3, hp⟩ := h.p.pv
  obtain ⟨An, cn, e4, q1, q2, q3⟩ := h.needs
  exact ⟨Ad, nd, cd, An, _, cn, h.e0, h.e1, e2, e3, e4, h.lo0, h.hi0, h.lo1, h.hi1, hp, rfl, q1, q2, q3, h.nb⟩
theorem CV.rcg {w : World} {c : Cg} {Ad : Option Addr} {nd cd : Nat} {An : Option Addr} {nn cn : Nat} (h : CV w c Ad nd cd An nn cn) : RCg w (.int .i64 c.id) (.int .i64 c.block) (.int .i64 c.p.at_) (.slice Ad nd cd) (.slice An nn cn) c :=
  ⟨rfl, rfl, h.lo0, h.hi0, h.lo1, h.hi1, h.p.rp, ⟨An, cn, by rw [h.len], by rw [h.len]; exact h.cap, h.max, h.read⟩, h.nb⟩
theorem CV.rd {w : World} {c : Cg} {Ad : Option Addr} {nd cd : Nat} {An : Option Addr} {nn cn : Nat} (h : CV w c Ad nd cd An nn cn) : RdC.R w [.int .i64 c.id, .int .i64 c.block, .int .i64 c.p.at_, .slice Ad nd cd, .slice An nn cn] c :=
  ⟨_, _, _, _, _, rfl, h.rcg⟩

section
variable {P : Program} {ops : Array Oper} {rest : List Oper} {o : Oper} {a : Act} {w : World} {K : Act → World → Prop} {Q : Exit → Act → World → Prop}
/-- A struct of five cells is loaded. -/
theorem run_loadVar_five (P : Program) (w : World) (t : TypeId) (fs : Array Field) (hu : P.underlying t = some (.struct fs)) (hi : (P.info? t).map (·.size) = some 5) (ad : Addr) (v0 v1 v2 v3 v4 : Value) (h0 : w.cell? ad = some v0) (h1 : w.cell? (ad.add 1) = some v1) (h2 : w.cell? (ad.add 2) = some v2) (h3 : w.cell? (ad.add 3) = some v3) (h4 : w.cell? (ad.add 4) = some v4) : (loadVar t ad).run P w = .ok (.agg #[v0, v1, v2, v3, v4]) w := by
  have hl : (loadCells ad [v0, v1, v2, v3, v4].length).run P w = .ok [v0, v1, v2, v3, v4].toArray w := run_loadCells_list (P := P) w ad [v0, v1, v2, v3, v4] (fun j v hv => by
    match j, hv with
    | 0, hv => simp at hv; subst hv; exact h0
    | 1, hv => simp at hv; subst hv; exact h1
    | 2, hv => simp at hv; subst hv; exact h2
    | 3, hv => simp at hv; subst hv; exact h3
    | 4, hv => simp at hv; subst hv; exact h4)
  obtain ⟨i, hq, hs⟩ := Option.map_eq_some_iff.1 hi
  have hagg : (isAgg t).run P w = .ok true w := by
    unfold isAgg
    rw [Sem.run_bind, run_underlying hu w]
    simp
  simp only [List.length_cons, List.length_nil, Nat.zero_add, Nat.reduceAdd] at hl
  simp [loadVar, Sem.run_bind, hagg, sizeOf, typeInfo, hq, hs, hl]
theorem exec_load_five {o : Oper} (t : TypeId) (x : Operand) (ho : o.op = .load t x) (ad : Addr) (hx : a.eval x = .pointer (some ad)) (v0 v1 v2 v3 v4 : Value) (h0 : w.cell? ad = some v0) (h1 : w.cell? (ad.add 1) = some v1) (h2 : w.cell? (ad.add 2) = some v2) (h3 : w.cell? (ad.add 3) = some v3) (h4 : w.cell? (ad.add 4) = some v4)
    (fs : Array Field) (hu : P.underlying t = some (.struct fs)) (hi : (P.info? t).map (·.size) = some 5) : (execOp a.eval o).run P w = .ok (.value (.agg #[v0, v1, v2, v3, v4])) w := by
  unfold execOp
  simp only [ho, hx, Instr.loadAt, Instr.sureAddr, Sem.run_bind, Sem.run_pure, Result.andThen_ok, run_loadVar_five P w t fs hu hi ad v0 v1 v2 v3 v4 h0 h1 h2 h3 h4]
theorem wpList_load_five (hgd : Region.wanted o (yielded ops a.tmps) = true) (t : TypeId) (x : Operand) (ho : o.op = .load t x) (ad : Addr) (hx : a.eval x = .pointer (some ad)) (v0 v1 v2 v3 v4 : Value) (h0 : w.cell? ad = some v0) (h1 : w.cell? (ad.add 1) = some v1) (h2 : w.cell? (ad.add 2) = some v2) (h3 : w.cell? (ad.add 3) = some v3) (h4 : w.cell? (ad.add 4) = some v4)
    (fs : Array Field) (hu : P.underlying t = some (.struct fs)) (hi : (P.info? t).map (·.size) = some 5) (h : wpList P ops Q rest (a.put o.dst (.agg #[v0, v1, v2, v3, v4])) w) : wpList P ops Q (o :: rest) a w := by
  refine wpList_wanted hgd fun K hK => ?_
  unfold Oper.wp
  rw [exec_load_five t x ho ad hx v0 v1 v2 v3 v4 h0 h1 h2 h3 h4 fs hu hi]
  exact hK _ _ h
end
/-- A later cell of a struct, by the address that a field has. -/
theorem cell_fld {w : World} {ad : Addr} {i : Nat} {v u : Value} (h0 : w.cell? ad = some u) (h : w.cell? (ad.add i) = some v) : w.cell? ⟨ad.block, ad.off + i, none⟩ = some v := by
  rw [← h]
  have hs : ad.spot = none := World.cell?_spot h0
  have e : (⟨ad.block, ad.off + i, none⟩ : Addr) = ad.add i := by
    obtain ⟨b, o, s⟩ := ad
    simp at hs
    subst hs
    unfold Addr.add
    split <;> simp_all
  rw [e]

/-- The cell behind a later one. -/
theorem cell_fld1 {w : World} {ad : Addr} {i : Nat} {v u : Value} (h0 : w.cell? ad = some u) (h : w.cell? (ad.add (i + 1)) = some v) : w.cell? ((⟨ad.block, ad.off + i, none⟩ : Addr).add 1) = some v := by
  have e : ((⟨ad.block, ad.off + i, none⟩ : Addr).add 1) = ⟨ad.block, ad.off + (i + 1), none⟩ := rfl
  rw [e]
  exact cell_fld h0 h
/-- The cells of a block that is such a struct. -/
theorem Blk.five {w : World} {g : Nat} {t : TypeId} {v0 v1 v2 v3 v4 : Value} (h : Blk w g t #[v0, v1, v2, v3, v4]) :
    w.cell? ⟨g, 0, none⟩ = some v0 ∧ w.cell? ⟨g, 1, none⟩ = some v1 ∧ w.cell? ⟨g, 2, none⟩ = some v2 ∧ w.cell? ⟨g, 3, none⟩ = some v3 ∧ w.cell? ⟨g, 4, none⟩ = some v4 ∧ w.cell? ((⟨g, 2, none⟩ : Addr).add 1) = some v3 :=
  ⟨h.cell 0, h.cell 1, h.cell 2, h.cell 3, h.cell 4, h.cell 3⟩
/-- A result that is a slice of numbers. -/
def RetI (w : World) (l : List Int) (e : Ending) (w' : World) : Prop := ∃ A n c, e = .returned (.slice A n c) ∧ l.length = n ∧ n ≤ c ∧ c ≤ maxLen ∧ RC w' A (ivals l) ∧ Below w.heap.size w w'
/-- A result that is a slice of changes. -/
def RetC (w : World) (l : List Cg) (e : Ending) (w' : World) : Prop := ∃ A n c, e = .returned (.slice A n c) ∧ l.length = n ∧ n ≤ c ∧ c ≤ maxLen ∧ RdL RdC w' A 5 l ∧ Below w.heap.size w w'
/-- The change at a place: its cells, and its slices. -/
theorem RdL.cg {w : World} {A : Option Addr} {l : List Cg} (h : RdL RdC w A 5 l) {k : Nat} (hk : k < l.length) :
    ∃ ad Ad nd cd An nn cn, A = some ad ∧ CV w l[k] Ad nd cd An nn cn ∧ w.cell? (ad.add (k * 5)) = some (.int .i64 l[k].id) ∧ w.cell? ((ad.add (k * 5)).add 1) = some (.int .i64 l[k].block) ∧ w.cell? ((ad.add (k * 5)).add 2) = some (.int .i64 l[k].p.at_) ∧ w.cell? ((ad.add (k * 5)).add 3) = some (.slice Ad nd cd) ∧ w.cell? ((ad.add (k * 5)).add 4) = some (.slice An nn cn) := by
  obtain ⟨ad, v0, v1, v2, v3, v4, e, hr, h0, h1, h2, h3, h4⟩ := h.change hk
  obtain ⟨Ad, nd, cd, An, nn, cn, rfl, rfl, rfl, rfl, rfl, hcv⟩ := hr.cv
  exact ⟨ad, Ad, nd, cd, An, nn, cn, e, hcv, h0, h1, h2, h3, h4⟩

/-- What is behind which one must stand: 0, or the one ahead. -/
def lastN (l : List Int) (k : Nat) : Int := if k = 0 then 0 else l.getD (k - 1) 0
theorem lastN_zero (l : List Int) : lastN l 0 = 0 := rfl
theorem lastN_succ (l : List Int) (k : Nat) (h : k < l.length) : lastN l (k + 1) = l[k] := by
  unfold lastN
  rw [if_neg (by omega)]
  simp [List.getD, h]
theorem riseN_iff0 {e : Int} {l : List Int} : riseN e 0 l = true ↔ ∀ i (h : i < l.length), l[i] < e ∧ lastN l i < l[i] := by
  rw [riseN_iff]
  constructor
  · intro h i hi
    obtain ⟨h1, h2⟩ := h i hi
    refine ⟨h1, ?_⟩
    unfold lastN
    split
    · rename_i h0; rw [if_pos h0] at h2; exact h2
    · rename_i h0; rw [if_neg h0] at h2; simpa [List.getD, show i - 1 < l.length by omega] using h2
  · intro h i hi
    obtain ⟨h1, h2⟩ := h i hi
    refine ⟨h1, ?_⟩
    unfold lastN at h2
    split
    · rename_i h0; rw [if_pos h0] at h2; exact h2
    · rename_i h0; rw [if_neg h0] at h2; simpa [List.getD, show i - 1 < l.length by omega] using h2

end Go.Proofs.YtknbjdldmednlaaGreat

/-
  The contract of package ready's Check.
-/
namespace Go.Proofs.YtknbjdldmednlaaGreat
open Go.RowKit

/-- Of a list the ID of the one ahead, or 0. -/
def lastI (l : List Cg) (k : Nat) : Int := lastN (l.map (·.id)) k
theorem lastI_succ (l : List Cg) (k : Nat) (h : k < l.length) : lastI l (k + 1) = l[k].id := by
  unfold lastI
  rw [lastN_succ _ _ (by simpa using h)]
  simp
theorem mayC_iff0 {l : List Cg} : mayC l = true ↔ ∀ i (h : i < l.length), l[i].may (lastI l i) = true := by
  unfold mayC
  rw [mayN_iff]
  have key : ∀ i (h : i < l.length), (if i = 0 then 0 < l[i].id else l[i - 1].id < l[i].id) ↔ lastI l i < l[i].id := fun i h => by
    unfold lastI lastN
    by_cases h0 : i = 0
    · rw [if_pos h0, if_pos h0]
    · rw [if_neg h0, if_neg h0]
      simp [List.getD, show i - 1 < l.length by omega]
  constructor
  · intro h i hi
    obtain ⟨h1, h2⟩ := h i hi
    exact Cg.may_iff.2 ⟨(key i hi).1 h1, h2⟩
  · intro h i hi
    obtain ⟨h1, h2⟩ := Cg.may_iff.1 (h i hi)
    exact ⟨(key i hi).2 h1, h2⟩

end Go.Proofs.YtknbjdldmednlaaGreat

/-
  Contracts of package ready's place (a search among changes whose IDs rise).
-/
namespace Go.Proofs.YtknbjdldmednlaaGreat
open Go.RowKit


end Go.Proofs.YtknbjdldmednlaaGreat
