/-
  Texts of this claim joined: Ca8, Dsk5.
-/
import Derived.Test.YtpmbpklbiocclaaGreatCa7
import Derived.Test.YtpmbpklbiocclaaGreatGrAI

/-
  The program's: Put.
-/
namespace Go.Proofs.YtpmbpklbiocclaaGreat
open Go.RowKit

def CS.known (S : CS) (no : Int) : CS := if S.kn no then S else ({ S with dev := S.dev.read no } : CS).know no (S.dev.readB no)
def CS.knE (S : CS) (no : Int) : Int := if S.kn no then 0 else S.dev.readE no
theorem Dev.read_not {d : Dev} {no : Int} (h : d.readE no ≠ 0) : d.read no = d := by
  unfold Dev.readE at h
  unfold Dev.read
  by_cases h1 : d.off = true
  · rw [if_pos h1]
  · rw [if_neg h1] at h ⊢
    by_cases h2 : d.has no = true
    · rw [if_pos h2] at h; exact absurd rfl h
    · rw [if_neg h2]
theorem CS.known_kn (S : CS) (no : Int) : (S.known no).kn no = true := by
  unfold CS.known
  by_cases h : S.kn no = true
  · rw [if_pos h]; exact h
  · rw [if_neg h]; exact updF_same _ _ _
structure CA.like (A A' : CA) : Prop where
  ca : A'.ca = A.ca
  dv : A'.dv = A.dv
  dt : A'.dt = A.dt
  nb : A'.nb ≤ A.nb + 1
  nl : A'.nl ≤ A.nl + 1
def RetK2 (w : World) (ro : Nat → Option Rl) (A : CA) (S : CS) (no : Int) (e : Ending) (w' : World) : Prop :=
  (S.knE no ≠ 0 ∧ e = .returned (.tuple #[.pointer none, .int .i64 (S.knE no)]) ∧ HP w' ro A S ∧ Tr ro ro w w') ∨
  (S.knE no = 0 ∧ ∃ ro' A', e = .returned (.tuple #[ptr (A'.ka no), .int .i64 0]) ∧ HP w' ro' A' (S.known no) ∧ Tr ro ro' w w' ∧ A.like A' ∧ A'.nl = A.nl)
section
variable {w : World} {ro : Nat → Option Rl} {A : CA} {S : CS}
theorem known2_any (h : HP w ro A S) (no : Int) (hlo : -9223372036854775808 ≤ no) (hhi : no < 9223372036854775808) (hrd : S.dev.rd < 4611686018427387904) (hnb : A.nb < 1000000) :
    Calls Tryz.prog 43 #[ptr A.ca, .int .i64 no] w (RetK2 w ro A S no) := by
  refine (known_any h no hlo hhi hrd hnb).mono ?_
  rintro e w' (⟨hk, rfl, rfl⟩ | ⟨hk, hE, rfl, h2, t2⟩ | ⟨hk, hE, ro', g, hg, rfl, h2, t2⟩)
  · refine Or.inr ⟨if_pos hk, ro, A, rfl, ?_, Tr.refl _ _, ⟨rfl, rfl, rfl, by omega, by omega⟩, rfl⟩
    unfold CS.known
    rw [if_pos hk]
    exact h
  · have e1 : S.knE no = S.dev.readE no := if_neg (by rw [hk]; simp)
    rw [Dev.read_not hE] at h2
    exact Or.inl ⟨by rw [e1]; exact hE, by rw [e1], h2, t2⟩
  · refine Or.inr ⟨(if_neg (by rw [hk]; simp)).trans hE, ro', A.know no g, ?_, ?_, t2, ⟨rfl, rfl, rfl, Nat.le_refl _, by show A.nl ≤ _; omega⟩, rfl⟩
    · rw [show (A.know no g).ka no = g from updF_same _ _ _]
    · unfold CS.known
      rw [if_neg (by rw [hk]; simp)]
      exact h2
end
section
variable {P : Program} {ops : Array Oper} {rest : List Oper} {o : Oper} {a : Act} {w : World} {K : Act → World → Prop} {Q : Exit → Act → World → Prop}
theorem ow_box_row (t : TypeId) (x : Operand) (ho : o.op = .box t x) (cs : Array Value) (hx : a.eval x = .agg cs)
    (h : Stop (∀ w', Hid (Grew w w') → Hid (Blk w' w.heap.size t cs) → K (a.put o.dst (.pointer (some ⟨w.heap.size, 0, none⟩))) w')) : o.wp P a w K Q := by
  unfold Oper.wp execOp
  simp only [ho, hx, Sem.run_bind, run_box_row, Result.andThen_ok]
  exact h _ (Grew.alloc w _) (Blk.new w t cs)
theorem wpList_box_ptr (hgd : Region.wanted o (yielded ops a.tmps) = true) (t : TypeId) (x : Operand) (ho : o.op = .box t x) (v : Option Addr) (hx : a.eval x = .pointer v)
    (h : Stop (∀ w', Hid (Grew w w') → Hid (Blk w' w.heap.size t #[.pointer v]) → wpList P ops Q rest (a.put o.dst (.pointer (some ⟨w.heap.size, 0, none⟩))) w')) : wpList P ops Q (o :: rest) a w := by
  refine wpList_wanted hgd fun K hK => ?_
  have hr : (Instr.box t (.pointer v)).run P w = .ok (.pointer (some ⟨w.heap.size, 0, none⟩)) (w.alloc (.cells #[.pointer v] t)) := by
    simp [Instr.box, newVar, Value.cells]; rfl
  unfold Oper.wp execOp
  simp only [ho, hx, Sem.run_bind, hr, Result.andThen_ok]
  exact hK _ _ (h _ (Grew.alloc w _) (Blk.new w t _))
end
structure CS.Bd (S : CS) : Prop where
  ll : ∀ i, S.lf i = true → S.live i = true
  bl : ∀ i, S.live i = true → (S.beh i).length ≤ 100000 ∧ S.last + 1 ∉ S.beh i
  fl : ∀ k, S.kn k = true → (S.free k).length ≤ 100000 ∧ S.last + 1 ∉ S.free k
  lt : ∀ k, S.kn k = true → ∀ x ∈ S.lat k, -9223372036854775808 ≤ x ∧ x < 9223372036854775808
  dr : ∀ k, S.kn k = true → 0 ≤ S.dirty k ∧ S.dirty k < 1000000
  nw : S.live (S.last + 1) = false
  la : 0 ≤ S.last ∧ S.last < 1000000
theorem CS.Bd.known {S : CS} (h : S.Bd) (no : Int) : (S.known no).Bd := by
  unfold CS.known
  by_cases hk : S.kn no = true
  · rw [if_pos hk]; exact h
  · rw [if_neg hk]
    refine ⟨h.ll, h.bl, fun k q => ?_, fun k q => ?_, fun k q => ?_, h.nw, h.la⟩
    all_goals
      by_cases e : k = no
      · subst e
        simp only [CS.know, updF_same]
        first | exact ⟨by simp, by simp⟩ | (intro x hx; rw [List.eq_of_mem_replicate hx]; omega) | omega
      · simp only [CS.know, updF_other _ _ e] at q ⊢
        first | exact h.fl k q | exact h.lt k q | exact h.dr k q
def CS.made (S : CS) (no : Int) (p : Pt) (needs : List Int) : Cg := ⟨S.last + 1, no, p, stillL S.lf needs⟩
def CS.put (S : CS) (no : Int) (p : Pt) (needs : List Int) : CS :=
  (({ S with last := S.last + 1 } : CS).chg (S.last + 1) (S.made no p needs) 0).add no (S.last + 1) (S.ahead no (S.made no p needs)) p

end Go.Proofs.YtpmbpklbiocclaaGreat

/-
  Contracts of package disk: Fuse, Up, Down, Writes, Reads, Size.
-/
namespace Go.Proofs.YtpmbpklbiocclaaGreat
open Go.RowKit

theorem fuse_any (b g : Nat) (n : Int) (d : Dev) (w : World) (h : DV w b g d) (hn : n < 9223372036854775808) :
    Calls Tryz.prog 54 #[.pointer (some ⟨b, 0, none⟩), .int .i64 n] w fun e w' => e = .returned (.tuple #[]) ∧ Only w w' b ∧ DV w' b g (d.setFuse n) := by
  obtain ⟨fz, hb, hq⟩ := h.ds
  have H := Lib.hid h
  clear h
  obtain ⟨r, Hr⟩ : ∃ r, Hid (decide (0 ≤ n) = r) := ⟨_, Lib.hid rfl⟩
  have hr := Hr.out
  go_enter Tryz.func54, Tryz.ntmps54
  go_wp2_with (refine wpList_store_cell rfl _ _ _ rfl Tryz.boolSize _ _ rfl (.bool r) rfl rfl rfl _ _ hb (by rw [dcells_size]; omega) ?_)
  apply Stop.go; intro w1 Ho1 Hb1
  go_wp2_with (refine wpList_store_cell rfl _ _ _ rfl Tryz.intSize _ _ rfl (.int .i64 n) rfl rfl rfl _ _ Hb1.out (by rw [Array.size_setIfInBounds, dcells_size]; omega) ?_)
  apply Stop.go; intro w2 Ho2 Hb2
  go_wp2_with fail
  go_end0
  have ho := Ho1.out.trans Ho2.out
  have hd : decide (0 ≤ (if n < 0 then -1 else n)) = r := by
    rw [← Hr.out]
    by_cases h0 : n < 0
    · rw [if_pos h0, decide_eq_false (show ¬ 0 ≤ n by omega)]; rfl
    · rw [if_neg h0]
  refine ⟨rfl, ho, ⟨n, ?_, fun h0 => ?_⟩, H.out.bks, H.out.blk.only ho (Ne.symm H.out.ne), H.out.ne, H.out.len, ?_⟩
  · show Blk w2 b _ (dcells _ _ (decide (0 ≤ (if n < 0 then -1 else n))) _ _ _)
    rw [hd]
    exact Hb2.out
  · have h0' : 0 ≤ (if n < 0 then -1 else n) := h0
    show n = (if n < 0 then -1 else n)
    split <;> (try split at h0') <;> omega
  · show (if n < 0 then -1 else n) < _
    split <;> omega

theorem up_any (b g : Nat) (d : Dev) (w : World) (h : DV w b g d) :
    Calls Tryz.prog 13 #[.pointer (some ⟨b, 0, none⟩)] w fun e w' => e = .returned (.tuple #[]) ∧ Only w w' b ∧ DV w' b g d.up := by
  obtain ⟨fz, hb, hq⟩ := h.ds
  have H := Lib.hid h
  clear h
  go_enter Tryz.func13, Tryz.ntmps13
  go_wp2_with (refine wpList_store_cell rfl _ _ _ rfl Tryz.boolSize _ _ rfl (.bool false) rfl rfl rfl _ _ hb (by rw [dcells_size]; omega) ?_)
  apply Stop.go; intro w1 Ho1 Hb1
  go_wp2_with (refine wpList_store_cell rfl _ _ _ rfl Tryz.boolSize _ _ rfl (.bool false) rfl rfl rfl _ _ Hb1.out (by rw [Array.size_setIfInBounds, dcells_size]; omega) ?_)
  apply Stop.go; intro w2 Ho2 Hb2
  go_wp2_with fail
  go_end0
  have ho := Ho1.out.trans Ho2.out
  refine ⟨rfl, ho, ⟨fz, Hb2.out, fun h0 => ?_⟩, H.out.bks, H.out.blk.only ho (Ne.symm H.out.ne), H.out.ne, H.out.len, ?_⟩
  · exact absurd h0 (by show ¬ (0 : Int) ≤ -1; decide)
  · show (-1 : Int) < _
    decide

section
variable (b : Nat) (V : Value) (d : Dev) (w : World) (h : DS w 86 b V d)
include h
theorem writes_any : Calls Tryz.prog 18 #[.pointer (some ⟨b, 0, none⟩)] w fun e w' => e = .returned (.int .i64 d.wr) ∧ w' = w := by
  obtain ⟨fz, hb, hq⟩ := h
  have c1 := hb.cell 4
  simp only [dcells, List.getElem?_toArray, List.getElem?_cons_zero, List.getElem?_cons_succ] at c1
  go_enter Tryz.func18, Tryz.ntmps18
  go_wp2_with fail
  go_ret
  exact ⟨rfl, rfl⟩
end

end Go.Proofs.YtpmbpklbiocclaaGreat
