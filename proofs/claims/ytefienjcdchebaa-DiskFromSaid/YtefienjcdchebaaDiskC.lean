/-
  What a call leaves that changes two blocks alone; the cells of a device. Plain; no program is named here.
-/
import Derived.Test.YtefienjcdchebaaDiskB
namespace Go.Proofs.Ytefienjcdchebaa
open Go.RowKit

/-- Of the blocks that were there only these two have changed. -/
structure Turn (w w' : World) (b g : Nat) : Prop where
  os : w'.os = w.os
  tape : w'.tape = w.tape
  output : w'.output = w.output
  size : w.heap.size ≤ w'.heap.size
  block : ∀ k, k < w.heap.size → k ≠ b → k ≠ g → w'.heap[k]? = w.heap[k]?

section
variable {w w' w'' : World} {b g : Nat}
theorem Turn.refl (w : World) (b g : Nat) : Turn w w b g := ⟨rfl, rfl, rfl, Nat.le_refl _, fun _ _ _ _ => rfl⟩
theorem Turn.of_below (h : Below w.heap.size w w') (b g : Nat) : Turn w w' b g := ⟨h.os, h.tape, h.output, h.size, fun k hk _ _ => h.block k hk⟩
theorem Turn.of_only (h : Only w w' b) (g : Nat) : Turn w w' b g := ⟨h.os, h.tape, h.output, Nat.le_of_eq h.size.symm, fun k _ hb _ => h.block k hb⟩
theorem Turn.of_only2 (h : Only w w' g) (b : Nat) : Turn w w' b g := ⟨h.os, h.tape, h.output, Nat.le_of_eq h.size.symm, fun k _ _ hg => h.block k hg⟩
theorem Turn.trans (h : Turn w w' b g) (k : Turn w' w'' b g) : Turn w w'' b g :=
  ⟨k.os.trans h.os, k.tape.trans h.tape, k.output.trans h.output, Nat.le_trans h.size k.size, fun i hi h1 h2 => (k.block i (Nat.lt_of_lt_of_le hi h.size) h1 h2).trans (h.block i hi h1 h2)⟩
/-- A block that is new may change. -/
theorem Turn.new (h : Turn w w' b g) {x : Nat} (k : Only w' w'' x) (hx : w.heap.size ≤ x) : Turn w w'' b g :=
  ⟨k.os.trans h.os, k.tape.trans h.tape, k.output.trans h.output, by rw [k.size]; exact h.size, fun i hi h1 h2 => (k.block i (by omega)).trans (h.block i hi h1 h2)⟩
theorem Turn.bel (h : Turn w w' b g) (k : Below w'.heap.size w' w'') : Turn w w'' b g := h.trans (Turn.of_below k b g)
theorem Turn.one (h : Turn w w' b b) (g : Nat) : Turn w w' b g := ⟨h.os, h.tape, h.output, h.size, fun k hk h1 _ => h.block k hk h1 h1⟩
theorem Turn.low {B : Nat} (h : Turn w w' b g) (h0 : B ≤ w.heap.size) (h1 : B ≤ b) (h2 : B ≤ g) : Below B w w' := ⟨h.os, h.tape, h.output, h.size, fun k hk => h.block k (by omega) (by omega) (by omega)⟩
theorem Turn.drew (w : World) (n b g : Nat) : Turn w (w.drewN n) b g := Turn.of_below (bdrew w n) b g
theorem Blk.turn {k : Nat} {t : TypeId} {cs : Array Value} (hb : Blk w k t cs) (h : Turn w w' b g) (h1 : k ≠ b) (h2 : k ≠ g) : Blk w' k t cs := (h.block k hb.lt h1 h2).trans hb
theorem Turn.cell (h : Turn w w' b g) {p : Addr} {v : Value} (hc : w.cell? p = some v) (h1 : p.block ≠ b) (h2 : p.block ≠ g) : w'.cell? p = some v := by
  have hb := h.block p.block (block_lt_of_cell hc) h1 h2
  rw [← hc]
  unfold World.cell?
  rw [hb]
theorem RK.turn {A : Addr} {L : List (List UInt8)} (hr : RK w (some A) L) (h : Turn w w' b g) (h1 : A.block ≠ b) (h2 : A.block ≠ g) : RK w' (some A) L := fun k hk i hi => by
  obtain ⟨ad, x, e, hx, hc⟩ := hr k hk i hi
  injection e with e
  subst e
  exact ⟨_, x, rfl, hx, h.cell hc (by rw [block_of_add]; exact h1) (by rw [block_of_add]; exact h2)⟩
theorem Turn.keeps (h : Turn w w' b g) {S : World → Prop} (_ : S w) (k : ∀ w', Turn w w' b g → S w') : S w' := k w' h
end

/-- The cells of a device: its blocks, is the power off, is there a fuse, the fuse, how many writes, how many reads. -/
def dcells (V : Value) (off fu : Bool) (fz wr rd : Int) : Array Value := #[V, .bool off, .bool fu, .int .i64 fz, .int .i64 wr, .int .i64 rd]
/-- One more is counted, if it answered OK. -/
def ticked (r : Int) (k : Nat) (c : Int) (cs : Array Value) : Array Value := if r = 0 then cs.setIfInBounds k (.int .i64 (c + 1)) else cs
/-- A device's struct lies in block b. -/
def DS (w : World) (T : TypeId) (b : Nat) (V : Value) (d : Dev) : Prop := ∃ fz : Int, Blk w b T (dcells V d.off (decide (0 ≤ d.fuse)) fz d.wr d.rd) ∧ (0 ≤ d.fuse → fz = d.fuse)
theorem DS.turn {w w' : World} {T : TypeId} {b x y : Nat} {V : Value} {d : Dev} (h : DS w T b V d) (k : Turn w w' x y) (h1 : b ≠ x) (h2 : b ≠ y) : DS w' T b V d := by
  obtain ⟨fz, hb, hf⟩ := h
  exact ⟨fz, hb.turn k h1 h2, hf⟩
theorem DS.ext {w w' : World} {T : TypeId} {b : Nat} {V : Value} {d : Dev} (h : DS w T b V d) (k : Below w.heap.size w w') : DS w' T b V d := by
  obtain ⟨fz, hb, hf⟩ := h
  exact ⟨fz, hb.ext k, hf⟩

end Go.Proofs.Ytefienjcdchebaa
