/-
  What holds between the device and the document's; a script's steps as cells.
-/
import Derived.Test.YtefienjcdchebaaLaw08w
namespace Go.Proofs.Ytefienjcdchebaa
open Go.RowKit

theorem Try.stepZero : (Try.prog.info? 31).map (·.zero) = some (some (.agg #[.int .i64 0, .int .i64 0, .int .u8 0])) := by kernel_rfl
theorem step_one (s : St3) : (#[.int .i64 s.do_, .int .i64 s.no, .int .u8 (s.b.toNat : Int)] : Array Value).all (·.oneCell') = true := by simp [Value.oneCell']
theorem R3L.cells {w : World} {ad : Addr} {l : List St3} (h : R3L w (some ad) l) {k : Nat} (hk : k < l.length) : ∀ j v, ([.int .i64 l[k].do_, .int .i64 l[k].no, .int .u8 (l[k].b.toNat : Int)] : List Value)[j]? = some v → w.cell? ((ad.add (k * 3)).add j) = some v := by
  obtain ⟨ad', v0, v1, v2, e, h0, h1, h2, hp⟩ := h k hk
  injection e with e
  subst e
  intro j v hv
  rw [add_of_add]
  match j, hv with
  | 0, hv => simp at hv; subst hv; rw [Nat.add_zero, h0, hp.e0]
  | 1, hv => simp at hv; subst hv; rw [h1, hp.e1]
  | 2, hv => simp at hv; subst hv; rw [h2, hp.e2]
theorem R3L.addr {w : World} {A : Option Addr} {l : List St3} (h : R3L w A l) {k : Nat} (hk : k < l.length) : ∃ ad, A = some ad := by
  obtain ⟨ad, _, _, _, e, _⟩ := h k hk
  exact ⟨ad, e⟩
theorem R3L.bounds {w : World} {A : Option Addr} {l : List St3} (h : R3L w A l) {k : Nat} (hk : k < l.length) : l[k].no < 9223372036854775808 := by
  obtain ⟨_, _, _, _, _, _, _, _, hp⟩ := h k hk
  exact hp.hi1

/-- What holds between the device and the document's, as the steps go by. -/
structure Both (w : World) (B b g q : Nat) (x : Doc) (ad : Addr) (c : Nat) (N k : Nat) : Prop where
  dv : DV w b g x.dev
  cells : Blk w q 28 (x.cells ad c)
  rb : RB w (some ad) x.l
  len : x.l.length = N
  cap : N ≤ c ∧ c ≤ maxLen
  blk : ad.block ≠ b ∧ ad.block ≠ g ∧ ad.block ≠ q ∧ ad.block < w.heap.size
  cnt : x.wr ≤ k ∧ x.rd ≤ k
  ne : q ≠ b ∧ q ≠ g
  low : B ≤ b ∧ B ≤ g ∧ B ≤ q
theorem RB.turn {w w' : World} {b g : Nat} {A : Addr} {L : List UInt8} (hr : RB w (some A) L) (h : Turn w w' b g) (h1 : A.block ≠ b) (h2 : A.block ≠ g) : RB w' (some A) L := fun k hk => by
  obtain ⟨ad, e, hc⟩ := hr k hk
  injection e with e
  subst e
  exact ⟨_, rfl, h.cell hc (by rw [block_of_add]; exact h1) (by rw [block_of_add]; exact h2)⟩
theorem Both.ext {w w' : World} {B b g q : Nat} {x : Doc} {ad : Addr} {c N k : Nat} (h : Both w B b g q x ad c N k) (e : Below w.heap.size w w') : Both w' B b g q x ad c N k :=
  ⟨h.dv.ext e, h.cells.ext e, h.rb.below e, h.len, h.cap, ⟨h.blk.1, h.blk.2.1, h.blk.2.2.1, Nat.lt_of_lt_of_le h.blk.2.2.2 e.size⟩, h.cnt, h.ne, h.low⟩
theorem Both.other {w w' : World} {B b g q z : Nat} {x : Doc} {ad : Addr} {c N k : Nat} (h : Both w B b g q x ad c N k) (e : Only w w' z) (h1 : z ≠ b) (h2 : z ≠ g) (h3 : z ≠ q) (h4 : z ≠ ad.block) : Both w' B b g q x ad c N k :=
  have t := Turn.of_only e z
  ⟨h.dv.turn t (Ne.symm h1) (Ne.symm h1) (Ne.symm h2) (Ne.symm h2), h.cells.only e (Ne.symm h3), h.rb.turn t (Ne.symm h4) (Ne.symm h4), h.len, h.cap, ⟨h.blk.1, h.blk.2.1, h.blk.2.2.1, by rw [e.size]; exact h.blk.2.2.2⟩, h.cnt, h.ne, h.low⟩
theorem Both.more {w : World} {B b g q : Nat} {x : Doc} {ad : Addr} {c N k : Nat} (h : Both w B b g q x ad c N k) : Both w B b g q x ad c N (k + 1) :=
  ⟨h.dv, h.cells, h.rb, h.len, h.cap, h.blk, ⟨Nat.le_succ_of_le h.cnt.1, Nat.le_succ_of_le h.cnt.2⟩, h.ne, h.low⟩
theorem Both.lt {w : World} {B b g q : Nat} {x : Doc} {ad : Addr} {c N k : Nat} (h : Both w B b g q x ad c N k) : b < w.heap.size ∧ g < w.heap.size ∧ q < w.heap.size := ⟨h.dv.lt.1, h.dv.lt.2, h.cells.lt⟩
theorem Doc.go_cnt (x : Doc) (s : St3) : (x.go s).1.wr ≤ x.wr + 1 ∧ (x.go s).1.rd ≤ x.rd + 1 := by
  unfold Doc.go
  (repeat' split) <;> simp

end Go.Proofs.Ytefienjcdchebaa
