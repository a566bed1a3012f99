/-
  A device of blocks: what its calls tell, and how it is behind them; the document's one, of a byte for each block; and that both go alike. Plain; no program is named here.
-/
import Derived.Test.YtefienjcdchebaaDiskA
import Derived.Test.YtefienjcdchebaaStepA
namespace Go.Proofs.Ytefienjcdchebaa
open Go.RowKit

/-- A block that has a byte all over. -/
def full (x : UInt8) : List UInt8 := List.replicate 256 x
theorem full_len (x : UInt8) : (full x).length = 256 := List.length_replicate
theorem full_zero : full 0 = zeros 256 := rfl
theorem full_inj {x y : UInt8} (h : full x = full y) : x = y := by
  have h0 : (full x)[0]? = (full y)[0]? := by rw [h]
  unfold full at h0
  rw [List.getElem?_replicate, List.getElem?_replicate, if_pos (by omega), if_pos (by omega)] at h0
  exact Option.some.inj h0
/-- The device: its blocks, the fuse (below 0: none), whether the power is off, how many writes and reads. -/
structure Dev where
  bl : List (List UInt8)
  fuse : Int
  off : Bool
  wr : Nat
  rd : Nat
/-- Is there such a block? -/
def Dev.has (d : Dev) (no : Int) : Bool := decide (0 ≤ no) && decide (no < (d.bl.length : Int))
theorem Dev.has_iff {d : Dev} {no : Int} : d.has no = true ↔ 0 ≤ no ∧ no < (d.bl.length : Int) := by unfold Dev.has; simp
def Dev.readE (d : Dev) (no : Int) : Int := if d.off then 12 else if d.has no then 0 else 2
def Dev.readB (d : Dev) (no : Int) : List UInt8 := if d.off then zeros 256 else if d.has no then d.bl.getD no.toNat (zeros 256) else zeros 256
def Dev.read (d : Dev) (no : Int) : Dev := if d.off then d else if d.has no then { d with rd := d.rd + 1 } else d
def Dev.writeE (d : Dev) (no : Int) : Int := if d.off then 12 else if d.has no then (if d.fuse = 0 then 12 else 0) else 2
def Dev.write (d : Dev) (no : Int) (b : List UInt8) : Dev :=
  if d.off then d else if d.has no then (if d.fuse = 0 then { d with off := true } else { d with bl := d.bl.set no.toNat b, fuse := if 0 < d.fuse then d.fuse - 1 else d.fuse, wr := d.wr + 1 }) else d
def Dev.setFuse (d : Dev) (n : Int) : Dev := { d with fuse := if n < 0 then -1 else n }
def Dev.up (d : Dev) : Dev := { d with fuse := -1, off := false }
/-- How many blocks a device of n has. -/
def devSize (n : Int) : Nat := if n < 16 then 16 else if 512 < n then 512 else n.toNat
theorem devSize_le (n : Int) : 16 ≤ devSize n ∧ devSize n ≤ 512 := by unfold devSize; split <;> (try split) <;> omega
def Dev.new (n : Int) : Dev := ⟨List.replicate (devSize n) (zeros 256), -1, false, 0, 0⟩
theorem Dev.new_bks (n : Int) : Bks (Dev.new n).bl := Bks.same _ (zeros_len 256)
theorem Dev.read_bl (d : Dev) (no : Int) : (d.read no).bl = d.bl := by unfold Dev.read; split <;> (try split) <;> rfl
theorem Dev.write_bks {d : Dev} (h : Bks d.bl) (no : Int) {b : List UInt8} (hb : b.length = 256) : Bks (d.write no b).bl := by
  unfold Dev.write
  split
  · exact h
  · split
    · split
      · exact h
      · exact h.set _ hb
    · exact h
theorem Dev.write_len (d : Dev) (no : Int) (b : List UInt8) : (d.write no b).bl.length = d.bl.length := by
  unfold Dev.write
  split
  · rfl
  · split
    · split
      · rfl
      · simp
    · rfl
theorem Dev.readB_len {d : Dev} (h : Bks d.bl) (no : Int) : (d.readB no).length = 256 := by
  unfold Dev.readB
  split
  · exact zeros_len 256
  · split
    · rename_i hh
      have := Dev.has_iff.1 hh
      have hk : no.toNat < d.bl.length := by omega
      simp only [List.getD, List.getElem?_eq_getElem hk, Option.getD_some]
      exact h.get hk
    · exact zeros_len 256
/-- The document's device: of each block the byte that it has all over. -/
structure Doc where
  l : List UInt8
  fuse : Int
  off : Bool
  wr : Nat
  rd : Nat
def Doc.new (n : Int) : Doc := ⟨zeros (devSize n), -1, false, 0, 0⟩
def Doc.dev (x : Doc) : Dev := ⟨x.l.map full, x.fuse, x.off, x.wr, x.rd⟩
theorem Doc.new_dev (n : Int) : (Doc.new n).dev = Dev.new n := by
  show Dev.mk ((List.replicate (devSize n) (0 : UInt8)).map full) _ _ _ _ = Dev.mk (List.replicate (devSize n) (zeros 256)) _ _ _ _
  rw [List.map_replicate]
  rfl
/-- A step of the document's: the device, the byte that was read, the error. -/
def Doc.go (x : Doc) (s : St3) : Doc × UInt8 × Int :=
  if s.do_ = 2 then ({ x with fuse := if s.no < 0 then -1 else s.no }, 0, 0)
  else if s.do_ = 3 then ({ x with fuse := -1, off := false }, 0, 0)
  else if x.off then (x, 0, 12)
  else if s.no < 0 ∨ (x.l.length : Int) ≤ s.no then (x, 0, 2)
  else if s.do_ = 0 then ({ x with rd := x.rd + 1 }, x.l.getD s.no.toNat 0, 0)
  else if x.fuse = 0 then ({ x with off := true }, 0, 12)
  else ({ x with l := x.l.set s.no.toNat s.b, fuse := if 0 < x.fuse then x.fuse - 1 else x.fuse, wr := x.wr + 1 }, 0, 0)
/-- The same step of a device: the device, the block that was read, the error. -/
def Dev.go (d : Dev) (s : St3) : Dev × List UInt8 × Int :=
  if s.do_ = 0 then (d.read s.no, d.readB s.no, d.readE s.no)
  else if s.do_ = 1 then (d.write s.no (full s.b), zeros 256, d.writeE s.no)
  else if s.do_ = 2 then (d.setFuse s.no, zeros 256, 0)
  else (d.up, zeros 256, 0)
/-- Both go alike. -/
theorem Doc.go_dev (x : Doc) (s : St3) (h0 : 0 ≤ s.do_) (h3 : s.do_ ≤ 3) : x.dev.go s = ((x.go s).1.dev, full (x.go s).2.1, (x.go s).2.2) := by
  have hlen : x.dev.bl.length = x.l.length := by simp [Doc.dev]
  have hhas : x.dev.has s.no = !decide (s.no < 0 ∨ (x.l.length : Int) ≤ s.no) := by
    unfold Dev.has
    rw [hlen, Bool.eq_iff_iff]
    simp
  have hways : s.do_ = 0 ∨ s.do_ = 1 ∨ s.do_ = 2 ∨ s.do_ = 3 := by omega
  have hoff : x.dev.off = x.off := rfl
  have hf : x.dev.fuse = x.fuse := rfl
  rcases hways with h | h | h | h
  · unfold Dev.go Doc.go Dev.read Dev.readB Dev.readE
    simp only [h, hhas, hoff]
    by_cases ho : x.off = true
    · simp [ho, full_zero]
    · by_cases hb : s.no < 0 ∨ (x.l.length : Int) ≤ s.no
      · simp [ho, hb, full_zero]
      · have hk : s.no.toNat < x.l.length := by omega
        simp [ho, hb]
        refine ⟨?_, ?_⟩
        · first | rfl | simp [Doc.dev]
        · simp [Doc.dev, List.getElem?_eq_getElem hk]
  · unfold Dev.go Doc.go Dev.write Dev.writeE
    simp only [h, hhas, hoff, hf]
    by_cases ho : x.off = true
    · simp [ho, full_zero]
    · by_cases hb : s.no < 0 ∨ (x.l.length : Int) ≤ s.no
      · simp [ho, hb, full_zero]
      · by_cases hz : x.fuse = 0
        · simp [ho, hb, hz, full_zero]
          rfl
        · simp [ho, hb, hz, full_zero]
          simp [Doc.dev, List.map_set]
  · unfold Dev.go Doc.go
    simp [h, full_zero, Dev.setFuse, Doc.dev]
  · unfold Dev.go Doc.go
    simp [h, full_zero, Dev.up, Doc.dev]

end Go.Proofs.Ytefienjcdchebaa
