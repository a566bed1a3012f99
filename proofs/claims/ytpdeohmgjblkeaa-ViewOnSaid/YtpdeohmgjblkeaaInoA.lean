/-
  An inode as eleven numbers and as 32 bytes. Plain; no program is named here.
-/
import Derived.Test.YtpdeohmgjblkeaaGrA
namespace Go.Proofs.Ytpdeohmgjblkeaa
open Go.RowKit

/-- Numbers as cells. -/
def icells (l : List Int) : Array Value := (l.map (Value.int .i64)).toArray
theorem icells_size (l : List Int) : (icells l).size = l.length := by simp [icells]
theorem icells_get (l : List Int) (k : Nat) : (icells l)[k]? = (l[k]?).map (Value.int .i64) := by simp [icells]
theorem icells_set (l : List Int) (k : Nat) (x : Int) : (icells l).setIfInBounds k (.int .i64 x) = icells (l.set k x) := by
  apply Array.ext_getElem?
  intro i
  simp [icells, List.map_set]
theorem oneCell_icells (l : List Int) : (icells l).all (·.oneCell') = true := by
  simp [icells, Value.oneCell']
def fld (l : List Int) (k : Nat) : Int := l.getD k 0
theorem fld_get (l : List Int) (k : Nat) (h : k < l.length) : l[k]? = some (fld l k) := by
  unfold fld
  rw [List.getD_eq_getElem?_getD, List.getElem?_eq_getElem h]
  rfl
theorem Blk.fld {w : World} {g : Nat} {t : TypeId} {l : List Int} (h : Blk w g t (icells l)) (k : Nat) (hk : k < l.length) : w.cell? ⟨g, k, none⟩ = some (.int .i64 (fld l k)) := by
  rw [h.cell, icells_get, fld_get l k hk]
  rfl

/-- Direct, then Indirect. -/
def nums (l : List Int) : List Int := l.drop 4
theorem nums_len {l : List Int} (h : l.length = 11) : (nums l).length = 7 := by unfold nums; rw [List.length_drop, h]
theorem fld_nums (l : List Int) (k : Nat) : fld (nums l) k = fld l (4 + k) := by
  unfold nums fld
  rw [List.getD_eq_getElem?_getD, List.getD_eq_getElem?_getD, List.getElem?_drop]

def shortB (n : Int) : Bool := decide (0 ≤ n ∧ n ≤ 65535)
def sizeB (n : Int) : Bool := decide (0 ≤ n ∧ n ≤ 34304)
/-- The free inode. -/
def freeI : List Int := [0, 0, 0, 0, 0, 0, 0, 0, 0, 0, 0]
/-- It may be. -/
def mayI (l : List Int) : Bool :=
  if fld l 0 = 0 then decide (l = freeI)
  else (decide (fld l 0 = 1 ∨ fld l 0 = 2) && (shortB (fld l 1) && (shortB (fld l 3) && (sizeB (fld l 2) && (nums l).all shortB))))
def flatI (ns : List Int) : List UInt8 := ns.flatMap fun n => leBytes 2 n.toNat
theorem flatI_len (ns : List Int) : (flatI ns).length = 2 * ns.length := by
  induction ns with
  | nil => rfl
  | cons n ns ih =>
    unfold flatI at ih ⊢
    rw [List.flatMap_cons, List.length_append, ih, leBytes_len, List.length_cons]
    omega
theorem flatI_snoc (ns : List Int) (n : Int) : flatI (ns ++ [n]) = flatI ns ++ leBytes 2 n.toNat := by
  unfold flatI
  rw [List.flatMap_append]
  simp
/-- The first ten bytes. -/
def headI (l : List Int) : List UInt8 := UInt8.ofNat (fld l 0).toNat :: 0 :: (leBytes 2 (fld l 1).toNat ++ (leBytes 4 (fld l 2).toNat ++ leBytes 2 (fld l 3).toNat))
theorem headI_len (l : List Int) : (headI l).length = 10 := by
  unfold headI
  simp only [List.length_cons, List.length_append, leBytes_len]
/-- 16.1. -/
def putI (l : List Int) : List UInt8 := headI l ++ (flatI (nums l) ++ zeros 8)
theorem putI_len {l : List Int} (h : l.length = 11) : (putI l).length = 32 := by
  unfold putI
  simp only [List.length_append, headI_len, flatI_len, nums_len h, zeros_len]

/-- The number that n bytes from o on are. -/
def leV (b : List UInt8) (o n : Nat) : Nat := leVal ((b.drop o).take n)
/-- What Get has told behind k numbers of Direct; z in the place of Indirect. -/
def gotK (b : List UInt8) (k : Nat) (z : Int) : List Int :=
  [((leV b 0 1 : Nat) : Int), ((leV b 2 2 : Nat) : Int), ((leV b 4 4 : Nat) : Int), ((leV b 8 2 : Nat) : Int)] ++ (((List.range 6).map fun i => if i < k then ((leV b (10 + 2 * i) 2 : Nat) : Int) else 0) ++ [z])
theorem gotK_len (b : List UInt8) (k : Nat) (z : Int) : (gotK b k z).length = 11 := rfl
theorem gotK_set (b : List UInt8) (z : Int) : ∀ k, k < 6 → (gotK b k z).set (4 + k) ((leV b (10 + 2 * k) 2 : Nat) : Int) = gotK b (k + 1) z := by
  intro k hk
  match k, hk with
  | 0, _ => rfl
  | 1, _ => rfl
  | 2, _ => rfl
  | 3, _ => rfl
  | 4, _ => rfl
  | 5, _ => rfl
theorem gotK_last (b : List UInt8) (z v : Int) : (gotK b 6 z).set 10 v = gotK b 6 v := rfl
/-- 16.2: Get. -/
def getI (b : List UInt8) : List Int := gotK b 6 ((leV b 22 2 : Nat) : Int)
theorem getI_len (b : List UInt8) : (getI b).length = 11 := rfl
def cleanI (b : List UInt8) : Option (List Int) := if mayI (getI b) = true ∧ putI (getI b) = b then some (getI b) else none

theorem list_eleven {l : List Int} (h : l.length = 11) : ∃ a0 a1 a2 a3 a4 a5 a6 a7 a8 a9 a10, l = [a0, a1, a2, a3, a4, a5, a6, a7, a8, a9, a10] := by
  match l, h with
  | [a0, a1, a2, a3, a4, a5, a6, a7, a8, a9, a10], _ => exact ⟨a0, a1, a2, a3, a4, a5, a6, a7, a8, a9, a10, rfl⟩
/-- What may be is within its bytes. -/
theorem mayI_in {l : List Int} (hl : l.length = 11) (h : mayI l = true) : (0 ≤ fld l 0 ∧ fld l 0 ≤ 2) ∧ (0 ≤ fld l 1 ∧ fld l 1 ≤ 65535) ∧ (0 ≤ fld l 2 ∧ fld l 2 ≤ 34304) ∧ (0 ≤ fld l 3 ∧ fld l 3 ≤ 65535) ∧ ∀ k, k < 7 → 0 ≤ fld (nums l) k ∧ fld (nums l) k ≤ 65535 := by
  unfold mayI at h
  split at h
  · have e : l = freeI := of_decide_eq_true h
    subst e
    refine ⟨by decide, by decide, by decide, by decide, fun k hk => ?_⟩
    have : ∀ k, k < 7 → 0 ≤ fld (nums freeI) k ∧ fld (nums freeI) k ≤ 65535 := by decide
    exact this k hk
  · simp only [Bool.and_eq_true, decide_eq_true_eq, shortB, sizeB, List.all_eq_true] at h
    obtain ⟨h0, h1, h3, h2, h4⟩ := h
    refine ⟨by omega, h1, h2, h3, fun k hk => h4 _ ?_⟩
    have e := fld_get (nums l) k (by rw [nums_len hl]; exact hk)
    exact List.mem_of_getElem? e
theorem leV_two (v : Nat) (h : v < 65536) (p r : List UInt8) (o : Nat) (ho : p.length = o) : leV (p ++ (leBytes 2 v ++ r)) o 2 = v := by
  unfold leV
  rw [List.drop_left' ho, List.take_left' (leBytes_len _ _), leVal_leBytes _ _ (by omega)]
theorem leV_four (v : Nat) (h : v < 4294967296) (p r : List UInt8) (o : Nat) (ho : p.length = o) : leV (p ++ (leBytes 4 v ++ r)) o 4 = v := by
  unfold leV
  rw [List.drop_left' ho, List.take_left' (leBytes_len _ _), leVal_leBytes _ _ (by omega)]
theorem leV_nums (p r : List UInt8) (hp : p.length = 10) (ns : List Int) (k : Nat) (hk : k < ns.length) (h : 0 ≤ fld ns k ∧ fld ns k ≤ 65535) : ((leV (p ++ (flatI ns ++ r)) (10 + 2 * k) 2 : Nat) : Int) = fld ns k := by
  have e0 := fld_get ns k hk
  have e1 : ns = ns.take k ++ (fld ns k :: ns.drop (k + 1)) := by
    obtain ⟨h1, h2⟩ := List.getElem?_eq_some_iff.1 e0
    rw [← h2, List.getElem_cons_drop, List.take_append_drop]
  have e2 : flatI ns = flatI (ns.take k) ++ (leBytes 2 (fld ns k).toNat ++ flatI (ns.drop (k + 1))) := by
    have e3 : flatI ns = flatI (ns.take k ++ (fld ns k :: ns.drop (k + 1))) := congrArg _ e1
    rw [e3]
    unfold flatI
    rw [List.flatMap_append, List.flatMap_cons]
  rw [e2, List.append_assoc, List.append_assoc, ← List.append_assoc, leV_two _ (by omega) _ _ _ (by rw [List.length_append, hp, flatI_len, List.length_take]; omega)]
  omega
/-- 16.4: got again. -/
theorem get_putI {l : List Int} (hl : l.length = 11) (h : mayI l = true) : getI (putI l) = l := by
  obtain ⟨h0, h1, h2, h3, h4⟩ := mayI_in hl h
  have e0 : ((leV (putI l) 0 1 : Nat) : Int) = fld l 0 := by
    have : leV (putI l) 0 1 = (UInt8.ofNat (fld l 0).toNat).toNat := by
      unfold putI headI leV
      simp [leVal]
    rw [this]
    simp
    omega
  have e1 : ((leV (putI l) 2 2 : Nat) : Int) = fld l 1 := by
    have e : putI l = [UInt8.ofNat (fld l 0).toNat, 0] ++ (leBytes 2 (fld l 1).toNat ++ ((leBytes 4 (fld l 2).toNat ++ leBytes 2 (fld l 3).toNat) ++ (flatI (nums l) ++ zeros 8))) := by
      unfold putI headI
      simp
    rw [e, leV_two _ (by omega) _ _ 2 rfl]
    omega
  have e2 : ((leV (putI l) 4 4 : Nat) : Int) = fld l 2 := by
    have e : putI l = ([UInt8.ofNat (fld l 0).toNat, 0] ++ leBytes 2 (fld l 1).toNat) ++ (leBytes 4 (fld l 2).toNat ++ (leBytes 2 (fld l 3).toNat ++ (flatI (nums l) ++ zeros 8))) := by
      unfold putI headI
      simp
    rw [e, leV_four _ (by omega) _ _ 4 (by rw [List.length_append, leBytes_len]; rfl)]
    omega
  have e3 : ((leV (putI l) 8 2 : Nat) : Int) = fld l 3 := by
    have e : putI l = ([UInt8.ofNat (fld l 0).toNat, 0] ++ (leBytes 2 (fld l 1).toNat ++ leBytes 4 (fld l 2).toNat)) ++ (leBytes 2 (fld l 3).toNat ++ (flatI (nums l) ++ zeros 8)) := by
      unfold putI headI
      simp
    rw [e, leV_two _ (by omega) _ _ 8 (by rw [List.length_append, List.length_append, leBytes_len, leBytes_len]; rfl)]
    omega
  have e4 : ∀ k, k < 7 → ((leV (putI l) (10 + 2 * k) 2 : Nat) : Int) = fld l (4 + k) := fun k hk => by
    unfold putI
    rw [leV_nums _ _ (headI_len l) (nums l) k (by rw [nums_len hl]; exact hk) (h4 k hk), fld_nums]
  have q0 := e4 0 (by omega)
  have q1 := e4 1 (by omega)
  have q2 := e4 2 (by omega)
  have q3 := e4 3 (by omega)
  have q4 := e4 4 (by omega)
  have q5 := e4 5 (by omega)
  have q6 := e4 6 (by omega)
  have e5 : getI (putI l) = [fld l 0, fld l 1, fld l 2, fld l 3, fld l 4, fld l 5, fld l 6, fld l 7, fld l 8, fld l 9, fld l 10] := by
    rw [← e0, ← e1, ← e2, ← e3, ← q0, ← q1, ← q2, ← q3, ← q4, ← q5, ← q6]
    rfl
  rw [e5]
  obtain ⟨a0, a1, a2, a3, a4, a5, a6, a7, a8, a9, a10, rfl⟩ := list_eleven hl
  rfl
theorem putI_inj {l m : List Int} (hl : l.length = 11) (hm : m.length = 11) (h : mayI l = true) (h' : mayI m = true) (e : putI l = putI m) : l = m := by
  rw [← get_putI hl h, e, get_putI hm h']
theorem clean_putI {l : List Int} (hl : l.length = 11) (h : mayI l = true) : cleanI (putI l) = some l := by
  unfold cleanI
  rw [get_putI hl h, if_pos ⟨h, rfl⟩]

/-! The program's way to the bytes. -/
def walkI (l : List Int) (k : Nat) : List UInt8 := (headI l ++ flatI ((nums l).take k)) ++ zeros (246 - 2 * k)
theorem walkI_len {l : List Int} (hl : l.length = 11) (k : Nat) (hk : k ≤ 7) : (walkI l k).length = 256 := by
  unfold walkI
  rw [List.length_append, List.length_append, headI_len, flatI_len, List.length_take, nums_len hl, zeros_len]
  omega
theorem take_succ_getI {α : Type} (l : List α) (k : Nat) (x : α) (h : l[k]? = some x) : l.take (k + 1) = l.take k ++ [x] := by
  obtain ⟨hk, rfl⟩ := List.getElem?_eq_some_iff.1 h
  rw [List.take_succ_eq_append_getElem hk]
theorem walkI_step {l : List Int} (hl : l.length = 11) (k : Nat) (hk : k < 7) : nwithL (walkI l k) ((10 + 2 * k : Nat) : Int) 2 (fld (nums l) k).toNat = walkI l (k + 1) := by
  unfold walkI
  have h1 : (headI l ++ flatI ((nums l).take k)).length = 10 + 2 * k := by
    rw [List.length_append, headI_len, flatI_len, List.length_take, nums_len hl]; omega
  have h := nwithL_zeros (headI l ++ flatI ((nums l).take k)) (10 + 2 * k) (246 - 2 * k) 2 (fld (nums l) k).toNat h1 (by omega) (by omega) (by omega)
  have e := fld_get (nums l) k (by rw [nums_len hl]; exact hk)
  have e2 : (nums l).take (k + 1) = (nums l).take k ++ [fld (nums l) k] := take_succ_getI _ _ _ e
  rw [e2, flatI_snoc, show 246 - 2 * (k + 1) = 246 - 2 * k - 2 from by omega]
  rw [← List.append_assoc (headI l), List.append_assoc (headI l ++ flatI ((nums l).take k))]
  exact h
theorem walkI_end {l : List Int} (hl : l.length = 11) : (walkI l 7).take 32 = putI l := by
  unfold walkI putI
  have e1 : (nums l).take 7 = nums l := List.take_of_length_le (by rw [nums_len hl]; omega)
  rw [e1]
  have e2 : zeros (246 - 2 * 7) = zeros 8 ++ zeros 224 := by unfold zeros; rw [List.replicate_append_replicate]
  rw [e2, List.append_assoc, ← List.append_assoc (flatI (nums l)), ← List.append_assoc (headI l)]
  exact List.take_left' (by rw [List.length_append, headI_len, List.length_append, flatI_len, nums_len hl, zeros_len])
theorem put_allI {l : List Int} (_hl : l.length = 11) : ∃ X0 X1 X2 : List UInt8, nwithL (zeros 256) 0 1 (fld l 0).toNat = X0 ∧ nwithL X0 2 2 (fld l 1).toNat = X1 ∧ nwithL X1 4 4 (fld l 2).toNat = X2 ∧ nwithL X2 8 2 (fld l 3).toNat = walkI l 0 ∧ X0.length = 256 ∧ X1.length = 256 ∧ X2.length = 256 := by
  refine ⟨_, _, _, rfl, rfl, rfl, ?_, ?_, ?_, ?_⟩
  · have s0 : nwithL (zeros 256) 0 1 (fld l 0).toNat = [UInt8.ofNat (fld l 0).toNat, 0] ++ zeros 254 := nwithL_zeros [] 0 256 1 (fld l 0).toNat rfl (by omega) (by omega) (by omega)
    have s1 := nwithL_zeros [UInt8.ofNat (fld l 0).toNat, 0] 2 254 2 (fld l 1).toNat rfl (by omega) (by omega) (by omega)
    have s2 := nwithL_zeros ([UInt8.ofNat (fld l 0).toNat, 0] ++ leBytes 2 (fld l 1).toNat) 4 252 4 (fld l 2).toNat (by rw [List.length_append, leBytes_len]; rfl) (by omega) (by omega) (by omega)
    have s3 := nwithL_zeros (([UInt8.ofNat (fld l 0).toNat, 0] ++ leBytes 2 (fld l 1).toNat) ++ leBytes 4 (fld l 2).toNat) 8 248 2 (fld l 3).toNat (by rw [List.length_append, List.length_append, leBytes_len, leBytes_len]; rfl) (by omega) (by omega) (by omega)
    rw [← List.append_assoc] at s1 s2 s3
    have e : walkI l 0 = (([UInt8.ofNat (fld l 0).toNat, 0] ++ leBytes 2 (fld l 1).toNat) ++ leBytes 4 (fld l 2).toNat) ++ leBytes 2 (fld l 3).toNat ++ zeros (248 - 2) := by
      unfold walkI headI
      simp [flatI]
    rw [e, ← s3]
    have t1 : nwithL ([UInt8.ofNat (fld l 0).toNat, 0] ++ zeros 254) 2 2 (fld l 1).toNat = [UInt8.ofNat (fld l 0).toNat, 0] ++ leBytes 2 (fld l 1).toNat ++ zeros 252 := s1
    have t2 : nwithL ([UInt8.ofNat (fld l 0).toNat, 0] ++ leBytes 2 (fld l 1).toNat ++ zeros 252) 4 4 (fld l 2).toNat = [UInt8.ofNat (fld l 0).toNat, 0] ++ leBytes 2 (fld l 1).toNat ++ leBytes 4 (fld l 2).toNat ++ zeros 248 := s2
    rw [s0, t1, t2]
    rfl
  · rw [nwithL_len, zeros_len]
  · rw [nwithL_len, nwithL_len, zeros_len]
  · rw [nwithL_len, nwithL_len, nwithL_len, zeros_len]

/-! The program's way back: the bytes stand at the front of a block. -/
theorem ofL_32 (b : List UInt8) (hb : b.length = 32) : layL (zeros 256) 0 b = b ++ zeros 224 := by
  have h := layL_zeros [] b 0 256 rfl rfl (by omega) (by omega)
  rw [hb] at h
  exact h
theorem getN_pad (b r : List UInt8) (hb : b.length = 32) (o W : Nat) (h1 : 1 ≤ W) (h4 : W ≤ 4) (hW : o + W ≤ 32) : getN (b ++ r) (o : Nat) (W : Nat) 4 = leV b o W := by
  unfold getN leV
  rw [if_pos (by unfold fitsB; rw [List.length_append, hb]; simp; omega), Int.toNat_natCast, Int.toNat_natCast, List.drop_append_of_le_length (by omega), List.take_append_of_le_length (by rw [List.length_drop, hb]; omega)]

/-- How many blocks. -/
def blocksI (n : Int) : Int := (max 0 (min n 34304) + 255) / 256

end Go.Proofs.Ytpdeohmgjblkeaa
