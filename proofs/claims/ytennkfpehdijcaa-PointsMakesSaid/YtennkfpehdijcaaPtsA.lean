/-
  A block as 128 numbers of two bytes: got, put, listed, counted, kept. Plain; no program is named here.
-/
import Derived.Test.YtennkfpehdijcaaInoA
import Derived.Test.YtennkfpehdijcaaRef01b
import Derived.Test.YtennkfpehdijcaaPatchA
namespace Go.Proofs.Ytennkfpehdijcaa
open Go.RowKit

def placeQ (k : Int) : Bool := decide (0 ≤ k ∧ k < 128)
theorem placeQ_true {k : Int} (h : placeQ k = true) : ∃ q : Nat, q < 128 ∧ k = (q : Int) := by
  unfold placeQ at h
  rw [decide_eq_true_eq] at h
  exact ⟨k.toNat, by omega, by omega⟩
theorem placeQ_nat {q : Nat} (h : q < 128) : placeQ (q : Int) = true := by unfold placeQ; rw [decide_eq_true_eq]; omega
theorem placeQ_false {k : Int} (h : placeQ k = false) : k < 0 ∨ 0 ≤ k ∧ 127 < k := by
  unfold placeQ at h
  rw [decide_eq_false_iff_not] at h
  omega
theorem short_iff {x : Int} : shortB x = true ↔ 0 ≤ x ∧ x ≤ 65535 := by unfold shortB; rw [decide_eq_true_eq]
theorem short_false {x : Int} (h : shortB x = false) : x < 0 ∨ 0 ≤ x ∧ 65535 < x := by
  unfold shortB at h
  rw [decide_eq_false_iff_not] at h
  omega

/-! ### The number of a place -/
theorem leV2_lt (b : List UInt8) (o : Nat) : leV b o 2 < 65536 := by
  refine Nat.lt_of_lt_of_le (leVal_lt _) ?_
  have : 8 * ((b.drop o).take 2).length ≤ 16 := by rw [List.length_take]; omega
  exact Nat.pow_le_pow_right (by omega) this
def nmQ (b : List UInt8) (k : Nat) : Int := ((leV b (2 * k) 2 : Nat) : Int)
theorem nmQ_in (b : List UInt8) (k : Nat) : 0 ≤ nmQ b k ∧ nmQ b k ≤ 65535 := by
  have := leV2_lt b (2 * k)
  unfold nmQ
  omega
theorem getN_nm {b : List UInt8} (hb : b.length = 256) {k : Nat} (hk : k < 128) : ((getN b ((2 * k : Nat) : Int) 2 4 : Nat) : Int) = nmQ b k := by
  unfold getN nmQ leV
  rw [if_pos (by unfold fitsB; rw [decide_eq_true_eq, hb]; omega)]
  rfl
def getQ (b : List UInt8) (k : Int) : Int := if placeQ k then nmQ b k.toNat else 0
theorem getQ_nat (b : List UInt8) {q : Nat} (h : q < 128) : getQ b (q : Int) = nmQ b q := by
  unfold getQ
  rw [placeQ_nat h]
  rfl
theorem getQ_no (b : List UInt8) {k : Int} (h : placeQ k = false) : getQ b k = 0 := by unfold getQ; rw [h]; rfl
def numsQ (b : List UInt8) : List Int := (List.range 128).map (nmQ b)
theorem numsQ_len (b : List UInt8) : (numsQ b).length = 128 := by unfold numsQ; rw [List.length_map, List.length_range]
theorem numsQ_at (b : List UInt8) {k : Nat} (hk : k < 128) : fld (numsQ b) k = nmQ b k := by
  unfold fld numsQ
  rw [List.getD_eq_getElem?_getD, List.getElem?_map, List.getElem?_range hk]
  rfl
theorem fld_get0 (l : List Int) (k : Nat) (h : l.length ≤ k) : fld l k = 0 := by
  unfold fld
  rw [List.getD_eq_getElem?_getD, List.getElem?_eq_none h]
  rfl
theorem ext128 {t u : List Int} (ht : t.length = 128) (hu : u.length = 128) (h : ∀ i, i < 128 → fld t i = fld u i) : t = u := by
  apply List.ext_getElem?
  intro i
  by_cases hi : i < 128
  · rw [fld_get t i (by omega), fld_get u i (by omega), h i hi]
  · rw [List.getElem?_eq_none (by omega), List.getElem?_eq_none (by omega)]
theorem fldQ_set (l : List Int) (i k : Nat) (v : Int) (hi : i < l.length) : fld (l.set i v) k = if k = i then v else fld l k := by
  unfold fld
  rw [List.getD_eq_getElem?_getD, List.getD_eq_getElem?_getD, List.getElem?_set]
  by_cases h : i = k
  · rw [if_pos h, if_pos hi, if_pos h.symm]
    rfl
  · rw [if_neg h, if_neg (fun e => h e.symm)]
theorem fld_snoc (l : List Int) (k : Nat) (x : Int) (hk : l.length = k) : fld (l ++ [x]) k = x := by
  subst hk
  unfold fld
  rw [List.getD_eq_getElem?_getD, List.getElem?_append_right (Nat.le_refl _)]
  simp

/-! ### Numbers as a block -/
def fineL (l : List Int) : Prop := ∀ k, k < l.length → 0 ≤ fld l k ∧ fld l k ≤ 65535
theorem numsQ_fine (b : List UInt8) : fineL (numsQ b) := fun k hk => by
  rw [numsQ_len] at hk
  rw [numsQ_at b hk]
  exact nmQ_in b k
theorem fineL_set {l : List Int} (h : fineL l) (k : Nat) {v : Int} (hv : 0 ≤ v ∧ v ≤ 65535) : fineL (l.set k v) := fun i hi => by
  rw [List.length_set] at hi
  by_cases hk : k < l.length
  · rw [fldQ_set l k i v hk]
    by_cases e : i = k
    · rw [if_pos e]; exact hv
    · rw [if_neg e]; exact h i hi
  · rw [List.set_eq_of_length_le (by omega)]
    exact h i hi
def blkQ (l : List Int) : List UInt8 := flatI l ++ zeros (256 - 2 * l.length)
theorem blkQ_len {l : List Int} (h : l.length ≤ 128) : (blkQ l).length = 256 := by
  unfold blkQ
  rw [List.length_append, flatI_len, zeros_len]
  omega
theorem blkQ_nil : blkQ [] = zeros 256 := rfl
theorem blkQ_all {l : List Int} (h : l.length = 128) : blkQ l = flatI l := by
  unfold blkQ
  rw [h]
  exact List.append_nil _
/-- One number more, the program's way. -/
theorem blkQ_next {l : List Int} {k : Nat} (hl : l.length = k) (hk : k < 128) (x : Int) : nwithL (blkQ l) ((2 * k : Nat) : Int) 2 x.toNat = blkQ (l ++ [x]) := by
  unfold blkQ
  have e := nwithL_zeros (flatI l) (2 * k) (256 - 2 * k) 2 x.toNat (by rw [flatI_len, hl]) (by omega) (by omega) (by omega)
  rw [hl, List.length_append, hl, flatI_snoc, List.append_assoc]
  exact e
theorem rlay_blkQ {l : List Int} (h : l.length ≤ 128) : rlayL (zeros 256) 0 (flatI l) = blkQ l := by
  have hf := flatI_len l
  unfold rlayL blkQ
  rw [if_pos (by rw [zeros_len]; decide), zeros_len, List.take_of_length_le (by rw [hf]; show _ ≤ 256; omega)]
  have e := splice_zeros [] (flatI l) 0 256 rfl
  rw [List.nil_append, List.nil_append, hf] at e
  exact e
theorem le2 (v : Nat) : leBytes 2 v = [UInt8.ofNat v, UInt8.ofNat (v / 256)] := rfl
theorem flatI_cons (x : Int) (l : List Int) : flatI (x :: l) = leBytes 2 x.toNat ++ flatI l := by unfold flatI; rw [List.flatMap_cons]
theorem flatI_drop (l : List Int) (k : Nat) : (flatI l).drop (2 * k) = flatI (l.drop k) := by
  induction l generalizing k with
  | nil => simp [flatI]
  | cons x l ih =>
    cases k with
    | zero => rfl
    | succ k =>
      rw [flatI_cons, le2, List.drop_succ_cons, ← ih k, show 2 * (k + 1) = 2 * k + 2 from by omega]
      rfl
theorem flatI_at {l : List Int} (h : fineL l) {k : Nat} (hk : k < l.length) : nmQ (flatI l) k = fld l k := by
  have hx := h k hk
  have e : l.drop k = fld l k :: l.drop (k + 1) := by
    have := fld_get l k hk
    rw [List.getElem?_eq_getElem hk] at this
    rw [List.drop_eq_getElem_cons hk, Option.some.inj this]
  unfold nmQ leV
  rw [flatI_drop, e, flatI_cons, List.take_left' (leBytes_len _ _), leVal_leBytes _ _ (by omega)]
  omega
theorem numsQ_blkQ {l : List Int} (hl : l.length = 128) (h : fineL l) : numsQ (blkQ l) = l := by
  rw [blkQ_all hl]
  exact ext128 (numsQ_len _) hl fun i hi => by rw [numsQ_at _ hi, flatI_at h (by omega)]
theorem nmQ_blkQ {l : List Int} (hl : l.length = 128) (h : fineL l) {k : Nat} (hk : k < 128) : nmQ (blkQ l) k = fld l k := by
  rw [← numsQ_at _ hk, numsQ_blkQ hl h]
theorem le2_two (x y : UInt8) : leBytes 2 (leVal [x, y]) = [x, y] := by
  have hx := x.toNat_lt
  have hy := y.toNat_lt
  rw [le2]
  congr 1
  · apply UInt8.toNat_inj.1
    simp [leVal]
  · congr 1
    apply UInt8.toNat_inj.1
    simp [leVal]
    omega
theorem flatI_nums (b : List UInt8) (n : Nat) (h : 2 * n ≤ b.length) : flatI ((List.range n).map (nmQ b)) = b.take (2 * n) := by
  induction n with
  | zero => rfl
  | succ n ih =>
    rw [List.range_succ, List.map_append, List.map_cons, List.map_nil, flatI_snoc, ih (by omega)]
    have e : (b.drop (2 * n)).take 2 = [b[2 * n]'(by omega), b[2 * n + 1]'(by omega)] := by
      rw [List.drop_eq_getElem_cons (by omega), List.drop_eq_getElem_cons (by omega)]
      rfl
    have e2 : (nmQ b n).toNat = leVal [b[2 * n]'(by omega), b[2 * n + 1]'(by omega)] := by
      unfold nmQ leV
      rw [Int.toNat_natCast, e]
    rw [e2, le2_two, ← e, show 2 * (n + 1) = 2 * n + 2 from by omega, List.take_add]
theorem blkQ_numsQ {b : List UInt8} (h : b.length = 256) : blkQ (numsQ b) = b := by
  rw [blkQ_all (numsQ_len b)]
  unfold numsQ
  rw [flatI_nums b 128 (by omega), List.take_of_length_le (by omega)]
theorem numsQ_inj {b c : List UInt8} (hb : b.length = 256) (hc : c.length = 256) (h : numsQ b = numsQ c) : b = c := by
  rw [← blkQ_numsQ hb, ← blkQ_numsQ hc, h]
theorem flatI_set (l : List Int) (k : Nat) (v : Int) (hk : k < l.length) : splice (flatI l) (2 * k) (leBytes 2 v.toNat) = flatI (l.set k v) := by
  unfold splice
  rw [leBytes_len]
  induction l generalizing k with
  | nil => cases hk
  | cons x l ih =>
    cases k with
    | zero => rw [List.set_cons_zero, flatI_cons, flatI_cons, le2 x.toNat]; rfl
    | succ k =>
      have := ih k (by simpa using hk)
      rw [List.set_cons_succ, flatI_cons, flatI_cons, ← this, le2 x.toNat, show 2 * (k + 1) = 2 * k + 2 from by omega, show 2 * k + 2 + 2 = (2 * k + 2) + 1 + 1 from rfl]
      rfl
/-- A number anew, the program's way. -/
theorem blkQ_set {l : List Int} (hl : l.length = 128) {k : Nat} (hk : k < 128) (v : Int) : nwithL (blkQ l) ((2 * k : Nat) : Int) 2 v.toNat = blkQ (l.set k v) := by
  rw [blkQ_all hl, blkQ_all (by rw [List.length_set, hl]), ← flatI_set l k v (by omega)]
  unfold nwithL
  rw [if_pos (by unfold fitsB; rw [decide_eq_true_eq, flatI_len, hl]; omega)]
  rfl

/-! ### Patch, Make -/
def patQ (k x : Int) : Pt := if placeQ k && shortB x then ⟨2 * k, leBytes 2 x.toNat⟩ else ⟨0, []⟩
def patE (k x : Int) : Int := if placeQ k then (if shortB x then 0 else 1) else 2
theorem patQ_no {k : Int} (h : placeQ k = false) (x : Int) : patQ k x = ⟨0, []⟩ ∧ patE k x = 2 := by unfold patQ patE; rw [h]; exact ⟨rfl, rfl⟩
theorem patQ_not {k : Int} (h : placeQ k = true) {x : Int} (hx : shortB x = false) : patQ k x = ⟨0, []⟩ ∧ patE k x = 1 := by unfold patQ patE; rw [h, hx]; exact ⟨rfl, rfl⟩
theorem patQ_yes {k : Int} (h : placeQ k = true) {x : Int} (hx : shortB x = true) : patQ k x = ⟨2 * k, leBytes 2 x.toNat⟩ ∧ patE k x = 0 := by unfold patQ patE; rw [h, hx]; exact ⟨rfl, rfl⟩
theorem layP_blkQ {b : List UInt8} (hb : b.length = 256) {k : Nat} (hk : k < 128) {x : Int} (hx : shortB x = true) : layP b (patQ (k : Int) x) = blkQ ((numsQ b).set k x) := by
  rw [(patQ_yes (placeQ_nat hk) hx).1]
  unfold layP
  rw [if_pos (Pt.right_iff.2 ⟨by rw [leBytes_len]; omega, by rw [leBytes_len]; omega, by show 0 ≤ 2 * (k : Int); omega, by show 2 * (k : Int) ≤ _; rw [leBytes_len]; omega⟩)]
  show splice b (2 * (k : Int)).toNat _ = _
  rw [show (2 * (k : Int)).toNat = 2 * k from by omega, blkQ_all (by rw [List.length_set, numsQ_len]), ← flatI_set _ k x (by rw [numsQ_len]; exact hk), ← blkQ_all (numsQ_len b), blkQ_numsQ hb]
def mkE (l : List Int) : Int := if 128 < l.length then 2 else if l.all shortB then 0 else 1
def mkB (l : List Int) : List UInt8 := if mkE l = 0 then blkQ l else zeros 256
theorem mk_many {l : List Int} (h : 128 < l.length) : mkE l = 2 ∧ mkB l = zeros 256 := by
  have : mkE l = 2 := by unfold mkE; rw [if_pos h]
  exact ⟨this, by unfold mkB; rw [this]; rfl⟩
theorem mk_not {l : List Int} (h : l.length ≤ 128) (hf : l.all shortB = false) : mkE l = 1 ∧ mkB l = zeros 256 := by
  have : mkE l = 1 := by unfold mkE; rw [if_neg (by omega), hf]; rfl
  exact ⟨this, by unfold mkB; rw [this]; rfl⟩
theorem mk_yes {l : List Int} (h : l.length ≤ 128) (hf : l.all shortB = true) : mkE l = 0 ∧ mkB l = blkQ l := by
  have : mkE l = 0 := by unfold mkE; rw [if_neg (by omega), hf]; rfl
  exact ⟨this, by unfold mkB; rw [this]; rfl⟩
theorem mkB_len (l : List Int) : (mkB l).length = 256 := by
  unfold mkB
  by_cases h : mkE l = 0
  · rw [if_pos h]
    refine blkQ_len ?_
    unfold mkE at h
    by_cases h2 : 128 < l.length
    · rw [if_pos h2] at h; cases h
    · omega
  · rw [if_neg h, zeros_len]
theorem fine_all {l : List Int} (h : fineL l) : l.all shortB = true := by
  rw [List.all_eq_true]
  intro x hx
  obtain ⟨k, hk, e⟩ := List.getElem_of_mem hx
  have := h k hk
  have e2 := fld_get l k hk
  rw [List.getElem?_eq_getElem hk, e] at e2
  rw [← Option.some.inj e2] at this
  exact short_iff.2 this
theorem all_fine {l : List Int} (h : l.all shortB = true) : fineL l := fun k hk => by
  rw [List.all_eq_true] at h
  have e := fld_get l k hk
  rw [List.getElem?_eq_getElem hk] at e
  have := h _ (List.getElem_mem hk)
  rw [Option.some.inj e] at this
  exact short_iff.1 this

/-! ### List, Last -/
def lisQ (b : List UInt8) : Nat → List Int
  | 0 => []
  | n + 1 => if nmQ b n = 0 then lisQ b n else lisQ b n ++ [nmQ b n]
theorem lisQ_no {b : List UInt8} {n : Nat} (h : nmQ b n = 0) : lisQ b (n + 1) = lisQ b n := if_pos h
theorem lisQ_yes {b : List UInt8} {n : Nat} (h : nmQ b n ≠ 0) : lisQ b (n + 1) = lisQ b n ++ [nmQ b n] := if_neg h
def lstQ (b : List UInt8) : Nat → Nat
  | 0 => 0
  | n + 1 => if nmQ b n = 0 then lstQ b n else n + 1
theorem lstQ_no {b : List UInt8} {n : Nat} (h : nmQ b n = 0) : lstQ b (n + 1) = lstQ b n := if_pos h
theorem lstQ_yes {b : List UInt8} {n : Nat} (h : nmQ b n ≠ 0) : lstQ b (n + 1) = n + 1 := if_neg h
theorem lstQ_le (b : List UInt8) (n : Nat) : lstQ b n ≤ n := by
  induction n with
  | zero => exact Nat.le_refl _
  | succ n ih =>
    by_cases h : nmQ b n = 0
    · rw [lstQ_no h]; omega
    · rw [lstQ_yes h]; omega
theorem lisQ_len (b : List UInt8) (n : Nat) : (lisQ b n).length ≤ n := by
  induction n with
  | zero => exact Nat.le_refl _
  | succ n ih =>
    by_cases h : nmQ b n = 0
    · rw [lisQ_no h]; omega
    · rw [lisQ_yes h, List.length_append]
      simp
      omega
theorem lisQ_lst (b : List UInt8) (n : Nat) : (lisQ b n).length ≤ lstQ b n := by
  induction n with
  | zero => exact Nat.le_refl _
  | succ n ih =>
    by_cases h : nmQ b n = 0
    · rw [lisQ_no h, lstQ_no h]; exact ih
    · rw [lstQ_yes h]; exact lisQ_len b (n + 1)
theorem lisQ_mem {b : List UInt8} {n : Nat} {x : Int} (h : x ∈ lisQ b n) : ∃ k, k < n ∧ nmQ b k ≠ 0 ∧ x = nmQ b k := by
  induction n with
  | zero => cases h
  | succ n ih =>
    by_cases h0 : nmQ b n = 0
    · rw [lisQ_no h0] at h
      obtain ⟨k, h1, h2⟩ := ih h
      exact ⟨k, by omega, h2⟩
    · rw [lisQ_yes h0, List.mem_append] at h
      rcases h with h | h
      · obtain ⟨k, h1, h2⟩ := ih h
        exact ⟨k, by omega, h2⟩
      · rw [List.mem_singleton] at h
        exact ⟨n, by omega, h0, h⟩
theorem lstQ_mono {b c : List UInt8} (n : Nat) (h : ∀ k, k < n → nmQ b k ≠ 0 → nmQ c k ≠ 0) : lstQ b n ≤ lstQ c n := by
  induction n with
  | zero => exact Nat.le_refl _
  | succ n ih =>
    have := ih fun k hk => h k (by omega)
    by_cases h0 : nmQ b n = 0
    · rw [lstQ_no h0]
      by_cases h1 : nmQ c n = 0
      · rw [lstQ_no h1]; exact this
      · rw [lstQ_yes h1]
        have := lstQ_le b n
        omega
    · rw [lstQ_yes h0, lstQ_yes (h n (by omega) h0)]
      exact Nat.le_refl _

/-! ### Keep -/
/-- Is a number kept in the statements? -/
def kpB (e : Int) (k : Nat) (x : Int) : Bool := decide (x < e) && !decide (k % 3 = 2)
def stepK (e : Int) (k : Nat) (s : List Int) : List Int := if kpB e k (fld s k) then s else s.set k 0
def keepL (e : Int) (l : List Int) : Nat → List Int
  | 0 => l
  | n + 1 => stepK e n (keepL e l n)
theorem stepK_len (e : Int) (k : Nat) (s : List Int) : (stepK e k s).length = s.length := by
  unfold stepK
  split
  · rfl
  · rw [List.length_set]
theorem stepK_yes {e : Int} {k : Nat} {s : List Int} (h : kpB e k (fld s k) = true) : stepK e k s = s := by unfold stepK; rw [h]; rfl
theorem stepK_no {e : Int} {k : Nat} {s : List Int} (h : kpB e k (fld s k) = false) : stepK e k s = s.set k 0 := by unfold stepK; rw [h]; rfl
theorem set_same (s : List Int) (k : Nat) : s.set k (fld s k) = s := by
  by_cases hk : k < s.length
  · have e := fld_get s k hk
    rw [List.getElem?_eq_getElem hk] at e
    rw [← Option.some.inj e, List.set_getElem_self]
  · rw [List.set_eq_of_length_le (by omega)]
theorem stepK_zero {e : Int} {k : Nat} {s : List Int} (h : fld s k = 0) : stepK e k s = s := by
  unfold stepK
  split
  · rfl
  · have := set_same s k
    rw [h] at this
    exact this
theorem keepL_len (e : Int) (l : List Int) (n : Nat) : (keepL e l n).length = l.length := by
  induction n with
  | zero => rfl
  | succ n ih => rw [keepL, stepK_len, ih]
theorem stepK_at (e : Int) (k : Nat) (s : List Int) (i : Nat) : fld (stepK e k s) i = if i = k ∧ kpB e k (fld s k) = false then 0 else fld s i := by
  cases h : kpB e k (fld s k)
  · rw [stepK_no h]
    by_cases hk : k < s.length
    · rw [fldQ_set s k i 0 hk]
      by_cases e : i = k
      · rw [if_pos e, if_pos ⟨e, rfl⟩]
      · rw [if_neg e, if_neg (fun c => e c.1)]
    · rw [List.set_eq_of_length_le (by omega)]
      by_cases e : i = k
      · rw [if_pos ⟨e, rfl⟩, e, fld_get0 s k (by omega)]
      · rw [if_neg (fun c => e c.1)]
  · rw [stepK_yes h, if_neg (fun c => by cases c.2)]
theorem keepL_at (e : Int) (l : List Int) (n i : Nat) : fld (keepL e l n) i = if i < n ∧ kpB e i (fld l i) = false then 0 else fld l i := by
  induction n with
  | zero => rw [if_neg (fun c => absurd c.1 (by omega))]; rfl
  | succ n ih =>
    rw [keepL, stepK_at]
    by_cases hi : i = n
    · subst hi
      have hc : fld (keepL e l i) i = fld l i := by rw [ih, if_neg (fun c => absurd c.1 (Nat.lt_irrefl i))]
      rw [hc]
      by_cases hk : kpB e i (fld l i) = false
      · rw [if_pos ⟨rfl, hk⟩, if_pos ⟨by omega, hk⟩]
      · rw [if_neg (fun c => hk c.2), if_neg (fun c => hk c.2)]
    · rw [if_neg (fun c => hi c.1), ih]
      by_cases hk : i < n ∧ kpB e i (fld l i) = false
      · rw [if_pos hk, if_pos ⟨by omega, hk.2⟩]
      · rw [if_neg hk, if_neg (fun c => hk ⟨by omega, c.2⟩)]
theorem keepL_cur (e : Int) (l : List Int) (n : Nat) : fld (keepL e l n) n = fld l n := by
  rw [keepL_at, if_neg (fun c => absurd c.1 (by omega))]
theorem keepL_fine {e : Int} {l : List Int} (h : fineL l) (n : Nat) : fineL (keepL e l n) := fun k hk => by
  rw [keepL_len] at hk
  rw [keepL_at]
  split
  · omega
  · exact h k hk
def keepQ (e : Int) (b : List UInt8) : List UInt8 := blkQ (keepL e (numsQ b) 128)
theorem keepQ_len (e : Int) (b : List UInt8) : (keepQ e b).length = 256 := blkQ_len (by rw [keepL_len, numsQ_len]; omega)
theorem keepQ_at (e : Int) (b : List UInt8) {k : Nat} (hk : k < 128) : nmQ (keepQ e b) k = if kpB e k (nmQ b k) = false then 0 else nmQ b k := by
  unfold keepQ
  rw [nmQ_blkQ (by rw [keepL_len, numsQ_len]) (keepL_fine (numsQ_fine b) 128) hk, keepL_at, numsQ_at b hk]
  by_cases h : kpB e k (nmQ b k) = false
  · rw [if_pos ⟨hk, h⟩, if_pos h]
  · rw [if_neg (fun c => h c.2), if_neg h]
theorem keepQ_again (e : Int) (b : List UInt8) : keepQ e (keepQ e b) = keepQ e b := by
  refine numsQ_inj (keepQ_len _ _) (keepQ_len _ _) (ext128 (numsQ_len _) (numsQ_len _) fun i hi => ?_)
  rw [numsQ_at _ hi, numsQ_at _ hi, keepQ_at e _ hi, keepQ_at e b hi]
  by_cases h : kpB e i (nmQ b i) = false
  · rw [if_pos h]; split <;> rfl
  · rw [if_neg h, if_neg h]
theorem keepQ_below {e : Int} {b : List UInt8} {x : Int} (h : x ∈ lisQ (keepQ e b) 128) : x < e := by
  obtain ⟨k, hk, h0, rfl⟩ := lisQ_mem h
  rw [keepQ_at e b hk] at h0 ⊢
  by_cases hc : kpB e k (nmQ b k) = false
  · rw [if_pos hc] at h0
    exact absurd rfl h0
  · rw [if_neg hc]
    have : kpB e k (nmQ b k) = true := by simpa using hc
    unfold kpB at this
    rw [Bool.and_eq_true, decide_eq_true_eq] at this
    exact this.1
theorem keepQ_last (e : Int) (b : List UInt8) : lstQ (keepQ e b) 128 ≤ lstQ b 128 := lstQ_mono 128 fun k hk h => by
  rw [keepQ_at e b hk] at h
  by_cases hc : kpB e k (nmQ b k) = false
  · rw [if_pos hc] at h
    exact absurd rfl h
  · rw [if_neg hc] at h
    exact h

end Go.Proofs.Ytennkfpehdijcaa
