/-
  The eight inodes of a block. Plain; no program is named here.
-/
import Derived.Test.YtpdeohmgjblkeaaInoA
import Derived.Test.YtpdeohmgjblkeaaPatchA
namespace Go.Proofs.Ytpdeohmgjblkeaa

/-- Is it a place? -/
def placeB (k : Int) : Bool := decide (0 ≤ k ∧ k < 8)
theorem placeB_nat {q : Nat} (h : q < 8) : placeB (q : Int) = true := by unfold placeB; simp; omega
theorem placeB_true {k : Int} (h : placeB k = true) : ∃ q : Nat, q < 8 ∧ k = (q : Int) := by
  unfold placeB at h
  have h := of_decide_eq_true h
  exact ⟨k.toNat, by omega, by omega⟩
theorem placeB_false {k : Int} (h : placeB k = false) : k < 0 ∨ 8 ≤ k := by
  unfold placeB at h
  have h := of_decide_eq_false h
  omega

/-- 17.1: Raw. -/
def rawT (b : List UInt8) (k : Int) : List UInt8 := if placeB k then (b.drop (32 * k.toNat)).take 32 else zeros 32
theorem rawT_nat (b : List UInt8) {q : Nat} (h : q < 8) : rawT b (q : Int) = (b.drop (32 * q)).take 32 := by
  unfold rawT
  rw [placeB_nat h, Int.toNat_natCast]
  rfl
theorem rawT_no (b : List UInt8) {k : Int} (h : placeB k = false) : rawT b k = zeros 32 := by
  unfold rawT
  rw [h]
  rfl
theorem rawT_len {b : List UInt8} (hb : b.length = 256) (k : Int) : (rawT b k).length = 32 := by
  cases h : placeB k
  · rw [rawT_no b h, zeros_len]
  · obtain ⟨q, hq, rfl⟩ := placeB_true h
    rw [rawT_nat b hq, List.length_take, List.length_drop, hb]
    omega
/-- What copy has of the block's rest. -/
theorem rawT_copy {b : List UInt8} (hb : b.length = 256) {q : Nat} (h : q < 8) : splice (zeros 32) 0 (((b.drop (32 * q)).take (256 - 32 * q)).take 32) = rawT b (q : Int) := by
  have e : ((b.drop (32 * q)).take (256 - 32 * q)).take 32 = rawT b (q : Int) := by
    rw [rawT_nat b h, List.take_take]
    congr 1
    omega
  rw [e, splice_all _ _ (by rw [rawT_len hb, zeros_len])]
/-- 17.1: Get. -/
def getT (b : List UInt8) (k : Int) : Option (List Int) := if placeB k then cleanI (rawT b k) else none
theorem getT_nat (b : List UInt8) {q : Nat} (h : q < 8) : getT b (q : Int) = cleanI (rawT b (q : Int)) := by
  unfold getT
  rw [placeB_nat h]
  rfl
theorem getT_no (b : List UInt8) {k : Int} (h : placeB k = false) : getT b k = none := by
  unfold getT
  rw [h]
  rfl
def getTV (b : List UInt8) (k : Int) : List Int := (getT b k).getD freeI
theorem getTV_len (b : List UInt8) (k : Int) : (getTV b k).length = 11 := by
  unfold getTV getT cleanI
  split
  · split
    · exact getI_len _
    · rfl
  · rfl
/-- 17.1: Patch, and With. -/
def patT (k : Int) (l : List Int) : Pt := if placeB k && mayI l then ⟨32 * k, putI l⟩ else ⟨0, []⟩
def errT (k : Int) (l : List Int) : Int := if placeB k then (if mayI l then 0 else 1) else 2
def withT (b : List UInt8) (k : Int) (l : List Int) : List UInt8 := layP b (patT k l)
theorem patT_no {k : Int} {l : List Int} (h : placeB k = false) : patT k l = ⟨0, []⟩ := by unfold patT; rw [h]; rfl
theorem patT_not {k : Int} {l : List Int} (h : mayI l = false) : patT k l = ⟨0, []⟩ := by unfold patT; rw [h, Bool.and_false]; rfl
theorem patT_nat {q : Nat} (hq : q < 8) {l : List Int} (h : mayI l = true) : patT (q : Int) l = ⟨((32 * q : Nat) : Int), putI l⟩ := by
  unfold patT
  rw [h, placeB_nat hq]
  simp
theorem errT_no {k : Int} {l : List Int} (h : placeB k = false) : errT k l = 2 := by unfold errT; rw [h]; rfl
theorem errT_nat {q : Nat} (hq : q < 8) (l : List Int) : errT (q : Int) l = if mayI l then 0 else 1 := by unfold errT; rw [placeB_nat hq]; rfl
theorem errT_ways (k : Int) (l : List Int) : errT k l = 0 ∨ ((errT k l = 1 ∨ errT k l = 2) ∧ patT k l = ⟨0, []⟩) := by
  cases h : placeB k
  · exact Or.inr ⟨Or.inr (errT_no h), patT_no h⟩
  · cases h' : mayI l
    · exact Or.inr ⟨Or.inl (by unfold errT; rw [h, h']; rfl), patT_not h'⟩
    · exact Or.inl (by unfold errT; rw [h, h']; rfl)
theorem withT_len {b : List UInt8} (hb : b.length = 256) (k : Int) (l : List Int) : (withT b k l).length = 256 := layP_len _ hb
theorem withT_no {b : List UInt8} {k : Int} {l : List Int} (h : placeB k = false) : withT b k l = b := by
  unfold withT
  rw [patT_no h]
  exact layP_wrong rfl
theorem withT_not {b : List UInt8} {k : Int} {l : List Int} (h : mayI l = false) : withT b k l = b := by
  unfold withT
  rw [patT_not h]
  exact layP_wrong rfl
theorem withT_nat {b : List UInt8} {q : Nat} (hq : q < 8) {l : List Int} (hl : l.length = 11) (h : mayI l = true) : withT b (q : Int) l = splice b (32 * q) (putI l) := by
  unfold withT
  rw [patT_nat hq h]
  have hr : (⟨((32 * q : Nat) : Int), putI l⟩ : Pt).right = true := Pt.right_iff.2 ⟨by rw [putI_len hl]; omega, by rw [putI_len hl]; omega, by show (0 : Int) ≤ ((32 * q : Nat) : Int); omega, by rw [putI_len hl]; show ((32 * q : Nat) : Int) ≤ _; omega⟩
  unfold layP
  rw [hr]
  rfl
/-- 17.3: the place itself. -/
theorem rawT_same {b : List UInt8} (hb : b.length = 256) {q : Nat} (hq : q < 8) {l : List Int} (hl : l.length = 11) (h : mayI l = true) : rawT (withT b (q : Int) l) (q : Int) = putI l := by
  rw [withT_nat hq hl h, rawT_nat _ hq]
  apply List.ext_getElem?
  intro i
  have hp := putI_len hl
  by_cases hi : i < 32
  · rw [List.getElem?_take_of_lt hi, List.getElem?_drop, splice_get _ _ _ (by rw [hp, hb]; omega), if_pos (by rw [hp]; omega)]
    congr 1
    omega
  · rw [List.getElem?_eq_none (by rw [List.length_take]; omega), List.getElem?_eq_none (by rw [hp]; omega)]
/-- .. and any other one. -/
theorem rawT_other {b : List UInt8} (hb : b.length = 256) {q r : Nat} (hq : q < 8) (hr : r < 8) (hne : r ≠ q) {l : List Int} (hl : l.length = 11) : rawT (withT b (q : Int) l) (r : Int) = rawT b (r : Int) := by
  cases h : mayI l
  · rw [withT_not h]
  · rw [withT_nat hq hl h, rawT_nat _ hr, rawT_nat _ hr]
    apply List.ext_getElem?
    intro i
    have hp := putI_len hl
    by_cases hi : i < 32
    · rw [List.getElem?_take_of_lt hi, List.getElem?_take_of_lt hi, List.getElem?_drop, List.getElem?_drop, splice_get _ _ _ (by rw [hp, hb]; omega), if_neg (by rw [hp]; omega)]
    · rw [List.getElem?_eq_none (by rw [List.length_take]; omega), List.getElem?_eq_none (by rw [List.length_take]; omega)]
theorem getT_same {b : List UInt8} (hb : b.length = 256) {q : Nat} (hq : q < 8) {l : List Int} (hl : l.length = 11) (h : mayI l = true) : getT (withT b (q : Int) l) (q : Int) = some l := by
  rw [getT_nat _ hq, rawT_same hb hq hl h, clean_putI hl h]
theorem getT_other {b : List UInt8} (hb : b.length = 256) {q r : Nat} (hq : q < 8) (hr : r < 8) (hne : r ≠ q) {l : List Int} (hl : l.length = 11) : getT (withT b (q : Int) l) (r : Int) = getT b (r : Int) := by
  rw [getT_nat _ hr, getT_nat _ hr, rawT_other hb hq hr hne hl]
/-- Inodes are put in any order. -/
theorem withT_swap {b : List UInt8} (hb : b.length = 256) {q r : Nat} (hq : q < 8) (hr : r < 8) (hne : q ≠ r) {l m : List Int} (hl : l.length = 11) (hm : m.length = 11) (h : mayI l = true) (h' : mayI m = true) :
    withT (withT b (r : Int) m) (q : Int) l = withT (withT b (q : Int) l) (r : Int) m := by
  rw [withT_nat hq hl h, withT_nat hr hm h', withT_nat hr hm h', withT_nat hq hl h]
  have hp := putI_len hl
  have hp' := putI_len hm
  have g1 : (splice b (32 * r) (putI m)).length = 256 := by rw [splice_len _ _ _ (by rw [hp', hb]; omega), hb]
  have g2 : (splice b (32 * q) (putI l)).length = 256 := by rw [splice_len _ _ _ (by rw [hp, hb]; omega), hb]
  apply List.ext_getElem?
  intro i
  rw [splice_get _ _ _ (by rw [hp, g1]; omega), splice_get _ _ _ (by rw [hp', hb]; omega), splice_get _ _ _ (by rw [hp', g2]; omega), splice_get _ _ _ (by rw [hp, hb]; omega), hp, hp']
  by_cases c1 : 32 * q ≤ i ∧ i < 32 * q + 32
  · rw [if_pos c1, if_neg (by omega), if_pos c1]
  · rw [if_neg c1, if_neg c1]

/-! From the place 8 - m on. -/
def freeT (b : List UInt8) (q : Nat) : Bool := rawT b (q : Int) == zeros 32
/-- The first one of which f holds. -/
def fstT (f : Nat → Bool) : Nat → Nat × Bool
  | 0 => (0, false)
  | m + 1 => if f (7 - m) then (7 - m, true) else fstT f m
/-- Those of which it does not. -/
def usedT (f : Nat → Bool) : Nat → List Int
  | 0 => []
  | m + 1 => if f (7 - m) then usedT f m else (((7 - m : Nat)) : Int) :: usedT f m
/-- Does g hold of all? -/
def allT (g : Nat → Bool) : Nat → Bool
  | 0 => true
  | m + 1 => allT g m && g (7 - m)
theorem usedT_len (f : Nat → Bool) : ∀ m, (usedT f m).length ≤ m := by
  intro m
  induction m with
  | zero => exact Nat.le_refl _
  | succ m ih =>
    unfold usedT
    split
    · omega
    · rw [List.length_cons]; omega
theorem fstT_lt (f : Nat → Bool) : ∀ m, (fstT f m).1 < 8 := by
  intro m
  induction m with
  | zero => show 0 < 8; omega
  | succ m ih =>
    unfold fstT
    split
    · show 7 - m < 8; omega
    · exact ih
theorem at_up {m k : Nat} (h : m + k = 7) : 7 - m = k := by omega
theorem fstT_yes {f : Nat → Bool} {k : Nat} (hk : k < 8) (h : f k = true) : fstT f (8 - k) = (k, true) := by
  obtain ⟨m, hm⟩ : ∃ m, m + k = 7 := ⟨7 - k, by omega⟩
  rw [show 8 - k = m + 1 from by omega]
  unfold fstT
  rw [at_up hm, h]
  rfl
theorem fstT_no {f : Nat → Bool} {k : Nat} (hk : k < 8) (h : f k = false) : fstT f (8 - k) = fstT f (8 - (k + 1)) := by
  obtain ⟨m, hm⟩ : ∃ m, m + k = 7 := ⟨7 - k, by omega⟩
  rw [show 8 - k = m + 1 from by omega, show 8 - (k + 1) = m from by omega]
  show (if f (7 - m) then (7 - m, true) else fstT f m) = fstT f m
  rw [at_up hm, h]
  rfl
theorem usedT_yes {f : Nat → Bool} {k : Nat} (hk : k < 8) (h : f k = true) : usedT f (8 - k) = usedT f (8 - (k + 1)) := by
  obtain ⟨m, hm⟩ : ∃ m, m + k = 7 := ⟨7 - k, by omega⟩
  rw [show 8 - k = m + 1 from by omega, show 8 - (k + 1) = m from by omega]
  show (if f (7 - m) then usedT f m else (((7 - m : Nat)) : Int) :: usedT f m) = usedT f m
  rw [at_up hm, h]
  rfl
theorem usedT_no {f : Nat → Bool} {k : Nat} (hk : k < 8) (h : f k = false) : usedT f (8 - k) = (k : Int) :: usedT f (8 - (k + 1)) := by
  obtain ⟨m, hm⟩ : ∃ m, m + k = 7 := ⟨7 - k, by omega⟩
  rw [show 8 - k = m + 1 from by omega, show 8 - (k + 1) = m from by omega]
  show (if f (7 - m) then usedT f m else (((7 - m : Nat)) : Int) :: usedT f m) = (k : Int) :: usedT f m
  rw [at_up hm, h]
  rfl
theorem allT_at {g : Nat → Bool} {k : Nat} (hk : k < 8) : allT g (8 - k) = (allT g (8 - (k + 1)) && g k) := by
  obtain ⟨m, hm⟩ : ∃ m, m + k = 7 := ⟨7 - k, by omega⟩
  rw [show 8 - k = m + 1 from by omega, show 8 - (k + 1) = m from by omega]
  show (allT g m && g (7 - m)) = _
  rw [at_up hm]

end Go.Proofs.Ytpdeohmgjblkeaa
