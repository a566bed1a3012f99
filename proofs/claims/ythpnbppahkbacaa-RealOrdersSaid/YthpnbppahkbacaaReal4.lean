/-
  Contracts of Greatest, package real's and the document's.
-/
import Derived.Test.YthpnbppahkbacaaReal3
import Derived.Test.YthpnbppahkbacaaRealF
import Derived.BigQuiet
import Derived.Deep.QuietTactic
namespace Go.Proofs.Ythpnbppahkbacaa
open Go.RowKit

/-- Where the one at a place stands. -/
def keyAt (l : List Nat) (k : Nat) : Int := keyN (l.getD k 0)
theorem keyAt_get {l : List Nat} {k : Nat} (h : k < l.length) : keyAt l k = keyN l[k] := by simp [keyAt, List.getD, h]
/-- Of the first i, the first one behind which none stands. -/
structure Best (l : List Nat) (i a : Nat) : Prop where
  le : ∀ j, j < i → keyAt l j ≤ keyAt l a
  lt : ∀ j, j < a → keyAt l j < keyAt l a
/-- Of all, the first one behind which none stands; nought of none. -/
def Top (l : List Nat) (a : Nat) : Prop := (l.length = 0 ∧ a = 0) ∨ (a < l.length ∧ Best l l.length a)
theorem Top.uniq {l : List Nat} {a b : Nat} (h : Top l a) (k : Top l b) : a = b := by
  rcases h with ⟨h1, h2⟩ | ⟨h1, h2⟩ <;> rcases k with ⟨k1, k2⟩ | ⟨k1, k2⟩
  · omega
  · omega
  · omega
  · have e1 := h2.le b k1
    have e2 := k2.le a h1
    rcases Nat.lt_trichotomy a b with h | h | h
    · have := k2.lt a h; omega
    · exact h
    · have := h2.lt b h; omega
theorem Best.start (l : List Nat) : Best l 0 0 := ⟨fun j h => by omega, fun j h => by omega⟩
theorem Best.keep {l : List Nat} {i a : Nat} (h : Best l i a) (hk : keyAt l i ≤ keyAt l a) : Best l (i + 1) a :=
  ⟨fun j hj => if e : j = i then by rw [e]; exact hk else h.le j (by omega), h.lt⟩
theorem Best.turn {l : List Nat} {i a : Nat} (h : Best l i a) (hk : keyAt l a < keyAt l i) : Best l (i + 1) i :=
  ⟨fun j hj => if e : j = i then by rw [e]; exact Int.le_refl _ else by have := h.le j (by omega); omega, fun j hj => by have := h.le j (by omega); omega⟩
theorem best_all (l : List Nat) (i : Nat) : ∃ a, (a < i ∨ i = 0 ∧ a = 0) ∧ Best l i a := by
  induction i with
  | zero => exact ⟨0, Or.inr ⟨rfl, rfl⟩, Best.start l⟩
  | succ i ih =>
    obtain ⟨a, ha, hb⟩ := ih
    by_cases hk : keyAt l a < keyAt l i
    · exact ⟨i, Or.inl (by omega), hb.turn hk⟩
    · by_cases h0 : a < i
      · exact ⟨a, Or.inl (by omega), hb.keep (by omega)⟩
      · have h1 : i = 0 := by omega
        have h2 : a = 0 := by omega
        subst h1; subst h2
        exact ⟨0, Or.inl (by omega), hb.keep (Int.le_refl _)⟩
theorem top_ex (l : List Nat) : ∃ a, Top l a := by
  obtain ⟨a, ha, hb⟩ := best_all l l.length
  rcases ha with ha | ⟨h0, ha⟩
  · exact ⟨a, Or.inr ⟨ha, hb⟩⟩
  · exact ⟨0, Or.inl ⟨h0, rfl⟩⟩
theorem ordN_pos (x y : Nat) : decide (0 < ordN x y) = decide (keyN y < keyN x) := by
  unfold ordN cmpI
  rw [Bool.eq_iff_iff]
  simp only [decide_eq_true_eq]
  repeat' split
  all_goals omega
theorem ordN_nonpos (x y : Nat) : decide (ordN x y ≤ 0) = decide (keyN x ≤ keyN y) := by
  unfold ordN cmpI
  rw [Bool.eq_iff_iff]
  simp only [decide_eq_true_eq]
  repeat' split
  all_goals omega

set_option maxHeartbeats 2000000 in
theorem greatest_any (A : Option Addr) (n cap : Nat) (l : List Nat) (hn : l.length = n) (hm : n ≤ maxLen) (hl : ∀ x ∈ l, x < 18446744073709551616) (w : World) (hr : RC w A (fvals l)) :
    Calls Try.prog 16 #[.slice A n cap] w fun e w' => ∃ a, Top l a ∧ RetQ (.tuple #[.int .i64 (a : Nat), .bool (decide (0 < n))]) w e w' := by
  unfold maxLen at hm
  have Hn := Lib.hid hn
  have Hl := Lib.hid hl
  have Hr := Lib.hid hr
  clear hn hl hr
  go_enter Try.func16, Try.ntmps16
  go_wp2_with fail
  go_loopw [4, 8] (fun u i wr => ∃ k a : Nat, k ≤ n ∧ (a < k ∨ k = 0 ∧ a = 0) ∧ i = .int .i64 k ∧ u = .int .i64 a ∧ Best l k a ∧ ∃ m, wr = w.drewN m) (fun _ i _ => n - (intOf i).toNat)
  case atStart => exact ⟨0, 0, Nat.zero_le _, Or.inr ⟨rfl, rfl⟩, rfl, rfl, Best.start l, 0, rfl⟩
  case round =>
    obtain ⟨k, a, hk, ha, rfl, rfl, hb, m, rfl⟩ := hrel
    have HB := Lib.hid hb
    clear hb
    by_cases hlt : k < n
    · have d0 : decide ((k : Int) < n) = true := by simpa using hlt
      have hkl : k < l.length := by rw [Hn.out]; exact hlt
      have hal : a < l.length := by rw [Hn.out]; omega
      obtain ⟨ad, rfl, hc⟩ := Hr.out.flt k hkl
      obtain ⟨ad', e', hc'⟩ := Hr.out.flt a hal
      obtain rfl : ad = ad' := by simpa using e'
      have Hx := Lib.hid (Hl.out _ (List.getElem_mem hkl))
      have Hy := Lib.hid (Hl.out _ (List.getElem_mem hal))
      have Kx := Lib.hid (keyAt_get hkl)
      have Ky := Lib.hid (keyAt_get hal)
      generalize l[k] = x at *
      generalize l[a] = y at *
      have hki : (k : Int) < n := by omega
      have hai : (a : Int) < n := by omega
      have hc1 : (w.drewN m).cell? (ad.add k) = some (.float .f64 x) := hc
      have hc2 : (w.drewN m).cell? (ad.add a) = some (.float .f64 y) := hc'
      clear hc hc' e'
      generalize hw0 : w.drewN m = w0 at *
      have Hw0 := Lib.hid hw0
      clear hw0
      obtain ⟨c, Hc⟩ : ∃ c, Hid (ordN x y = c) := ⟨_, Lib.hid rfl⟩
      have HO : Hid (∀ W, Calls Try.prog 10 #[.float .f64 x, .float .f64 y] W fun e w' => e = .returned (.int .i64 c) ∧ w' = W) := Lib.hid fun W => by
        have h := order_any x y Hx.out Hy.out W
        rwa [Hc.out] at h
      obtain ⟨r, Hr1⟩ : ∃ r, Hid (decide (keyN y < keyN x) = r) := ⟨_, Lib.hid rfl⟩
      have hcr : decide (0 < c) = r := by rw [← Hc.out, ordN_pos]; exact Hr1.out
      cases r
      · go_wp2_with fail
        go_quiet ((go_at_call 10; exact Calls.quiet_of_same (HO.out _)))
        go_wp2_with fail
        go_roundw
        case rel => exact ⟨k + 1, a, by omega, by omega, by go_num, rfl, HB.out.keep (by rw [Kx.out, Ky.out]; have := Hr1.out; simp at this; exact this), m + nq, by rw [← Hw0.out, World.drewN_drewN]⟩
        case measure => simp [intOf]; omega
      · go_wp2_with fail
        go_quiet ((go_at_call 10; exact Calls.quiet_of_same (HO.out _)))
        go_wp2_with fail
        go_roundw
        case rel => exact ⟨k + 1, k, by omega, by omega, by go_num, rfl, HB.out.turn (by rw [Kx.out, Ky.out]; simpa using Hr1.out), m + nq, by rw [← Hw0.out, World.drewN_drewN]⟩
        case measure => simp [intOf]; omega
    · have d0 : decide ((k : Int) < n) = false := by simpa using hlt
      obtain rfl : k = n := by omega
      go_wp2_with fail
      go_ret2
      refine ⟨a, ?_, rfl, m, rfl⟩
      have h1 := HB.out
      rw [← Hn.out] at h1 ha
      rcases ha with ha | ⟨h0, ha⟩
      · exact Or.inr ⟨ha, h1⟩
      · exact Or.inl ⟨h0, ha⟩

/-- Does none of the first j stand behind the one at k? -/
def mostB (l : List Nat) (k j : Nat) : Bool := (List.range j).all fun i => decide (keyAt l i ≤ keyAt l k)
theorem mostB_zero (l : List Nat) (k : Nat) : mostB l k 0 = true := rfl
theorem mostB_next (l : List Nat) (k j : Nat) : mostB l k (j + 1) = (mostB l k j && decide (keyAt l j ≤ keyAt l k)) := by
  unfold mostB
  rw [List.range_succ, List.all_append]
  simp
theorem mostB_top {l : List Nat} {a : Nat} (h : Best l l.length a) : mostB l a l.length = true := by
  unfold mostB
  rw [List.all_eq_true]
  intro i hi
  simpa using h.le i (by simpa using hi)
theorem mostB_not {l : List Nat} {a k : Nat} (h : Best l l.length a) (ha : a < l.length) (hk : k < a) : mostB l k l.length = false := by
  rw [Bool.eq_false_iff]
  intro ht
  have h1 := (List.all_eq_true.1 ht) a (by simpa using ha)
  have h2 := h.lt k hk
  simp at h1
  omega

set_option maxHeartbeats 4000000 in
theorem rgreatest_any (A : Option Addr) (n cap : Nat) (l : List Nat) (hn : l.length = n) (hm : n ≤ maxLen) (hl : ∀ x ∈ l, x < 18446744073709551616) (a : Nat) (ha : Top l a) (w : World) (hr : RC w A (fvals l)) :
    Calls Try.prog 17 #[.slice A n cap] w (RetQ (.tuple #[.int .i64 (a : Nat), .bool (decide (0 < n))]) w) := by
  unfold maxLen at hm
  have Hn := Lib.hid hn
  have Hl := Lib.hid hl
  have Hr := Lib.hid hr
  have Ha := Lib.hid ha
  clear hn hl hr ha
  go_enter Try.func17, Try.ntmps17
  go_wp2_with fail
  go_loopw [4] (fun i wr => ∃ k : Nat, (k < n ∧ k ≤ a ∨ n = 0 ∧ k = 0) ∧ i = .int .i64 k ∧ ∃ m, wr = w.drewN m) (fun i _ => n - (intOf i).toNat)
  case atStart =>
    refine ⟨0, ?_, rfl, 0, rfl⟩
    have := Hn.out
    omega
  case round =>
    obtain ⟨k, hk, rfl, m, rfl⟩ := hrel
    rcases hk with ⟨hlt, hka⟩ | ⟨h0, hk0⟩
    · have d0 : decide ((k : Int) < n) = true := by simpa using hlt
      have dn : decide (0 < n) = true := by simp; omega
      have hkl : k < l.length := by rw [Hn.out]; exact hlt
      have hki : (k : Int) < n := by omega
      have hfin : Hid ((mostB l k n = true ∧ k = a) ∨ (mostB l k n = false ∧ k < a ∧ a < n)) := Lib.hid (by
        rcases Ha.out with ⟨h1, _⟩ | ⟨h1, h2⟩
        · omega
        · rw [← Hn.out]
          rcases Nat.lt_or_eq_of_le hka with h3 | h3
          · exact Or.inr ⟨mostB_not h2 h1 h3, h3, h1⟩
          · subst h3
            exact Or.inl ⟨mostB_top h2, rfl⟩)
      go_wp2_with fail
      go_loopw [5, 6] (fun u i wx => ∃ (j q : Nat), j ≤ n ∧ i = .int .i64 j ∧ u = .bool (mostB l k j) ∧ wx = w.drewN q) (fun _ i _ => n - (intOf i).toNat)
      case atStart => exact ⟨0, m, Nat.zero_le _, rfl, rfl, rfl⟩
      case round =>
        obtain ⟨j, q, hj, rfl, rfl, rfl⟩ := hrel
        by_cases hjn : j < n
        · have d1 : decide ((j : Int) < n) = true := by simpa using hjn
          have hjl : j < l.length := by rw [Hn.out]; exact hjn
          obtain ⟨ad, rfl, hc⟩ := Hr.out.flt k hkl
          obtain ⟨ad', e', hc'⟩ := Hr.out.flt j hjl
          obtain rfl : ad = ad' := by simpa using e'
          have Hx := Lib.hid (Hl.out _ (List.getElem_mem hkl))
          have Hy := Lib.hid (Hl.out _ (List.getElem_mem hjl))
          have Kx := Lib.hid (keyAt_get hkl)
          have Ky := Lib.hid (keyAt_get hjl)
          generalize l[k] = x at *
          generalize l[j] = y at *
          have hji : (j : Int) < n := by omega
          have hc1 : (w.drewN q).cell? (ad.add k) = some (.float .f64 x) := hc
          have hc2 : (w.drewN q).cell? (ad.add j) = some (.float .f64 y) := hc'
          clear hc hc' e'
          generalize hw0 : w.drewN q = w0 at *
          have Hw0 := Lib.hid hw0
          clear hw0
          obtain ⟨c, Hc⟩ : ∃ c, Hid (ordN y x = c) := ⟨_, Lib.hid rfl⟩
          have HO : Hid (∀ W, Calls Try.prog 11 #[.float .f64 y, .float .f64 x] W (RetQ (.int .i64 c) W)) := Lib.hid fun W => by
            have h := rorder_any y x Hy.out Hx.out W
            rwa [Hc.out] at h
          obtain ⟨r, Hr1⟩ : ∃ r, Hid (decide (keyN y ≤ keyN x) = r) := ⟨_, Lib.hid rfl⟩
          have hcr : decide (c ≤ 0) = r := by rw [← Hc.out, ordN_nonpos]; exact Hr1.out
          have HN := Lib.hid (mostB_next l k j)
          rw [Kx.out, Ky.out, Hr1.out] at HN
          generalize mostB l k j = b at *
          cases b
          · go_wp2_with fail
            go_quiet (fail)
            go_wp2_with fail
            go_roundw
            case rel => exact ⟨j + 1, q + nq, by omega, by go_num, by rw [HN.out]; rfl, by rw [← Hw0.out, World.drewN_drewN]⟩
            case measure => simp [intOf]; omega
          · go_wp2_with fail
            go_quiet ((go_at_call 11; exact Calls.quiet_of (HO.out _)))
            go_wp2_with fail
            go_roundw
            case rel => exact ⟨j + 1, q + nq, by omega, by go_num, by rw [HN.out]; simp, by rw [← Hw0.out, World.drewN_drewN]⟩
            case measure => simp [intOf]; omega
        · have d1 : decide ((j : Int) < n) = false := by simpa using hjn
          obtain rfl : j = n := by omega
          rcases hfin.out with ⟨hE, hE2⟩ | ⟨hE, hE2, hE3⟩
          · rw [hE]
            have HE := Lib.hid hE2
            clear hE hE2 hfin
            go_wp2_with fail
            go_ret2
            refine ⟨?_, q, rfl⟩
            rw [HE.out, dn]
            rfl
          · rw [hE]
            have HE := Lib.hid (show k + 1 < j ∧ k + 1 ≤ a ∨ j = 0 ∧ k + 1 = 0 by omega)
            clear hE hE2 hE3 hfin
            go_wp2_with fail
            go_roundw
            case rel => exact ⟨k + 1, HE.out, by go_num, q, rfl⟩
            case measure => simp [intOf]; omega
    · have ea : a = 0 := by
        rcases Ha.out with ⟨_, h2⟩ | ⟨h1, _⟩
        · exact h2
        · have := Hn.out; omega
      have Ea := Lib.hid ea
      clear ea
      subst h0; subst hk0
      go_wp2_with fail
      go_ret2
      refine ⟨?_, m, rfl⟩
      rw [Ea.out]
      rfl

end Go.Proofs.Ythpnbppahkbacaa
