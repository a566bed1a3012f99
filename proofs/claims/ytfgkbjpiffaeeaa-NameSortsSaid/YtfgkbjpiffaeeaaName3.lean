/-
  Contracts of package name's Sort and Place, by the library's contracts.
-/
import Derived.Test.YtfgkbjpiffaeeaaShelf
import Derived.Test.YtfgkbjpiffaeeaaName3A
import Derived.Test.YtfgkbjpiffaeeaaStr
import Derived.Sort.OwnSorted
import Derived.Sort.Grow
import Derived.Lib.OwnBridge
namespace Go.Proofs.Ytfgkbjpiffaeeaa
open Go.RowKit Go.Shelf Go.Sort

/-- What the three calls of the library leave. -/
theorem sorted_own {w w1 : World} {g cap n nn q : Nat} {os : Array Obj} {ss : List (List UInt8)} (hown : w1.ownsRow w.heap.size 9 1 (.slice (some ⟨g, 0, none⟩) n cap) n (ss.map encStr)) (hbel : Below w.heap.size w w1) (hbg : w.heap.size ≤ g) (hlen : ss.length = n) :
    (putRow encStr (Sort.ahead (grow (putRow encStr (Sort.ahead w1 nn) g 0 (ss.mergeSort fun x y => decide (x ≤ y)).toArray) os) q) g 0 (sortL ss ++ List.replicate (n - (sortL ss).length) []).toArray).ownsRow w.heap.size 9 1 (.slice (some ⟨g, 0, none⟩) (sortL ss).length cap) (sortL ss).length ((sortL ss).map encStr) ∧
    Below w.heap.size w (putRow encStr (Sort.ahead (grow (putRow encStr (Sort.ahead w1 nn) g 0 (ss.mergeSort fun x y => decide (x ≤ y)).toArray) os) q) g 0 (sortL ss ++ List.replicate (n - (sortL ss).length) []).toArray) := by
  have hl2 : (ss.mergeSort fun x y => decide (x ≤ y)).length = ss.length := List.length_mergeSort ss
  have hle : (sortL ss).length ≤ (ss.mergeSort fun x y => decide (x ≤ y)).length := Lib.compact_length_le _
  subst hlen
  rcases hown.2 with ⟨h0, _⟩ | ⟨g', cap', cur, hv, hbase, hb, h1, h2, h3, h4⟩
  · cases h0
  cases hv
  have hs := ownsRow_sorted (n := nn) (os := os) (ts := ss.mergeSort fun x y => decide (x ≤ y)) hl2 hbase hb h1 h2 h3
  have hc := Lib.ownsRow_putRow (q := q) (k := (sortL ss).length) (ys := sortL ss ++ List.replicate (ss.length - (sortL ss).length) []) hs (by simp; omega) (by omega)
  rw [List.take_left] at hc
  exact ⟨hc, Lib.below_putRow (hbel.grown (grownBy_sorted _) hbel.size (fun j hj => by cases hj; exact hbase)) hbg⟩

set_option maxHeartbeats 2000000 in
/-- Whatever the argument is, if a copy of it is a list of the call's own. -/
theorem nsort_tail (n : Nat) (arg : Value) (ss : List (List UInt8)) (w : World) (hn : n ≤ 4611686018427387903)
    (hclone : Calls Try.prog 27 #[arg] w fun e w' => ∃ v', e = .returned v' ∧ w'.ownsRow w.heap.size 9 1 v' n (ss.map encStr) ∧ v' ≠ .slice none 0 0 ∧ Below w.heap.size w w') :
    Calls Try.prog 16 #[arg] w fun e w' => ∃ u, e = .returned u ∧ w'.ownsRow w.heap.size 9 1 u (sortL ss).length ((sortL ss).map encStr) ∧ Below w.heap.size w w' := by
  go_enter Try.func16, Try.ntmps16
  go_wp2_with fail
  refine (hclone).mono ?_; rintro e w1 ⟨v1, rfl, hown, hnn, hbel⟩
  obtain ⟨g, cap, rfl, hbg, hgl, hncap, hcm, hlen, hH⟩ := Lib.holds_of_ownsRow hown hnn
  have hsort := Any.slices_Sort_string laysSort g 0 cap ss w1 hH hgl (by omega)
  rw [hlen] at hsort
  have X := Lib.hid (And.intro hown (And.intro hbel hH))
  clear hown hbel hH hnn
  go_wp2_with fail
  refine (hsort).mono ?_; rintro e w2 ⟨rfl, nn, os, rfl⟩
  clear hsort
  have hl2 : (ss.mergeSort fun x y => decide (x ≤ y)).length = n := by rw [List.length_mergeSort]; exact hlen
  have hH2 : Holds encStr (grow (putRow encStr (Sort.ahead w1 nn) g 0 (ss.mergeSort fun x y => decide (x ≤ y)).toArray) os) g 0 (ss.mergeSort fun x y => decide (x ≤ y)).toArray :=
    holds_grow encStr _ os g 0 _ (by simpa [putRow, mapBlock, Sort.ahead] using hgl) (holds_putRow encStr _ g 0 _ _ (holds_ahead encStr w1 nn g 0 _ X.out.2.2) (by simp))
  have hcomp := Any.slices_Compact_string laysCompact g 0 cap (ss.mergeSort fun x y => decide (x ≤ y)) _ hH2 (by omega) (by omega)
  rw [hl2] at hcomp
  have Hfin : Hid (∀ q, _) := Lib.hid fun q => sorted_own (q := q) (nn := nn) (os := os) X.out.1 X.out.2.1 hbg hlen
  clear hH2
  generalize grow (putRow encStr (Sort.ahead w1 nn) g 0 (ss.mergeSort fun x y => decide (x ≤ y)).toArray) os = w2 at *
  go_wp2_with fail
  refine (hcomp).mono ?_; rintro e w3 ⟨rfl, q, rfl⟩
  go_wp2_with fail
  go_ret
  exact ⟨_, rfl, (Hfin.out q).1, (Hfin.out q).2⟩

theorem own_of_sortL {w : World} {B : Nat} {u : Value} {l : List ByteArray} (h : w.ownsRow B 9 1 u (sortL (l.map (·.data.toList))).length ((sortL (l.map (·.data.toList))).map encStr)) : OwnC w B 9 u (svals (sortS l)) := by
  unfold OwnC
  rw [svals_sortS, List.length_map]
  exact h
theorem sortS_nil : sortS [] = [] := List.eq_nil_of_length_eq_zero (Nat.le_zero.1 (sortS_len []))
set_option maxHeartbeats 2000000 in
theorem nsort_any (A : Option Addr) (n cap : Nat) (l : List ByteArray) (hn : l.length = n) (hm : n ≤ 1000) (w : World) (hr : RC w A (svals l)) :
    Calls Try.prog 16 #[.slice A n cap] w fun e w' => ∃ u, e = .returned u ∧ OwnC w' w.heap.size 9 u (svals (sortS l)) ∧ Below w.heap.size w w' := by
  subst hn
  cases A with
  | none =>
    have h0 : l = [] := by
      cases l with
      | nil => rfl
      | cons x l =>
        obtain ⟨ad, e, _⟩ := hr.str 0 (by simp)
        cases e
    subst h0
    rw [sortS_nil]
    go_enter Try.func16, Try.ntmps16
    go_wp2_with fail
    refine (Any.slices_Clone_string_nil laysClone 0 cap w).mono ?_; rintro e wx ⟨rfl, rfl⟩
    go_wp2_with fail
    refine (Any.slices_Sort_string_none laysSort none 0 _).mono ?_; rintro e wx ⟨rfl, rfl⟩
    go_wp2_with fail
    refine (Any.slices_Compact_string_empty laysCompact none 0 _).mono ?_; rintro e wx ⟨rfl, rfl⟩
    go_wp2_with fail
    go_ret
    exact ⟨_, rfl, OwnC.nil_ _ _ _, Below.refl _ _⟩
  | some a =>
    by_cases h0 : l = []
    · subst h0
      refine (nsort_tail 0 _ [] w (by omega) (Any.slices_Clone_string_zero laysClone a cap w)).mono fun e w' ⟨u, he, ho, hb⟩ => ⟨u, he, own_of_sortL (l := []) ho, hb⟩
    · have hpos : 0 < l.length := List.length_pos_iff.2 h0
      obtain ⟨b, off, spot⟩ := a
      obtain ⟨ad, e, hc0⟩ := hr.str 0 hpos
      injection e with e
      subst e
      have hspot : spot = none := by simpa [Addr.add] using World.cell?_spot hc0
      subst hspot
      refine (nsort_tail l.length _ (l.map (·.data.toList)) w (by omega) ?_).mono fun e w' ⟨u, he, ho, hb⟩ => ⟨u, he, own_of_sortL ho, hb⟩
      refine (Any.slices_Clone_string laysClone b off l.length cap l w (Nat.le_refl _) (by omega) fun j hj => ?_).mono fun e w' ⟨v, he, ho, hv, hb⟩ => ⟨v, he, ?_, hv, hb⟩
      · obtain ⟨ad', e', hc⟩ := hr.str j hj
        injection e' with e'
        subst e'
        rw [WideShapes.add_plain] at hc
        rw [hc]
        simp [List.getD, hj]
      · rw [Lib.map_encStr]
        rw [List.take_of_length_le (Nat.le_refl _)] at ho
        exact ho

set_option maxHeartbeats 2000000 in
theorem place_any (A : Option Addr) (n cap : Nat) (l : List ByteArray) (hn : l.length = n) (hm : n ≤ 1000) (s : ByteArray) (w : World) (hr : RC w A (svals l)) :
    Calls Try.prog 17 #[.slice A n cap, .string s] w (RetQ (.tuple #[.int .i64 (placeN l s : Nat), .bool (placeB l s)]) w) := by
  subst hn
  by_cases h0 : l = []
  · subst h0
    have HP : Hid (placeN [] s = 0 ∧ placeB [] s = false) := Lib.hid ⟨rfl, by unfold placeB; simp⟩
    go_enter Try.func17, Try.ntmps17
    go_wp2_with fail
    refine (Any2.slices_BinarySearch_string_empty laysSearch A cap s w).mono ?_; rintro e wx ⟨rfl, rfl⟩
    go_wp2_with fail
    go_ret2
    rw [HP.out.1, HP.out.2]
    exact ⟨rfl, 0, rfl⟩
  · have hpos : 0 < l.length := List.length_pos_iff.2 h0
    obtain ⟨ad, rfl, hc0⟩ := hr.str 0 hpos
    obtain ⟨b, off, spot⟩ := ad
    have hspot : spot = none := by simpa [Addr.add] using World.cell?_spot hc0
    subst hspot
    have hcall := Any2.slices_BinarySearch_string laysSearch b off l.length cap (fun j => l.getD j s) s w (by omega) fun j hj => by
      obtain ⟨ad', e', hc⟩ := hr.str j hj
      injection e' with e'
      subst e'
      rw [WideShapes.add_plain] at hc
      rw [hc]
      simp [List.getD, hj]
    have hcall' : Calls Try.prog 30 #[.slice (some ⟨b, off, none⟩) l.length cap, .string s] w fun e w' => e = .returned (.tuple #[.int .i64 (placeN l s : Nat), .bool (placeB l s)]) ∧ ∃ q, w' = w.drewN q := hcall
    clear hcall
    generalize placeN l s = P at *
    generalize placeB l s = B at *
    go_enter Try.func17, Try.ntmps17
    go_wp2_with fail
    refine (hcall').mono ?_; rintro e w2 ⟨rfl, q, rfl⟩
    go_wp2_with fail
    go_ret2
    exact ⟨rfl, q, rfl⟩

end Go.Proofs.Ytfgkbjpiffaeeaa
