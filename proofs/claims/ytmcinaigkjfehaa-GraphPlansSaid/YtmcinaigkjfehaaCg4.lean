/-
  Contracts of package ready's waitsFor, Waits.
-/
import Derived.Test.YtmcinaigkjfehaaCg3
import Derived.Test.YtmcinaigkjfehaaShelf
namespace Go.Proofs.Ytmcinaigkjfehaa
open Go.RowKit Go.Shelf

theorem riseN_le {e b : Int} {l : List Int} (h : riseN e b l = true) : l.Pairwise (· ≤ ·) ∧ ∀ x ∈ l, b < x ∧ x < e := by
  induction l generalizing b with
  | nil => exact ⟨List.Pairwise.nil, by simp⟩
  | cons x l ih =>
    obtain ⟨h1, h2, h3⟩ := riseN_cons.1 h
    obtain ⟨h4, h5⟩ := ih h3
    refine ⟨List.pairwise_cons.2 ⟨fun a ha => by have := (h5 a ha).1; omega, h4⟩, fun y hy => ?_⟩
    rcases List.mem_cons.1 hy with rfl | hy
    · exact ⟨h1, h2⟩
    · have := h5 y hy
      omega
/-- Whether a number is one of those that rise. -/
theorem bsi_any (A : Option Addr) (n c : Nat) (l : List Int) (hn : l.length = n) (hm : n ≤ 4096) (hs : l.Pairwise (· ≤ ·)) (x : Int) (w : World) (hr : RC w A (ivals l)) :
    Calls Try.prog 66 #[.slice A n c, .int .i64 x] w fun e w' => ∃ p : Int, e = .returned (.tuple #[.int .i64 p, .bool (l.contains x)]) ∧ Below w.heap.size w w' := by
  subst hn
  by_cases h0 : l = []
  · subst h0
    refine (Any.slices_BinarySearch_int_empty laysSearch A c x w).mono ?_
    rintro _ _ ⟨rfl, rfl⟩
    exact ⟨0, rfl, Below.refl _ _⟩
  · have hpos : 0 < l.length := List.length_pos_iff.2 h0
    obtain ⟨ad, rfl, hc0⟩ := hr.int 0 hpos
    obtain ⟨b, off, spot⟩ := ad
    have hspot : spot = none := by simpa [Addr.add] using World.cell?_spot hc0
    subst hspot
    refine (Any.slices_BinarySearch_int laysSearch b off l.length c l x w (Nat.le_refl _) (by omega) (fun j hj => ?_) (by rw [List.take_length]; exact hs)).mono ?_
    · obtain ⟨ad', e', hc⟩ := hr.int j hj
      injection e' with e'
      subst e'
      rw [WideShapes.add_plain] at hc
      rw [hc]
      simp [List.getD, hj]
    · rintro _ _ ⟨rfl, q, rfl⟩
      rw [List.take_length]
      exact ⟨_, rfl, bdrew w q⟩
theorem meetP_symm (p q : Pt) : meetP p q = meetP q p := by
  unfold meetP
  congr 1
  funext i
  exact Bool.and_comm _ _

set_option maxRecDepth 100000 in
set_option maxHeartbeats 1600000 in
/-- Does it wait for one that is ahead? -/
theorem wfor_any (c : Cg) (Ad : Option Addr) (nd cd : Nat) (An : Option Addr) (nn cn : Nat) (d : Cg) (Ae : Option Addr) (ne ce : Nat) (Am : Option Addr) (nm cm : Nat) (w : World) (hc : CV w c Ad nd cd An nn cn) (hd : CV w d Ae ne ce Am nm cm) (hN : nn ≤ 4096) (hs : c.needs.Pairwise (· ≤ ·)) :
    Calls Try.prog 51 #[.agg #[.int .i64 c.id, .int .i64 c.block, .int .i64 c.p.at_, .slice Ad nd cd, .slice An nn cn], .agg #[.int .i64 d.id, .int .i64 d.block, .int .i64 d.p.at_, .slice Ae ne ce, .slice Am nm cm]] w fun e w' => e = .returned (.bool (keepsB d c)) ∧ Below w.heap.size w w' := by
  have Hc := Lib.hid hc
  have Hd := Lib.hid hd
  have Hs := Lib.hid hs
  have Hk := Lib.hid (show keepsB d c = ((decide (d.block = c.block) && meetP d.p c.p) || c.needs.contains d.id) from rfl)
  clear hc hd hs
  generalize keepsB d c = K at *
  go_enter Try.func51, Try.ntmps51
  go_wp2_with (refine wpList_box_row rfl _ _ rfl _ rfl ?_)
  apply Stop.go; intro w1 Hg1 Hb1
  go_wp2_with (refine wpList_box_row rfl _ _ rfl _ rfl ?_)
  apply Stop.go; intro w2 Hg2 Hb2
  have Hw2 := Lib.hid (bt Hg1.out.1 Hg2.out.1)
  have Hx2 := Lib.hid (Hb1.out.ext Hg2.out.1)
  have c4 : w2.cell? ⟨w.heap.size, 4, none⟩ = some (.slice An nn cn) := Hx2.out.five.2.2.2.2.1
  have c0 : w2.cell? ⟨w1.heap.size, 0, none⟩ = some (.int .i64 d.id) := Hb2.out.five.1
  go_wp2_with fail
  refine (bsi_any An nn cn c.needs Hc.out.len hN Hs.out d.id _ (Hc.out.read.below Hw2.out)).mono ?_; rintro e w3 ⟨p, rfl, hb3⟩
  have Hb3 := Lib.hid hb3
  clear hb3 c4 c0
  cases hin : c.needs.contains d.id
  · have Hi := Lib.hid hin
    clear hin
    have c1 : w3.cell? ⟨w.heap.size, 1, none⟩ = some (.int .i64 c.block) := (Hx2.out.ext Hb3.out).five.2.1
    have c2 : w3.cell? ⟨w1.heap.size, 1, none⟩ = some (.int .i64 d.block) := (Hb2.out.ext Hb3.out).five.2.1
    by_cases hbl : c.block = d.block
    · have e1 : (c.block == d.block) = true := by simpa using hbl
      have HB := Lib.hid hbl
      clear hbl
      go_wp2_with (first | refine wpList_load_pair rfl _ _ rfl ⟨w.heap.size, 2, none⟩ rfl (.int .i64 c.p.at_) (.slice Ad nd cd) (Hx2.out.ext Hb3.out).five.2.2.1 (Hx2.out.ext Hb3.out).five.2.2.2.2.2 _ Try.underlying48 Try.patchSize ?_ | refine wpList_load_pair rfl _ _ rfl ⟨w1.heap.size, 2, none⟩ rfl (.int .i64 d.p.at_) (.slice Ae ne ce) (Hb2.out.ext Hb3.out).five.2.2.1 (Hb2.out.ext Hb3.out).five.2.2.2.2.2 _ Try.underlying48 Try.patchSize ?_)
      refine (meet_any c.p Ad nd cd d.p Ae ne ce _ (Hc.out.p.below (bt Hw2.out Hb3.out)) (Hd.out.p.below (bt Hw2.out Hb3.out))).mono ?_; rintro e w4 ⟨rfl, hb4⟩
      have Hb4 := Lib.hid hb4
      have Hm := Lib.hid (meetP_symm d.p c.p)
      clear hb4
      generalize meetP c.p d.p = m at *
      go_wp2_with fail
      go_ret
      rw [Hk.out, Hi.out, Hm.out, decide_eq_true HB.out.symm]
      exact ⟨by cases m <;> rfl, bt Hw2.out (bt Hb3.out Hb4.out)⟩
    · have e1 : (c.block == d.block) = false := by simpa using hbl
      have HB := Lib.hid hbl
      clear hbl
      go_wp2_with fail
      go_ret
      rw [Hk.out, Hi.out, decide_eq_false (fun h => HB.out h.symm)]
      exact ⟨rfl, bt Hw2.out Hb3.out⟩
  · have Hi := Lib.hid hin
    clear hin
    go_wp2_with fail
    go_ret
    rw [Hk.out, Hi.out]
    exact ⟨by simp, bt Hw2.out Hb3.out⟩

end Go.Proofs.Ytmcinaigkjfehaa
