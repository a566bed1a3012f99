/-
  Contracts of package disk: Write.
-/
import Derived.Test.YtefienjcdchebaaDsk3
namespace Go.Proofs.Ytefienjcdchebaa
open Go.RowKit

set_option maxHeartbeats 800000 in
theorem write_core (b g : Nat) (no E : Int) (z : List UInt8) (hz : z.length = 256) (X : World → Prop) (w : World)
    (hb : b < w.heap.size) (hg : g < w.heap.size)
    (HC : ∀ w3 x y v, Blk w3 x 24 #[.pointer (some ⟨b, 0, none⟩)] → Blk w3 y 3 #[.int .i64 no] → Blk w3 v 35 (bcells z) → Below w.heap.size w w3 → w.heap.size ≤ x → w.heap.size ≤ y → w.heap.size ≤ v →
      Calls Try.prog 24 #[.pointer (some ⟨b, 0, none⟩), .pointer (some ⟨b, 4, none⟩), .int .i64 no, .func (.func 26) #[] #[.pointer (some ⟨x, 0, none⟩), .pointer (some ⟨v, 0, none⟩), .pointer (some ⟨y, 0, none⟩)]] w3 fun e w' =>
        e = .returned (.int .i64 E) ∧ Turn w3 w' b g ∧ X w') :
    Calls Try.prog 22 #[.pointer (some ⟨b, 0, none⟩), .int .i64 no, .agg (bcells z)] w fun e w' => e = .returned (.int .i64 E) ∧ Turn w w' b g ∧ X w' := by
  have hmf : ∀ (fn : Fn) (first cap : Array Value) (w : World), (Instr.makeFunc fn first cap).run Try.prog w = .ok (.func fn first cap) w := fun _ _ _ _ => rfl
  have HLB := Lib.hid hz
  clear hz
  go_enter Try.func22, Try.ntmps22
  go_wp2_with (refine wpList_box_row rfl _ _ rfl _ rfl ?_)
  apply Stop.go; intro w1 Hg1 Hb1
  have Hx1 := ((Blk.new w 24 #[.pointer (some ⟨b, 0, none⟩)]).alloc (.cells #[.int .i64 no] 3)).ext Hg1.out.1
  have Hy1 := Lib.hid ((Blk.new2 w (.cells #[.pointer (some ⟨b, 0, none⟩)] 24) 3 #[.int .i64 no]).ext Hg1.out.1)
  have W1 := Lib.hid (bt (Below.two w (.cells #[.pointer (some ⟨b, 0, none⟩)] 24) (.cells #[.int .i64 no] 3)) Hg1.out.1)
  have c1 := Hx1.cell 0
  simp only [List.getElem?_toArray, List.getElem?_cons_zero] at c1
  have Hx3 := Lib.hid Hx1
  clear Hx1
  go_wp2_with fail
  refine WH.start (S := fun w' : World => Turn w1 w' b g) [false, false, false, false, false, false, false, false] 8 rfl rfl (by kernel_rfl) (Turn.drew w1 1 b g) (fun hSn => ?_)
  refine WH.take 0 _ _ rfl (by kernel_rfl) (fun _ _ _ h => h) rfl (by assumption) (fun w' hSw => exec_load_cell _ _ rfl _ rfl (.pointer (some ⟨b, 0, none⟩)) ((Hx3.out.turn hSw (by omega) (by omega)).cell 0) _ Try.underlying24 rfl) ?_; simp only [Act.put, List.setIfInBounds_toArray, List.set_cons_zero, List.set_cons_succ]
  refine WH.take 1 _ _ rfl (by kernel_rfl) (fun _ _ _ h => h) rfl (by assumption) (fun w' hSw => exec_load_cell _ _ rfl _ rfl (.pointer (some ⟨b, 0, none⟩)) ((Hx3.out.turn hSw (by omega) (by omega)).cell 0) _ Try.underlying24 rfl) ?_; simp only [Act.put, List.setIfInBounds_toArray, List.set_cons_zero, List.set_cons_succ]
  refine WH.take 2 _ ?_ rfl (by kernel_rfl) (fun _ _ _ h => h) rfl (by assumption) ?_ ?_; rotate_left; (focus (intro w hSw; (try dsimp only at hSw); (first | (go_simp; done) | (go_simp; with_reducible rfl)))); simp only [Act.put, List.setIfInBounds_toArray, List.set_cons_zero, List.set_cons_succ]
  refine WH.take 3 _ ?_ rfl (by kernel_rfl) (fun _ _ _ h => h) rfl (by assumption) ?_ ?_; rotate_left; (focus (intro w hSw; (try dsimp only at hSw); (first | (go_simp; done) | (go_simp; with_reducible rfl)))); simp only [Act.put, List.setIfInBounds_toArray, List.set_cons_zero, List.set_cons_succ]
  refine WH.take 4 _ _ rfl (by kernel_rfl) (fun _ _ _ h => h) rfl (by assumption) (fun w' hSw => exec_load_cell _ _ rfl _ rfl (.int .i64 no) ((Hy1.out.turn hSw (by omega) (by omega)).cell 0) _ Try.underlying3 rfl) ?_; simp only [Act.put, List.setIfInBounds_toArray, List.set_cons_zero, List.set_cons_succ]
  refine WH.only 5 _ rfl (by kernel_rfl) rfl (fun K hK => ?_)
  go_simp
  have hSn := hSn; refine hK _ _ hSn ?_; clear hK; clear K; simp only [List.set_cons_zero, List.set_cons_succ]
  refine WH.only 6 _ rfl (by kernel_rfl) rfl (fun K hK => ?_)
  go_simp; refine (HC (w1.drewN 1) w.heap.size (w.heap.size + 1) (w.heap.size + 1 + 1) (Hx3.out.ext (bdrew w1 1)) (Hy1.out.ext (bdrew w1 1)) ((by simpa using Hb1.out : Blk w1 (w.heap.size + 1 + 1) 35 (bcells z)).ext (bdrew w1 1)) (bt W1.out (bdrew w1 1)) (by omega) (by omega) (by omega)).mono ?_; rintro e w4 ⟨rfl, ht4, hx4⟩; go_simp
  have T4 := Lib.hid ((Turn.drew w1 1 b g).trans ht4)
  clear ht4
  have hSn := T4.out; refine hK _ _ hSn ?_; clear hK; clear K; simp only [List.set_cons_zero, List.set_cons_succ]
  refine WH.take 7 _ ?_ rfl (by kernel_rfl) (fun _ _ _ h => h) rfl (by assumption) ?_ ?_; rotate_left; (focus (intro w hSw; (try dsimp only at hSw); (first | (go_simp; done) | (go_simp; with_reducible rfl)))); simp only [Act.put, List.setIfInBounds_toArray, List.set_cons_zero, List.set_cons_succ]
  refine WH.done (by kernel_rfl) ?_
  go_wp2_with fail
  go_ret
  exact ⟨rfl, (Turn.of_below W1.out b g).trans T4.out, hx4⟩

/-- A device stands: its struct in block b, its blocks in block g. -/
structure DV (w : World) (b g : Nat) (d : Dev) : Prop where
  ds : DS w 56 b (.slice (some ⟨g, 0, none⟩) d.bl.length d.bl.length) d
  bks : Bks d.bl
  blk : Blk w g 35 (bcells d.bl.flatten)
  ne : b ≠ g
  len : d.bl.length ≤ 512
  fuse : d.fuse < 9223372036854775808
theorem DV.lt {w : World} {b g : Nat} {d : Dev} (h : DV w b g d) : b < w.heap.size ∧ g < w.heap.size := by
  obtain ⟨_, hb, _⟩ := h.ds
  exact ⟨hb.lt, h.blk.lt⟩
theorem DV.turn {w w' : World} {b g x y : Nat} {d : Dev} (h : DV w b g d) (k : Turn w w' x y) (h1 : b ≠ x) (h2 : b ≠ y) (h3 : g ≠ x) (h4 : g ≠ y) : DV w' b g d :=
  ⟨h.ds.turn k h1 h2, h.bks, h.blk.turn k h3 h4, h.ne, h.len, h.fuse⟩
theorem DV.ext {w w' : World} {b g : Nat} {d : Dev} (h : DV w b g d) (k : Below w.heap.size w w') : DV w' b g d :=
  ⟨h.ds.ext k, h.bks, h.blk.ext k, h.ne, h.len, h.fuse⟩

theorem Dev.write_ways (d : Dev) (no : Int) (z : List UInt8) : (d.write no z = d ∧ ((d.off = true ∧ d.writeE no = 12) ∨ (d.off = false ∧ no < 0 ∧ d.writeE no = 2) ∨ (d.off = false ∧ 0 ≤ no ∧ (d.bl.length : Int) ≤ no ∧ d.writeE no = 2))) ∨
    (d.off = false ∧ ∃ (i : Nat) (_ : i < d.bl.length), no = i ∧ ((d.fuse = 0 ∧ d.write no z = d.burnt ∧ d.writeE no = 12) ∨ (¬ d.fuse = 0 ∧ d.write no z = { d.burnt with bl := d.bl.set i z, wr := d.wr + 1 } ∧ d.writeE no = 0))) := by
  unfold Dev.write Dev.writeE
  cases ho : d.off
  · simp only [Bool.false_eq_true, if_false]
    by_cases h1 : 0 ≤ no
    · by_cases h2 : no < (d.bl.length : Int)
      · right
        have hh : d.has no = true := Dev.has_iff.2 ⟨h1, h2⟩
        obtain ⟨i, rfl⟩ := Int.eq_ofNat_of_zero_le h1
        refine ⟨by trivial, i, by omega, rfl, ?_⟩
        rw [hh]
        by_cases h0 : d.fuse = 0
        · left
          simp [h0, Dev.burnt]
        · right
          simp [h0, Dev.burnt, ho]
      · left
        have hh : d.has no = false := by
          cases h : d.has no
          · rfl
          · exact absurd (Dev.has_iff.1 h).2 h2
        rw [hh]
        simp
        omega
    · left
      have hh : d.has no = false := by
        cases h : d.has no
        · rfl
        · exact absurd (Dev.has_iff.1 h).1 h1
      rw [hh]
      simp
      omega
  · left
    simp

theorem Dev.burnt_bl (d : Dev) : d.burnt.bl = d.bl := by unfold Dev.burnt; split <;> rfl
theorem Dev.burnt_wr (d : Dev) : d.burnt.wr = d.wr ∧ d.burnt.rd = d.rd := by unfold Dev.burnt; split <;> exact ⟨rfl, rfl⟩
theorem Dev.burnt_fuse (d : Dev) (h : d.fuse < 9223372036854775808) : d.burnt.fuse < 9223372036854775808 := by
  unfold Dev.burnt
  split
  · exact h
  · simp only
    split <;> omega

set_option maxHeartbeats 400000 in
/-- Write. -/
theorem write_any (b g : Nat) (no : Int) (z : List UInt8) (hz : z.length = 256) (d : Dev) (w : World) (h : DV w b g d) (hwr : d.wr < 4611686018427387904) :
    Calls Try.prog 22 #[.pointer (some ⟨b, 0, none⟩), .int .i64 no, .agg (bcells z)] w fun e w' => e = .returned (.int .i64 (d.writeE no)) ∧ Turn w w' b g ∧ DV w' b g (d.write no z) := by
  obtain ⟨lb, lg⟩ := h.lt
  refine write_core b g no _ z hz (fun w' => DV w' b g (d.write no z)) w lb lg ?_
  intro w3 x y v hx hy hv hw gx gy gv
  have h3 : DV w3 b g d := ⟨(by obtain ⟨fz, hb, hq⟩ := h.ds; exact ⟨fz, hb.below hw hb.lt, hq⟩), h.bks, h.blk.below hw h.blk.lt, h.ne, h.len, h.fuse⟩
  have hlen := h.len
  obtain ⟨fz, hb3, hq⟩ := h3.ds
  rcases Dev.write_ways d no z with ⟨e1, e3⟩ | ⟨ho, i, hi, rfl, e3⟩
  · rw [e1]
    refine (counted_not b 4 no (d.writeE no) _ _ d.bl.length d.off (decide (0 ≤ d.fuse)) fz d.wr d.rd d.wr _ _ w3 rfl hb3 rfl (by omega) (by omega) e3).mono ?_
    rintro e w' ⟨rfl, hbw⟩
    exact ⟨rfl, Turn.of_below hbw b g, h3.ext hbw⟩
  · have hE : d.writeE i = if d.fuse = 0 then 12 else 0 := by
      rcases e3 with ⟨h0, _, e⟩ | ⟨h0, _, e⟩
      · rw [e, if_pos h0]
      · rw [e, if_neg h0]
    rw [hE]
    have hb3' := hb3
    rw [ho] at hb3'
    have hwr' : d.burnt.wr = d.wr := d.burnt_wr.1
    refine (counted_do b g 4 i d.bl.length d.bl.length 26 _ (decide (0 ≤ d.fuse)) fz d.wr d.rd d.wr (if d.fuse = 0 then 12 else 0) _ (fun cs => ∃ fz', cs = dcells (.slice (some ⟨g, 0, none⟩) d.bl.length d.bl.length) d.burnt.off (decide (0 ≤ d.burnt.fuse)) fz' d.wr d.rd ∧ (0 ≤ d.burnt.fuse → fz' = d.burnt.fuse)) (fun w' => Blk w' g 35 (bcells (if d.fuse = 0 then d.bl else d.bl.set i z).flatten)) w3 hb3' hi (by omega) (by omega) Try.enter26 h3.lt (fun cs h => by obtain ⟨fz', rfl, _⟩ := h; rfl) ?_ ?_).mono ?_
    · intro w4 hw4
      have h4 := h3.ext hw4
      have := h4.lt
      refine (wr1_any x y v b g _ _ _ d.bl.length i d z w4 (hx.ext hw4) (hy.ext hw4) (hv.ext hw4) hz h4.ds rfl h4.bks h4.blk hi (by unfold maxLen; omega) h4.fuse h4.ne (by omega) (by omega) (by omega) (by omega) (by omega) (by omega)).mono ?_
      rintro e w5 ⟨rfl, ht5, ⟨fz', hb5, hq5⟩, hg5⟩
      rw [hwr', d.burnt_wr.2] at hb5
      exact ⟨rfl, ht5, ⟨_, ⟨fz', rfl, hq5⟩, hb5⟩, hg5⟩
    · rintro w5 w6 q (rfl | hq6) ho5 hh
      · exact hh.only ho5 (Ne.symm h.ne)
      · exact hh.only ho5 (by have := h3.lt; omega)
    · rintro e w' ⟨rfl, ht, ⟨cs, ⟨fz', rfl, hq'⟩, hbw⟩, hg'⟩
      refine ⟨rfl, ht, ?_⟩
      rcases e3 with ⟨h0, e, _⟩ | ⟨h0, e, _⟩
      · rw [e]
        rw [if_pos h0] at hbw hg'
        unfold ticked at hbw
        rw [if_neg (by decide)] at hbw
        refine ⟨⟨fz', ?_, hq'⟩, by rw [d.burnt_bl]; exact h.bks, by rw [d.burnt_bl]; exact hg', h.ne, by rw [d.burnt_bl]; exact h.len, d.burnt_fuse h.fuse⟩
        rw [d.burnt_bl, hwr', d.burnt_wr.2]
        exact hbw
      · rw [e]
        rw [if_neg h0] at hbw hg'
        unfold ticked at hbw
        rw [if_pos rfl] at hbw
        refine ⟨⟨fz', ?_, hq'⟩, h.bks.set i hz, hg', h.ne, by simp; exact h.len, d.burnt_fuse h.fuse⟩
        simp only [List.length_set, d.burnt_wr.2]
        exact hbw

end Go.Proofs.Ytefienjcdchebaa
