/-
  Contracts of package disk: Read.
-/
import Derived.Test.YtefienjcdchebaaDsk2
namespace Go.Proofs.Ytefienjcdchebaa
open Go.RowKit

theorem Try.enter25 (args : Array Value) (w : World) : (callFunc 25 args).run Try.prog w = .ok (.enter 25 args) w := by
  simp [go_sem]
theorem Try.enter26 (args : Array Value) (w : World) : (callFunc 26 args).run Try.prog w = .ok (.enter 26 args) w := by
  simp [go_sem]

set_option maxHeartbeats 800000 in
theorem read_core (b : Nat) (no E : Int) (B : List UInt8) (hB : B.length = 256) (X : World → Prop) (w : World)
    (hb : b < w.heap.size) (hX : ∀ w2 w3 x, w.heap.size ≤ x → Only w2 w3 x → X w2 → X w3)
    (HC : ∀ w3 x y v, Blk w3 x 24 #[.pointer (some ⟨b, 0, none⟩)] → Blk w3 y 3 #[.int .i64 no] → Blk w3 v 35 (bcells (zeros 256)) → Below w.heap.size w w3 → w.heap.size ≤ x → w.heap.size ≤ y → w.heap.size ≤ v → x ≠ v → y ≠ v →
      Calls Try.prog 24 #[.pointer (some ⟨b, 0, none⟩), .pointer (some ⟨b, 5, none⟩), .int .i64 no, .func (.func 25) #[] #[.pointer (some ⟨x, 0, none⟩), .pointer (some ⟨y, 0, none⟩), .pointer (some ⟨v, 0, none⟩)]] w3 fun e w' =>
        e = .returned (.int .i64 E) ∧ Turn w3 w' b v ∧ Blk w' v 35 (bcells B) ∧ X w') :
    Calls Try.prog 19 #[.pointer (some ⟨b, 0, none⟩), .int .i64 no] w fun e w' => e = .returned (.tuple #[.agg (bcells B), .int .i64 E]) ∧ Turn w w' b b ∧ X w' := by
  have hmf : ∀ (fn : Fn) (first cap : Array Value) (w : World), (Instr.makeFunc fn first cap).run Try.prog w = .ok (.func fn first cap) w := fun _ _ _ _ => rfl
  have HLB := Lib.hid hB
  clear hB
  go_enter Try.func19, Try.ntmps19
  go_wp2_with (refine wpList_alloc_row rfl _ rfl _ Try.blockZero ?_)
  apply Stop.go; intro w1 Hg1 Hb1
  have Hx1 := ((Blk.new w 24 #[.pointer (some ⟨b, 0, none⟩)]).alloc (.cells #[.int .i64 no] 3)).ext Hg1.out.1
  have Hy1 := (Blk.new2 w (.cells #[.pointer (some ⟨b, 0, none⟩)] 24) 3 #[.int .i64 no]).ext Hg1.out.1
  have W1 := bt (Below.two w (.cells #[.pointer (some ⟨b, 0, none⟩)] 24) (.cells #[.int .i64 no] 3)) Hg1.out.1
  have c1 := Hx1.cell 0
  simp only [List.getElem?_toArray, List.getElem?_cons_zero] at c1
  go_wp2_with (refine wpList_alloc_row rfl _ rfl _ Try.blockZero ?_)
  apply Stop.go; intro w3 Hg3 Hb3
  have Hx3 := Lib.hid (Hx1.ext Hg3.out.1)
  have Hy3 := Lib.hid (Hy1.ext Hg3.out.1)
  have Hr3 := Lib.hid (Hb1.out.ext Hg3.out.1)
  have W3 := Lib.hid (bt W1 Hg3.out.1)
  have L1 := Hb1.out.lt
  clear c1 Hx1 Hy1 W1
  obtain ⟨v, Hv⟩ : ∃ v, Hid (w1.heap.size = v) := ⟨_, Lib.hid rfl⟩
  rw [Hv.out] at Hb3 L1 ⊢
  go_wp2_with fail
  refine WH.start (S := fun w' : World => Turn w3 w' b v) [false, false, false, false, false, false, false, false] 8 rfl rfl (by kernel_rfl) (Turn.drew w3 1 b v) (fun hSn => ?_)
  refine WH.take 0 _ _ rfl (by kernel_rfl) (fun _ _ _ h => h) rfl (by assumption) (fun w' hSw => exec_load_cell _ _ rfl _ rfl (.pointer (some ⟨b, 0, none⟩)) ((Hx3.out.turn hSw (by omega) (by omega)).cell 0) _ Try.underlying24 rfl) ?_; simp only [Act.put, List.setIfInBounds_toArray, List.set_cons_zero, List.set_cons_succ]
  refine WH.take 1 _ _ rfl (by kernel_rfl) (fun _ _ _ h => h) rfl (by assumption) (fun w' hSw => exec_load_cell _ _ rfl _ rfl (.pointer (some ⟨b, 0, none⟩)) ((Hx3.out.turn hSw (by omega) (by omega)).cell 0) _ Try.underlying24 rfl) ?_; simp only [Act.put, List.setIfInBounds_toArray, List.set_cons_zero, List.set_cons_succ]
  refine WH.take 2 _ ?_ rfl (by kernel_rfl) (fun _ _ _ h => h) rfl (by assumption) ?_ ?_; rotate_left; (focus (intro w hSw; (try dsimp only at hSw); (first | (go_simp; done) | (go_simp; with_reducible rfl)))); simp only [Act.put, List.setIfInBounds_toArray, List.set_cons_zero, List.set_cons_succ]
  refine WH.take 3 _ ?_ rfl (by kernel_rfl) (fun _ _ _ h => h) rfl (by assumption) ?_ ?_; rotate_left; (focus (intro w hSw; (try dsimp only at hSw); (first | (go_simp; done) | (go_simp; with_reducible rfl)))); simp only [Act.put, List.setIfInBounds_toArray, List.set_cons_zero, List.set_cons_succ]
  refine WH.take 4 _ _ rfl (by kernel_rfl) (fun _ _ _ h => h) rfl (by assumption) (fun w' hSw => exec_load_cell _ _ rfl _ rfl (.int .i64 no) ((Hy3.out.turn hSw (by omega) (by omega)).cell 0) _ Try.underlying3 rfl) ?_; simp only [Act.put, List.setIfInBounds_toArray, List.set_cons_zero, List.set_cons_succ]
  refine WH.only 5 _ rfl (by kernel_rfl) rfl (fun K hK => ?_)
  go_simp
  have hSn := hSn; refine hK _ _ hSn ?_; clear hK; clear K; simp only [List.set_cons_zero, List.set_cons_succ]
  refine WH.only 6 _ rfl (by kernel_rfl) rfl (fun K hK => ?_)
  go_simp; refine (HC (w3.drewN 1) w.heap.size (w.heap.size + 1) v (Hx3.out.ext (bdrew w3 1)) (Hy3.out.ext (bdrew w3 1)) (Hb3.out.ext (bdrew w3 1)) (bt W3.out (bdrew w3 1)) (by omega) (by omega) (by omega) (by omega) (by omega)).mono ?_; rintro e w4 ⟨rfl, ht4, hb4, hx4⟩; go_simp
  have T4 := Lib.hid ((Turn.drew w3 1 b v).trans ht4)
  have Hb4 := Lib.hid hb4
  clear hb4 ht4
  have hSn := T4.out; refine hK _ _ hSn ?_; clear hK; clear K; simp only [List.set_cons_zero, List.set_cons_succ]
  refine WH.take 7 _ ?_ rfl (by kernel_rfl) (fun _ _ _ h => h) rfl (by assumption) ?_ ?_; rotate_left; (focus (intro w hSw; (try dsimp only at hSw); (first | (go_simp; done) | (go_simp; with_reducible rfl)))); simp only [Act.put, List.setIfInBounds_toArray, List.set_cons_zero, List.set_cons_succ]
  refine WH.done (by kernel_rfl) ?_
  have Hr4 := Lib.hid (Hr3.out.turn T4.out (by omega) (by omega))
  go_wp2_with (first | refine wpList_load_arr rfl _ _ rfl _ rfl _ _ Hb4.out _ _ Try.underlying35 (Try.blockFits HLB.out) ?_ | refine wpList_store_arr rfl _ _ _ rfl _ _ rfl rfl _ _ Hr4.out (Try.blockFits HLB.out) (by rw [bcells_size, bcells_size, HLB.out, zeros_len]) (oneCell_bcells _) ?_)
  apply Stop.go; intro w5 Ho5 Hb5
  go_wp2_with ((with_reducible show bodyPost _ _ _ _ _ _); refine bodyPost_cell_tmp rfl _ rfl _ _ Hb5.out _ _ Try.underlying35 (Try.blockFits HLB.out) rfl _ rfl ?_)
  apply Stop.go
  have T5 := (Turn.of_below W3.out b v).trans T4.out
  have T6 := T5.new Ho5.out (by omega)
  refine ⟨⟨T6.os, T6.tape, T6.output, T6.size, fun k hk h1 _ => T6.block k hk h1 (by omega)⟩, hX _ _ _ (by omega) Ho5.out hx4⟩

theorem Dev.read_ways (d : Dev) (no : Int) : ((d.off = true ∨ no < 0 ∨ (d.bl.length : Int) ≤ no) ∧ d.read no = d ∧ d.readB no = zeros 256 ∧ ((d.off = true ∧ d.readE no = 12) ∨ (d.off = false ∧ no < 0 ∧ d.readE no = 2) ∨ (d.off = false ∧ 0 ≤ no ∧ (d.bl.length : Int) ≤ no ∧ d.readE no = 2))) ∨
    (d.off = false ∧ ∃ (i : Nat) (h : i < d.bl.length), no = i ∧ d.read no = { d with rd := d.rd + 1 } ∧ d.readB no = d.bl[i] ∧ d.readE no = 0) := by
  unfold Dev.read Dev.readB Dev.readE
  cases ho : d.off
  · simp only [Bool.false_eq_true, if_false]
    by_cases h1 : 0 ≤ no
    · by_cases h2 : no < (d.bl.length : Int)
      · right
        have hh : d.has no = true := Dev.has_iff.2 ⟨h1, h2⟩
        obtain ⟨i, rfl⟩ := Int.eq_ofNat_of_zero_le h1
        refine ⟨by trivial, i, by omega, rfl, ?_⟩
        have hi : i < d.bl.length := by omega
        rw [hh]
        simp [List.getElem?_eq_getElem hi]
      · left
        have hh : d.has no = false := by
          cases h : d.has no
          · rfl
          · exact absurd (Dev.has_iff.1 h).2 h2
        rw [hh]
        simp
        omega
    · left
      have hh : d.has no = false := by
        cases h : d.has no
        · rfl
        · exact absurd (Dev.has_iff.1 h).1 h1
      rw [hh]
      simp
      omega
  · left
    simp

set_option maxHeartbeats 400000 in
/-- Read. -/
theorem read_any (b : Nat) (ad : Addr) (c : Nat) (no : Int) (d : Dev) (w : World) (hd : DS w 56 b (.slice (some ad) d.bl.length c) d) (hL : Bks d.bl) (hr : RK w (some ad) d.bl) (hc : d.bl.length ≤ c) (hm : c ≤ maxLen)
    (hne : ad.block ≠ b) (hal : ad.block < w.heap.size) (hrd : d.rd < 4611686018427387904) :
    Calls Try.prog 19 #[.pointer (some ⟨b, 0, none⟩), .int .i64 no] w fun e w' => e = .returned (.tuple #[.agg (bcells (d.readB no)), .int .i64 (d.readE no)]) ∧ Turn w w' b b ∧ DS w' 56 b (.slice (some ad) d.bl.length c) (d.read no) := by
  obtain ⟨fz, hb, hq⟩ := hd
  have hbl := hb.lt
  refine read_core b no _ _ (Dev.readB_len hL no) (fun w' => DS w' 56 b (.slice (some ad) d.bl.length c) (d.read no)) w hbl (fun w2 w3 x hx ho h => h.turn (Turn.of_only ho x) (by omega) (by omega)) ?_
  intro w3 x y v hx hy hv hw gx gy gv nx ny
  have hb3 := hb.below hw hb.lt
  rcases Dev.read_ways d no with ⟨_, e1, e2, e3⟩ | ⟨ho, i, hi, rfl, e1, e2, e3⟩
  · rw [e1, e2]
    refine (counted_not b 5 no (d.readE no) _ _ d.bl.length d.off (decide (0 ≤ d.fuse)) fz d.wr d.rd d.rd (some ad) c w3 rfl hb3 rfl (by omega) (by omega) e3).mono ?_
    rintro e w' ⟨rfl, hbw⟩
    exact ⟨rfl, Turn.of_below hbw b v, hv.ext hbw, fz, hb3.ext hbw, hq⟩
  · rw [e1, e2, e3]
    rw [ho] at hb3
    have hvl := hv.lt
    refine (counted_do b v 5 i d.bl.length c 25 _ (decide (0 ≤ d.fuse)) fz d.wr d.rd d.rd 0 (some ad) (fun cs => cs = dcells (.slice (some ad) d.bl.length c) false (decide (0 ≤ d.fuse)) fz d.wr d.rd) (fun w' => Blk w' v 35 (bcells d.bl[i])) w3 hb3 hi (by omega) (by omega) Try.enter25 ⟨hb3.lt, hvl⟩ (fun cs h => by rw [h]; rfl) ?_ ?_).mono ?_
    · intro w4 hw4
      refine (rd1_any x y v b _ _ _ ad d.bl.length c i d (zeros 256) w4 (hx.ext hw4) (hy.ext hw4) (hv.ext hw4) (zeros_len 256) ⟨fz, by rw [ho]; exact hb3.ext hw4, hq⟩ rfl hL ((hr.below hw).below hw4) hi hc hm nx ny (by omega) (by omega)).mono ?_
      rintro e w5 ⟨rfl, ht5, hb5⟩
      refine ⟨rfl, ⟨ht5.os, ht5.tape, ht5.output, ht5.size, fun k hk _ h2 => ht5.block k hk h2 h2⟩, ⟨_, rfl, (hb3.ext hw4).turn ht5 (by omega) (by omega)⟩, hb5⟩
    · rintro w5 w6 z (rfl | hz) ho5 h
      · exact h.only ho5 (by omega)
      · exact h.only ho5 (by omega)
    · rintro e w' ⟨rfl, ht, ⟨cs, rfl, hbw⟩, hx'⟩
      refine ⟨rfl, ht, hx', fz, ?_, hq⟩
      have h := hbw
      unfold ticked at h
      rw [if_pos rfl] at h
      rw [ho]
      exact h

end Go.Proofs.Ytefienjcdchebaa
