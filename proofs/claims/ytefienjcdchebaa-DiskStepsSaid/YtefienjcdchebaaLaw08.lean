/-
  Contracts of the statement's own Full and do, over the device.
-/
import Derived.Test.YtefienjcdchebaaDsk5
import Derived.Test.YtefienjcdchebaaDsk6
namespace Go.Proofs.Ytefienjcdchebaa
open Go.RowKit

/-- The first so many bytes are this one, the others nought. -/
def fillN (k : Nat) (x : UInt8) : List UInt8 := List.replicate k x ++ List.replicate (256 - k) 0
theorem fillN_len {k : Nat} (x : UInt8) (h : k ≤ 256) : (fillN k x).length = 256 := by unfold fillN; simp; omega
theorem fillN_zero (x : UInt8) : fillN 0 x = zeros 256 := rfl
theorem fillN_all (x : UInt8) : fillN 256 x = full x := by unfold fillN full; rw [Nat.sub_self, List.replicate_zero, List.append_nil]
theorem fillN_set {k : Nat} (x : UInt8) (h : k < 256) : (fillN k x).set k x = fillN (k + 1) x := by
  unfold fillN
  apply List.ext_getElem?
  intro i
  rw [List.getElem?_set]
  by_cases h1 : k = i
  · subst h1
    rw [if_pos rfl, if_pos (by simp; omega), List.getElem?_append_left (by simp), List.getElem?_replicate, if_pos (by omega)]
  · rw [if_neg h1]
    by_cases h2 : i < k
    · rw [List.getElem?_append_left (by simp; omega), List.getElem?_append_left (by simp; omega), List.getElem?_replicate, List.getElem?_replicate, if_pos h2, if_pos (by omega)]
    · rw [List.getElem?_append_right (by simp; omega), List.getElem?_append_right (by simp; omega)]
      simp only [List.length_replicate, List.getElem?_replicate]
      by_cases h3 : i < 256
      · rw [if_pos (by omega), if_pos (by omega)]
      · rw [if_neg (by omega), if_neg (by omega)]

set_option maxHeartbeats 400000 in
/-- Full. -/
theorem full_any (x : UInt8) (w : World) : Calls Try.prog 12 #[.int .u8 (x.toNat : Int)] w (RetA w (full x)) := by
  have hx := x.toNat_lt
  go_enter Try.func12, Try.ntmps12
  go_wp2_with (refine wpList_alloc_row rfl _ rfl _ Try.blockZero ?_)
  apply Stop.go; intro w1 Hg1 Hb1
  go_wp2_with (refine wpList_alloc_row rfl _ rfl _ Try.blockZero ?_)
  apply Stop.go; intro w2 Hg2 Hb2
  have Hr2 := Lib.hid (Hb1.out.ext Hg2.out.1)
  have Hw2 := Lib.hid (bt Hg1.out.1 Hg2.out.1)
  have Z1 := Lib.hid Hg1.out.2
  have HZ := Lib.hid (fillN_zero x)
  rw [← HZ.out] at Hb2
  obtain ⟨g, Hg⟩ : ∃ g, Hid (w1.heap.size = g) := ⟨_, Lib.hid rfl⟩
  rw [Hg.out] at Hb2 ⊢
  go_wp2_with fail
  go_loopw [4] (fun i wr => ∃ k : Nat, k ≤ 256 ∧ i = .int .i64 k ∧ Only w2 wr g ∧ Blk wr g 35 (bcells (fillN k x))) (fun i _ => 256 - (intOf i).toNat)
  case atStart => exact ⟨0, by omega, rfl, Only.refl _ _, Hb2.out⟩
  case round =>
    obtain ⟨k, hk, rfl, ho, hb⟩ := hrel
    have Ho := Lib.hid ho
    have Hb := Lib.hid hb
    clear ho hb
    by_cases hlt : k < 256
    · have d0 : decide (k < 256) = true := decide_eq_true hlt
      have d1 : decide ((k : Int) < 256) = true := decide_eq_true (by omega)
      go_wp2_with (refine wpList_store_cell rfl _ _ _ rfl Try.byteSize g k rfl (.int .u8 (x.toNat : Int)) rfl rfl rfl _ _ Hb.out (by rw [bcells_size, fillN_len x hk]; exact hlt) ?_)
      apply Stop.go; intro w3 Ho3 Hb3
      go_wp2_with fail
      go_roundw
      case rel =>
        refine ⟨k + 1, by omega, by go_num, Ho.out.trans Ho3.out, ?_⟩
        have h := Hb3.out
        rw [bcells_set, fillN_set x hlt] at h
        exact h
      case measure => simp [intOf]; omega
    · obtain rfl : k = 256 := by omega
      have hb := Hb.out
      rw [fillN_all] at hb
      have Hb' := Lib.hid hb
      clear hb hlt
      have Hr := Lib.hid (Hr2.out.only Ho.out (by have := Z1.out; have := Hg.out; omega))
      go_wp2_with (first | refine wpList_load_arr rfl _ _ rfl _ rfl _ _ Hb'.out _ _ Try.underlying35 (Try.blockFits (full_len x)) ?_ | refine wpList_store_arr rfl _ _ _ rfl _ _ rfl rfl _ _ Hr.out (Try.blockFits (full_len x)) (by rw [bcells_size, bcells_size, full_len, zeros_len]) (oneCell_bcells _) ?_)
      apply Stop.go; intro w5 Ho5 Hb5
      go_wp2_with ((with_reducible show bodyPost _ _ _ _ _ _); refine bodyPost_cell rfl _ rfl _ _ Hb5.out _ _ Try.underlying35 (Try.blockFits (full_len x)) rfl ?_)
      apply Stop.go
      exact ⟨rfl, bonly (bonly Hw2.out Ho.out (by have := Z1.out; have := Hg.out; omega)) Ho5.out (by omega)⟩

theorem Try.stepSize : (Try.prog.info? 31).map (·.size) = some 3 := by kernel_rfl

/-- The worlds of 'do': the step's struct, the result, the block. -/
theorem cells3_of {w : World} {x : Nat} {t : TypeId} {v0 v1 v2 : Value} (h : Blk w x t #[v0, v1, v2]) : w.cell? ⟨x, 0, none⟩ = some v0 ∧ w.cell? ⟨x, 1, none⟩ = some v1 ∧ w.cell? ⟨x, 2, none⟩ = some v2 :=
  ⟨h.cell 0, h.cell 1, h.cell 2⟩


section
variable (b g : Nat) (d : Dev) (s : St3) (w : World)

theorem Dev.read_fuse (d : Dev) (no : Int) : (d.read no).fuse = d.fuse := by unfold Dev.read; split <;> (try split) <;> rfl
theorem DV.read (h : DV w b g d) (no : Int) (hrd : d.rd < 4611686018427387904) :
    Calls Try.prog 19 #[.pointer (some ⟨b, 0, none⟩), .int .i64 no] w fun e w' => e = .returned (.tuple #[.agg (bcells (d.readB no)), .int .i64 (d.readE no)]) ∧ Turn w w' b g ∧ DV w' b g (d.read no) := by
  have hlen := h.len
  refine (read_any b ⟨g, 0, none⟩ d.bl.length no d w h.ds h.bks (RK.of_blk h.bks h.blk) (Nat.le_refl _) (by unfold maxLen; omega) (Ne.symm h.ne) h.lt.2 hrd).mono ?_
  rintro e w2 ⟨rfl, ht, hd2⟩
  refine ⟨rfl, ht.one g, ⟨by rw [Dev.read_bl]; exact hd2, by rw [Dev.read_bl]; exact h.bks, by rw [Dev.read_bl]; exact h.blk.turn ht (Ne.symm h.ne) (Ne.symm h.ne), h.ne, by rw [Dev.read_bl]; exact h.len, by rw [Dev.read_fuse]; exact h.fuse⟩⟩

set_option maxHeartbeats 800000 in
/-- A step of the device: Read. -/
theorem do_read (h : DV w b g d) (h0 : s.do_ = 0) (hrd : d.rd < 4611686018427387904) :
    Calls Try.prog 11 #[.pointer (some ⟨b, 0, none⟩), .agg #[.int .i64 s.do_, .int .i64 s.no, .int .u8 (s.b.toNat : Int)]] w fun e w' => e = .returned (.tuple #[.agg (bcells (d.go s).2.1), .int .i64 (d.go s).2.2]) ∧ Turn w w' b g ∧ DV w' b g (d.go s).1 := by
  obtain ⟨lb, lg⟩ := h.lt
  have hgo : d.go s = (d.read s.no, d.readB s.no, d.readE s.no) := by unfold Dev.go; rw [if_pos h0]
  rw [hgo, h0]
  generalize s.no = no
  generalize (s.b.toNat : Int) = by_
  have HLB := Lib.hid (Dev.readB_len h.bks no)
  have HC := fun w1 (hw1 : Below w.heap.size w w1) => DV.read b g d w1 (h.ext hw1) no hrd
  generalize d.readB no = B at *
  generalize d.readE no = E at *
  clear hgo h0
  have Hlt := Lib.hid (And.intro lb lg)
  clear h lb lg
  go_enter Try.func11, Try.ntmps11; go_wp2_with (refine wpList_box_row rfl _ _ rfl _ rfl ?_); apply Stop.go; intro w1 Hg1 Hb1; go_wp2_with (refine wpList_alloc_row rfl _ rfl _ Try.blockZero ?_); apply Stop.go; intro w2 Hg2 Hb2; go_wp2_with (refine wpList_alloc_row rfl _ rfl _ Try.blockZero ?_); apply Stop.go; intro w3 Hg3 Hb3; have Hs3 := (Hb1.out.ext Hg2.out.1).ext Hg3.out.1; obtain ⟨c0, c1, c2⟩ := cells3_of Hs3; have Hr3 := Lib.hid (Hb2.out.ext Hg3.out.1); have Hw3 := Lib.hid (bt (bt Hg1.out.1 Hg2.out.1) Hg3.out.1); have Z1 := Lib.hid Hg1.out.2; have Z2 := Lib.hid Hg2.out.2; have Zw := Lib.hid (show w.heap.size < w1.heap.size ∧ w1.heap.size < w2.heap.size from ⟨by have := Z1.out; omega, by have := Z2.out; omega⟩)
  go_wp2_with (first | (go_at_call 19; refine (HC _ Hw3.out).mono ?_; rintro _ w4 ⟨rfl, ht4, hd4⟩; have T4 := Lib.hid ht4; have D4 := Lib.hid hd4; have Hb4 := Lib.hid (Hb3.out.turn ht4 (by have := Hlt.out; have := Zw.out; omega) (by have := Hlt.out; have := Zw.out; omega)); clear ht4 hd4) | refine wpList_store_arr rfl _ _ _ rfl _ _ rfl rfl _ _ Hb4.out (Try.blockFits HLB.out) (by rw [bcells_size, bcells_size, HLB.out, zeros_len]) (oneCell_bcells _) ?_)
  apply Stop.go; intro w5 Ho5 Hb5
  have Hr5 := Lib.hid ((Hr3.out.turn T4.out (by have := Hlt.out; have := Zw.out; omega) (by have := Hlt.out; have := Zw.out; omega)).only Ho5.out (by have := Zw.out; omega))
  go_wp2_with (first | refine wpList_load_arr rfl _ _ rfl _ rfl _ _ Hb5.out _ _ Try.underlying35 (Try.blockFits HLB.out) ?_ | refine wpList_store_arr rfl _ _ _ rfl _ _ rfl rfl _ _ Hr5.out (Try.blockFits HLB.out) (by rw [bcells_size, bcells_size, HLB.out, zeros_len]) (oneCell_bcells _) ?_)
  apply Stop.go; intro w6 Ho6 Hb6
  go_wp2_with ((with_reducible show bodyPost _ _ _ _ _ _); refine bodyPost_cell_tmp rfl _ rfl _ _ Hb6.out _ _ Try.underlying35 (Try.blockFits HLB.out) rfl _ rfl ?_); apply Stop.go
  have T5 := (Turn.of_below Hw3.out b g).trans T4.out
  have D5 := D4.out.turn (Turn.of_only Ho5.out w2.heap.size) (by have := Hlt.out; have := Zw.out; omega) (by have := Hlt.out; have := Zw.out; omega) (by have := Hlt.out; have := Zw.out; omega) (by have := Hlt.out; have := Zw.out; omega)
  exact ⟨(T5.new Ho5.out (by have := Zw.out; omega)).new Ho6.out (by have := Zw.out; omega), D5.turn (Turn.of_only Ho6.out w1.heap.size) (by have := Hlt.out; have := Zw.out; omega) (by have := Hlt.out; have := Zw.out; omega) (by have := Hlt.out; have := Zw.out; omega) (by have := Hlt.out; have := Zw.out; omega)⟩

set_option maxHeartbeats 800000 in
/-- .. Write. -/
theorem do_write (h : DV w b g d) (h0 : s.do_ = 1) (hwr : d.wr < 4611686018427387904) :
    Calls Try.prog 11 #[.pointer (some ⟨b, 0, none⟩), .agg #[.int .i64 s.do_, .int .i64 s.no, .int .u8 (s.b.toNat : Int)]] w fun e w' => e = .returned (.tuple #[.agg (bcells (d.go s).2.1), .int .i64 (d.go s).2.2]) ∧ Turn w w' b g ∧ DV w' b g (d.go s).1 := by
  obtain ⟨lb, lg⟩ := h.lt
  have hgo : d.go s = (d.write s.no (full s.b), zeros 256, d.writeE s.no) := by unfold Dev.go; rw [if_neg (by omega), if_pos h0]
  rw [hgo, h0]
  have HF := fun w1 => full_any s.b w1
  generalize s.no = no
  generalize s.b = by_ at *
  have HC := fun w1 (h1 : DV w1 b g d) => write_any b g no (full by_) (full_len by_) d w1 h1 hwr
  have H := Lib.hid h
  have HLB := Lib.hid (zeros_len 256)
  generalize full by_ = z at *
  generalize d.writeE no = E at *
  clear hgo h0
  have Hlt := Lib.hid (And.intro lb lg)
  clear h lb lg
  go_enter Try.func11, Try.ntmps11; go_wp2_with (refine wpList_box_row rfl _ _ rfl _ rfl ?_); apply Stop.go; intro w1 Hg1 Hb1; go_wp2_with (refine wpList_alloc_row rfl _ rfl _ Try.blockZero ?_); apply Stop.go; intro w2 Hg2 Hb2; go_wp2_with (refine wpList_alloc_row rfl _ rfl _ Try.blockZero ?_); apply Stop.go; intro w3 Hg3 Hb3; have Hs3 := (Hb1.out.ext Hg2.out.1).ext Hg3.out.1; obtain ⟨c0, c1, c2⟩ := cells3_of Hs3; have Hr3 := Lib.hid (Hb2.out.ext Hg3.out.1); have Hw3 := Lib.hid (bt (bt Hg1.out.1 Hg2.out.1) Hg3.out.1); have Z1 := Lib.hid Hg1.out.2; have Z2 := Lib.hid Hg2.out.2; have Zw := Lib.hid (show w.heap.size < w1.heap.size ∧ w1.heap.size < w2.heap.size from ⟨by have := Z1.out; omega, by have := Z2.out; omega⟩)
  have Hs := Lib.hid Hs3
  clear Hs3
  go_wp2_with fail
  clear c0 c1 c2
  refine WH.start (S := fun w' : World => Turn w3 w' b g) [false, false, false, false, false, false, false, false] 8 rfl rfl (by kernel_rfl) (Turn.drew w3 1 b g) (fun hSn => ?_)
  refine WH.take 0 _ ?_ rfl (by kernel_rfl) (fun _ _ _ h => h) rfl (by assumption) ?_ ?_; rotate_left; (focus (intro w hSw; (try dsimp only at hSw); (first | (go_simp; done) | (go_simp; with_reducible rfl)))); simp only [Act.put, List.setIfInBounds_toArray, List.set_cons_zero, List.set_cons_succ]
  refine WH.take 1 _ ?_ rfl (by kernel_rfl) (fun _ _ _ h => h) rfl (by assumption) ?_ ?_; rotate_left; (focus (intro w hSw; (try dsimp only at hSw); (first | (go_simp; done) | (go_simp; with_reducible rfl)))); simp only [Act.put, List.setIfInBounds_toArray, List.set_cons_zero, List.set_cons_succ]
  refine WH.take 2 _ _ rfl (by kernel_rfl) (fun _ _ _ h => h) rfl (by assumption) (fun w' hSw => exec_load_cell _ _ rfl _ rfl (.int .i64 no) ((Hs.out.turn hSw (by have := Hlt.out; omega) (by have := Hlt.out; omega)).cell 1) _ Try.underlying3 rfl) ?_; simp only [Act.put, List.setIfInBounds_toArray, List.set_cons_zero, List.set_cons_succ]
  refine WH.take 3 _ ?_ rfl (by kernel_rfl) (fun _ _ _ h => h) rfl (by assumption) ?_ ?_; rotate_left; (focus (intro w hSw; (try dsimp only at hSw); (first | (go_simp; done) | (go_simp; with_reducible rfl)))); simp only [Act.put, List.setIfInBounds_toArray, List.set_cons_zero, List.set_cons_succ]
  refine WH.take 4 _ _ rfl (by kernel_rfl) (fun _ _ _ h => h) rfl (by assumption) (fun w' hSw => exec_load_cell _ _ rfl _ rfl (.int .u8 (by_.toNat : Int)) ((Hs.out.turn hSw (by have := Hlt.out; omega) (by have := Hlt.out; omega)).cell 2) _ Try.underlying5 rfl) ?_; simp only [Act.put, List.setIfInBounds_toArray, List.set_cons_zero, List.set_cons_succ]
  refine WH.only 5 _ rfl (by kernel_rfl) rfl (fun K hK => ?_)
  go_simp; refine (HF _).mono ?_; rintro e w4 ⟨rfl, hb4⟩; go_simp
  have T4 := Lib.hid ((Turn.drew w3 1 b g).trans (Turn.of_below hb4 b g))
  have D4 := Lib.hid (((H.out.ext Hw3.out).ext (bdrew w3 1)).ext hb4)
  clear hb4
  have hSn := T4.out; refine hK _ _ hSn ?_; clear hK; clear K; simp only [List.set_cons_zero, List.set_cons_succ]
  refine WH.only 6 _ rfl (by kernel_rfl) rfl (fun K hK => ?_)
  go_simp; refine (HC _ D4.out).mono ?_; rintro e w5 ⟨rfl, ht5, hd5⟩; go_simp
  have T5 := Lib.hid (T4.out.trans ht5)
  have D5 := Lib.hid hd5
  clear ht5 hd5
  have hSn := T5.out; refine hK _ _ hSn ?_; clear hK; clear K; simp only [List.set_cons_zero, List.set_cons_succ]
  refine WH.take 7 _ ?_ rfl (by kernel_rfl) (fun _ _ _ h => h) rfl (by assumption) ?_ ?_; rotate_left; (focus (intro w hSw; (try dsimp only at hSw); (first | (go_simp; done) | (go_simp; with_reducible rfl)))); simp only [Act.put, List.setIfInBounds_toArray, List.set_cons_zero, List.set_cons_succ]
  refine WH.done (by kernel_rfl) ?_
  have Hb5 := Lib.hid (Hb3.out.turn T5.out (by have := Hlt.out; have := Zw.out; omega) (by have := Hlt.out; have := Zw.out; omega))
  have Hr5 := Lib.hid (Hr3.out.turn T5.out (by have := Hlt.out; have := Zw.out; omega) (by have := Hlt.out; have := Zw.out; omega))
  go_wp2_with (first | refine wpList_load_arr rfl _ _ rfl _ rfl _ _ Hb5.out _ _ Try.underlying35 (Try.blockFits HLB.out) ?_ | refine wpList_store_arr rfl _ _ _ rfl _ _ rfl rfl _ _ Hr5.out (Try.blockFits HLB.out) rfl (oneCell_bcells _) ?_)
  apply Stop.go; intro w6 Ho6 Hb6
  go_wp2_with ((with_reducible show bodyPost _ _ _ _ _ _); refine bodyPost_cell_tmp rfl _ rfl _ _ Hb6.out _ _ Try.underlying35 (Try.blockFits HLB.out) rfl _ rfl ?_); apply Stop.go
  have T6 := (Turn.of_below Hw3.out b g).trans T5.out
  exact ⟨T6.new Ho6.out (by have := Zw.out; omega), D5.out.turn (Turn.of_only Ho6.out w1.heap.size) (by have := Hlt.out; have := Zw.out; omega) (by have := Hlt.out; have := Zw.out; omega) (by have := Hlt.out; have := Zw.out; omega) (by have := Hlt.out; have := Zw.out; omega)⟩

set_option maxHeartbeats 800000 in
/-- .. Fuse. -/
theorem do_fuse (h : DV w b g d) (h0 : s.do_ = 2) (hn : s.no < 9223372036854775808) :
    Calls Try.prog 11 #[.pointer (some ⟨b, 0, none⟩), .agg #[.int .i64 s.do_, .int .i64 s.no, .int .u8 (s.b.toNat : Int)]] w fun e w' => e = .returned (.tuple #[.agg (bcells (d.go s).2.1), .int .i64 (d.go s).2.2]) ∧ Turn w w' b g ∧ DV w' b g (d.go s).1 := by
  obtain ⟨lb, lg⟩ := h.lt
  have hgo : d.go s = (d.setFuse s.no, zeros 256, 0) := by unfold Dev.go; rw [if_neg (by omega), if_neg (by omega), if_pos h0]
  rw [hgo, h0]
  generalize s.no = no at *
  generalize (s.b.toNat : Int) = by_
  have HC := fun w1 (h1 : DV w1 b g d) => fuse_any b g no d w1 h1 hn
  have H := Lib.hid h
  have HLB := Lib.hid (zeros_len 256)
  clear hgo h0
  have Hlt := Lib.hid (And.intro lb lg)
  clear h lb lg
  go_enter Try.func11, Try.ntmps11; go_wp2_with (refine wpList_box_row rfl _ _ rfl _ rfl ?_); apply Stop.go; intro w1 Hg1 Hb1; go_wp2_with (refine wpList_alloc_row rfl _ rfl _ Try.blockZero ?_); apply Stop.go; intro w2 Hg2 Hb2; go_wp2_with (refine wpList_alloc_row rfl _ rfl _ Try.blockZero ?_); apply Stop.go; intro w3 Hg3 Hb3; have Hs3 := (Hb1.out.ext Hg2.out.1).ext Hg3.out.1; obtain ⟨c0, c1, c2⟩ := cells3_of Hs3; have Hr3 := Lib.hid (Hb2.out.ext Hg3.out.1); have Hw3 := Lib.hid (bt (bt Hg1.out.1 Hg2.out.1) Hg3.out.1); have Z1 := Lib.hid Hg1.out.2; have Z2 := Lib.hid Hg2.out.2; have Zw := Lib.hid (show w.heap.size < w1.heap.size ∧ w1.heap.size < w2.heap.size from ⟨by have := Z1.out; omega, by have := Z2.out; omega⟩)
  have D3 := Lib.hid (H.out.ext Hw3.out)
  go_wp2_with (first | (go_at_call 20; refine (HC _ D3.out).mono ?_; rintro _ w5 ⟨rfl, ho5, hd5⟩; have T5 := Lib.hid (Turn.of_only ho5 g); have D5 := Lib.hid hd5; have Hb5 := Lib.hid (Hb3.out.only ho5 (by have := Hlt.out; have := Zw.out; omega)); have Hr5 := Lib.hid (Hr3.out.only ho5 (by have := Hlt.out; have := Zw.out; omega)); clear ho5 hd5) | refine wpList_load_arr rfl _ _ rfl _ rfl _ _ Hb5.out _ _ Try.underlying35 (Try.blockFits HLB.out) ?_ | refine wpList_store_arr rfl _ _ _ rfl _ _ rfl rfl _ _ Hr5.out (Try.blockFits HLB.out) rfl (oneCell_bcells _) ?_)
  apply Stop.go; intro w6 Ho6 Hb6
  go_wp2_with ((with_reducible show bodyPost _ _ _ _ _ _); refine bodyPost_cell_tmp rfl _ rfl _ _ Hb6.out _ _ Try.underlying35 (Try.blockFits HLB.out) rfl _ rfl ?_); apply Stop.go
  have T6 := (Turn.of_below Hw3.out b g).trans T5.out
  exact ⟨T6.new Ho6.out (by have := Zw.out; omega), D5.out.turn (Turn.of_only Ho6.out w1.heap.size) (by have := Hlt.out; have := Zw.out; omega) (by have := Hlt.out; have := Zw.out; omega) (by have := Hlt.out; have := Zw.out; omega) (by have := Hlt.out; have := Zw.out; omega)⟩

set_option maxHeartbeats 800000 in
/-- .. Up. -/
theorem do_up (h : DV w b g d) (h0 : s.do_ = 3) :
    Calls Try.prog 11 #[.pointer (some ⟨b, 0, none⟩), .agg #[.int .i64 s.do_, .int .i64 s.no, .int .u8 (s.b.toNat : Int)]] w fun e w' => e = .returned (.tuple #[.agg (bcells (d.go s).2.1), .int .i64 (d.go s).2.2]) ∧ Turn w w' b g ∧ DV w' b g (d.go s).1 := by
  obtain ⟨lb, lg⟩ := h.lt
  have hgo : d.go s = (d.up, zeros 256, 0) := by unfold Dev.go; rw [if_neg (by omega), if_neg (by omega), if_neg (by omega)]
  rw [hgo, h0]
  generalize s.no = no at *
  generalize (s.b.toNat : Int) = by_
  have HC := fun w1 (h1 : DV w1 b g d) => up_any b g d w1 h1
  have H := Lib.hid h
  have HLB := Lib.hid (zeros_len 256)
  clear hgo h0
  have Hlt := Lib.hid (And.intro lb lg)
  clear h lb lg
  go_enter Try.func11, Try.ntmps11; go_wp2_with (refine wpList_box_row rfl _ _ rfl _ rfl ?_); apply Stop.go; intro w1 Hg1 Hb1; go_wp2_with (refine wpList_alloc_row rfl _ rfl _ Try.blockZero ?_); apply Stop.go; intro w2 Hg2 Hb2; go_wp2_with (refine wpList_alloc_row rfl _ rfl _ Try.blockZero ?_); apply Stop.go; intro w3 Hg3 Hb3; have Hs3 := (Hb1.out.ext Hg2.out.1).ext Hg3.out.1; obtain ⟨c0, c1, c2⟩ := cells3_of Hs3; have Hr3 := Lib.hid (Hb2.out.ext Hg3.out.1); have Hw3 := Lib.hid (bt (bt Hg1.out.1 Hg2.out.1) Hg3.out.1); have Z1 := Lib.hid Hg1.out.2; have Z2 := Lib.hid Hg2.out.2; have Zw := Lib.hid (show w.heap.size < w1.heap.size ∧ w1.heap.size < w2.heap.size from ⟨by have := Z1.out; omega, by have := Z2.out; omega⟩)
  have D3 := Lib.hid (H.out.ext Hw3.out)
  go_wp2_with (first | (go_at_call 21; refine (HC _ D3.out).mono ?_; rintro _ w5 ⟨rfl, ho5, hd5⟩; have T5 := Lib.hid (Turn.of_only ho5 g); have D5 := Lib.hid hd5; have Hb5 := Lib.hid (Hb3.out.only ho5 (by have := Hlt.out; have := Zw.out; omega)); have Hr5 := Lib.hid (Hr3.out.only ho5 (by have := Hlt.out; have := Zw.out; omega)); clear ho5 hd5) | refine wpList_load_arr rfl _ _ rfl _ rfl _ _ Hb5.out _ _ Try.underlying35 (Try.blockFits HLB.out) ?_ | refine wpList_store_arr rfl _ _ _ rfl _ _ rfl rfl _ _ Hr5.out (Try.blockFits HLB.out) rfl (oneCell_bcells _) ?_)
  apply Stop.go; intro w6 Ho6 Hb6
  go_wp2_with ((with_reducible show bodyPost _ _ _ _ _ _); refine bodyPost_cell_tmp rfl _ rfl _ _ Hb6.out _ _ Try.underlying35 (Try.blockFits HLB.out) rfl _ rfl ?_); apply Stop.go
  have T6 := (Turn.of_below Hw3.out b g).trans T5.out
  exact ⟨T6.new Ho6.out (by have := Zw.out; omega), D5.out.turn (Turn.of_only Ho6.out w1.heap.size) (by have := Hlt.out; have := Zw.out; omega) (by have := Hlt.out; have := Zw.out; omega) (by have := Hlt.out; have := Zw.out; omega) (by have := Hlt.out; have := Zw.out; omega)⟩

/-- .. whichever it is. -/
theorem do_any (h : DV w b g d) (h0 : 0 ≤ s.do_) (h3 : s.do_ ≤ 3) (hn : s.no < 9223372036854775808) (hwr : d.wr < 4611686018427387904) (hrd : d.rd < 4611686018427387904) :
    Calls Try.prog 11 #[.pointer (some ⟨b, 0, none⟩), .agg #[.int .i64 s.do_, .int .i64 s.no, .int .u8 (s.b.toNat : Int)]] w fun e w' => e = .returned (.tuple #[.agg (bcells (d.go s).2.1), .int .i64 (d.go s).2.2]) ∧ Turn w w' b g ∧ DV w' b g (d.go s).1 := by
  have hw : s.do_ = 0 ∨ s.do_ = 1 ∨ s.do_ = 2 ∨ s.do_ = 3 := by omega
  rcases hw with h1 | h1 | h1 | h1
  · exact do_read b g d s w h h1 hrd
  · exact do_write b g d s w h h1 hwr
  · exact do_fuse b g d s w h h1 hn
  · exact do_up b g d s w h h1
end

end Go.Proofs.Ytefienjcdchebaa
