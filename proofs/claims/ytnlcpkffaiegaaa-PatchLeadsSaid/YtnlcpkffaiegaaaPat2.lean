/-
  Contracts of package patch: Lay, part, Was, Same, Meet.
-/
import Derived.Test.YtnlcpkffaiegaaaPat1
import Derived.Lib.SliceRun
namespace Go.Proofs.Ytnlcpkffaiegaaa
open Go.RowKit

set_option maxHeartbeats 800000 in
theorem play_any (L : List UInt8) (hL : L.length = 256) (p : Pt) (A : Option Addr) (n c : Nat) (w : World) (hp : PV w p A n c) :
    Calls Try.prog 10 #[.agg (bcells L), .agg #[.int .i64 p.at_, .slice A n c]] w (RetA w (layP L p)) := by
  have HL := Lib.hid hL
  have Hp := Lib.hid hp
  clear hL hp
  go_enter Try.func10, Try.ntmps10
  go_wp2_with (refine wpList_box_row rfl _ _ rfl _ rfl ?_)
  apply Stop.go; intro w1 Hg1 Hb1
  go_wp2_with (refine wpList_box_row rfl _ _ rfl _ rfl ?_)
  apply Stop.go; intro w2 Hg2 Hb2
  go_wp2_with (refine wpList_alloc_row rfl _ rfl _ Try.blockZero ?_)
  apply Stop.go; intro w3 Hg3 Hb3
  have Hx2 := Lib.hid (Hb2.out.ext Hg3.out.1)
  have Hx1 := Lib.hid ((Hb1.out.ext Hg2.out.1).ext Hg3.out.1)
  have Hw3 := Lib.hid (bt (bt Hg1.out.1 Hg2.out.1) Hg3.out.1)
  have Z1 := Lib.hid Hg1.out.2
  have Z2 := Lib.hid Hg2.out.2
  have Hp3 := Lib.hid (Hp.out.below Hw3.out)
  go_wp2_with (refine wpList_load_blk rfl _ _ rfl _ rfl _ _ Hx2.out _ Try.underlying29 rfl Try.patchSize ?_)
  refine (mayBe_any p A n c _ Hp3.out).mono ?_; rintro e w4 ⟨rfl, hb4⟩
  have Hb4 := Lib.hid hb4
  have Hx4 := Lib.hid (Hx2.out.ext hb4)
  have Hy4 := Lib.hid (Hx1.out.ext hb4)
  have Hr4 := Lib.hid (Hb3.out.ext hb4)
  have Hp4 := Lib.hid (Hp3.out.below hb4)
  have Hw4 := Lib.hid (bt Hw3.out hb4)
  clear hb4
  cases hr : p.right
  · have Hl := Lib.hid (layP_wrong (L := L) hr)
    clear hr
    go_wp2_with (first | refine wpList_load_arr rfl _ _ rfl _ rfl _ _ Hy4.out _ _ Try.underlying27 (Try.blockFits HL.out) ?_ | refine wpList_store_arr rfl _ _ _ rfl _ _ rfl rfl _ _ Hr4.out (Try.blockFits HL.out) (by rw [bcells_size, bcells_size, HL.out, zeros_len]) (oneCell_bcells _) ?_)
    apply Stop.go; intro w5 Ho5 Hb5
    go_wp2_with ((with_reducible show bodyPost _ _ _ _ _ _); refine bodyPost_cell rfl _ rfl _ _ Hb5.out _ _ Try.underlying27 (Try.blockFits HL.out) rfl ?_)
    apply Stop.go
    have h1 := Hg1.out.1.size
    have h2 := Hg2.out.1.size
    exact ⟨by rw [Hl.out], bonly Hw4.out Ho5.out (by omega)⟩
  · have h := Pt.right_iff.1 hr
    rw [Hp.out.len] at h
    obtain ⟨h1, h2, h3, h4⟩ := h
    obtain ⟨q, hq⟩ := Int.eq_ofNat_of_zero_le h3
    have hlo : p.lo = q := by unfold Pt.lo; rw [hq]; rfl
    have Hl := Lib.hid (show layP L p = splice L q p.data by unfold layP; rw [hr, ← hlo]; rfl)
    have HM : Hid ((splice L q p.data).length = 256) := Lib.hid (by rw [splice_len _ _ _ (by rw [HL.out, Hp.out.len]; omega), HL.out])
    rw [hq] at Hx4 h4
    clear hr hlo
    go_wp2_with fail
    refine WH.start (S := fun w' : World => Blk w' w1.heap.size 29 #[.int .i64 q, .slice A n c]) [false, false, false, false, false, false] 6 rfl rfl (by kernel_rfl) (Hx4.out.ext (bdrew w4 1)) (fun hSn => ?_)
    refine WH.take 0 _ ?_ rfl (by kernel_rfl) (fun _ _ _ h => h) rfl (by assumption) ?_ ?_; rotate_left; (focus (intro w hSw; (try dsimp only at hSw); (first | (go_simp; done) | (go_simp; with_reducible rfl)))); simp only [Act.put, List.setIfInBounds_toArray, List.set_cons_zero, List.set_cons_succ]
    refine WH.take 1 _ _ rfl (by kernel_rfl) (fun _ _ _ h => h) rfl (by assumption) (fun w' hSw => exec_load_cell _ _ rfl _ rfl (.int .i64 q) (hSw.cell 0) _ (Try.underlying3) rfl) ?_; simp only [Act.put, List.setIfInBounds_toArray, List.set_cons_zero, List.set_cons_succ]
    refine WH.take 2 _ _ rfl (by kernel_rfl) (fun _ _ _ h => h) rfl (by assumption) (fun w' hSw => exec_slice_l _ _ _ rfl _ _ Try.underlying27 Try.byteSize _ rfl _ _ rfl q rfl (by omega)) ?_; simp only [Act.put, List.setIfInBounds_toArray, List.set_cons_zero, List.set_cons_succ]
    refine WH.take 3 _ ?_ rfl (by kernel_rfl) (fun _ _ _ h => h) rfl (by assumption) ?_ ?_; rotate_left; (focus (intro w hSw; (try dsimp only at hSw); (first | (go_simp; done) | (go_simp; with_reducible rfl)))); simp only [Act.put, List.setIfInBounds_toArray, List.set_cons_zero, List.set_cons_succ]
    refine WH.take 4 _ _ rfl (by kernel_rfl) (fun _ _ _ h => h) rfl (by assumption) (fun w' hSw => exec_load_cell _ _ rfl _ rfl (.slice A n c) (hSw.cell 1) _ (Try.underlying23) rfl) ?_; simp only [Act.put, List.setIfInBounds_toArray, List.set_cons_zero, List.set_cons_succ]
    refine WH.only 5 _ rfl (by kernel_rfl) rfl (fun K hK => ?_)
    refine ow_copy _ _ _ _ rfl _ Try.underlying23 Try.byteSize _ _ _ _ _ _ rfl (Hy4.out.ext (bdrew w4 1)) (by rw [HL.out]; omega) A n c p.data rfl Hp.out.len (Hp4.out.read.below (bdrew w4 1)) ?_
    apply Stop.go
    intro w5 Ho5 Hb5
    have hSn := hSn.only Ho5.out (by rw [Z1.out]; omega); refine hK _ _ hSn ?_; clear hK; clear K; simp only [Act.put, List.setIfInBounds_toArray, List.set_cons_zero, List.set_cons_succ]
    refine WH.done (by kernel_rfl) ?_
    rw [List.take_of_length_le (by rw [Hp.out.len]; omega)] at Hb5
    have Hr5 := Lib.hid ((Hr4.out.ext (bdrew w4 1)).only Ho5.out (by rw [Z2.out, Z1.out]; omega))
    go_wp2_with (first | refine wpList_load_arr rfl _ _ rfl _ rfl _ _ Hb5.out _ _ Try.underlying27 (Try.blockFits HM.out) ?_ | refine wpList_store_arr rfl _ _ _ rfl _ _ rfl rfl _ _ Hr5.out (Try.blockFits HM.out) (by rw [bcells_size, bcells_size, HM.out, zeros_len]) (oneCell_bcells _) ?_)
    apply Stop.go; intro w6 Ho6 Hb6
    go_wp2_with ((with_reducible show bodyPost _ _ _ _ _ _); refine bodyPost_cell rfl _ rfl _ _ Hb6.out _ _ Try.underlying27 (Try.blockFits HM.out) rfl ?_)
    apply Stop.go
    exact ⟨by rw [Hl.out], bonly (bonly (bt Hw4.out (bdrew w4 1)) Ho5.out (Nat.le_refl _)) Ho6.out (by rw [Z2.out, Z1.out]; omega)⟩

set_option maxHeartbeats 400000 in
theorem clone_any (ad : Addr) (n c : Nat) (l : List UInt8) (hn : l.length = n) (hm : n ≤ 140737488355328) (w : World) (hr : RB w (some ad) l) :
    Calls Try.prog 40 #[.slice (some ad) n c] w fun e w' => ∃ g c', e = .returned (.slice (some ⟨g, 0, none⟩) n c') ∧ RB w' (some ⟨g, 0, none⟩) l ∧ n ≤ c' ∧ c' ≤ maxLen ∧ w.heap.size ≤ g ∧ Below w.heap.size w w' := by
  have Hn := Lib.hid hn
  have Hr := Lib.hid hr
  clear hn hr
  have qn : ∀ w' : World, (binOp .eql 23 (.slice (some ad) n c) (.slice none 0 0)).run Try.prog w' = .ok (.bool false) w' := fun w' => Lib.run_eql_slice_nil w' _ _ (some ad) n c 0 0 Try.underlying23
  go_enter Try.func40, Try.ntmps40
  go_wp2_with (first | refine wpList_build0 rfl _ _ rfl Try.underlying23 Try.byteSize ?_ | (at_builtin; refine wpList_append_bytes rfl _ _ _ _ rfl Try.underlying23 Try.byteInfo rfl (some ad) n c l rfl Hn.out Hr.out hm ?_))
  apply Stop.go
  intro g c' w1 Hr1 Hc1 Hb1
  go_wp2_with fail
  go_ret
  exact ⟨g, c', rfl, Hr1.out, Hc1.out.1, Hc1.out.2.1, Hc1.out.2.2, Hb1.out⟩

set_option maxHeartbeats 800000 in
theorem part_any (L : List UInt8) (hL : L.length = 256) (s t : Nat) (h1 : s ≤ t) (h2 : t ≤ 256) (h3 : s < 256) (w : World) :
    Calls Try.prog 35 #[.agg (bcells L), .int .i64 s, .int .i64 t] w (RetPB w.heap.size w ⟨s, (L.drop s).take (t - s)⟩) := by
  have HL := Lib.hid hL
  have Hl := Lib.hid (show ((L.drop s).take (t - s)).length = t - s by rw [List.length_take, List.length_drop, hL]; omega)
  clear hL
  go_enter Try.func35, Try.ntmps35
  go_wp2_with (refine wpList_box_row rfl _ _ rfl _ rfl ?_)
  apply Stop.go; intro w1 Hg1 Hb1
  go_wp2_with (refine wpList_alloc_row rfl _ rfl _ Try.patchZero ?_)
  apply Stop.go; intro w2 Hg2 Hb2
  have Hw2 := Lib.hid (bt Hg1.out.1 Hg2.out.1)
  have Hx2 := Lib.hid (Hb1.out.ext Hg2.out.1)
  have Z1 := Lib.hid Hg1.out.1.size
  go_wp2_with (refine wpList_slice_arr_lh rfl _ _ _ _ rfl _ _ Try.underlying27 Try.byteSize _ rfl _ _ _ _ rfl rfl s t rfl rfl h1 h2 h3 ?_)
  refine (clone_any _ (t - s) _ ((L.drop s).take (t - s)) Hl.out (by omega) _ (RB.of_blk_at Hx2.out s (t - s))).mono ?_; rintro e w3 ⟨g, c', rfl, hr3, hc3, hm3, hg3, hb3⟩
  have Hr3 := Lib.hid hr3
  have Hb3 := Lib.hid hb3
  have Hy3 := Lib.hid (Hb2.out.ext hb3)
  have Hf3 := Lib.hid (show g ≠ w1.heap.size ∧ w.heap.size ≤ g from ⟨by have := Hb2.out.lt; omega, by have := Hw2.out.size; omega⟩)
  clear hr3 hb3 hg3
  go_wp2_with (refine wpList_store_arr rfl _ _ _ rfl _ #[.int .i64 s, .slice (some ⟨g, 0, none⟩) (t - s) c'] rfl rfl _ _ Hy3.out Try.patchSize rfl (by simp [Value.oneCell']) ?_)
  apply Stop.go; intro w4 Ho4 Hb4
  go_wp2_with ((with_reducible show bodyPost _ _ _ _ _ _); refine bodyPost_struct rfl _ rfl _ _ Hb4.out _ Try.underlying29 rfl Try.patchSize rfl ?_)
  apply Stop.go
  refine ⟨_, _, c', rfl, ⟨by show -9223372036854775808 ≤ (s : Int); omega, by show (s : Int) < 9223372036854775808; omega, Hl.out, hc3, hm3, fun k hk => ?_⟩, bonly (bt Hw2.out Hb3.out) Ho4.out Z1.out, fun ad e => ?_⟩
  · obtain ⟨ad, e, hc⟩ := Hr3.out k hk
    injection e with e
    subst e
    refine ⟨_, rfl, ?_⟩
    rw [← hc]
    refine World.cell?_of_block (Ho4.out.block _ ?_)
    rw [block_of_add]
    exact Hf3.out.1
  · injection e with e
    subst e
    exact Hf3.out.2

set_option maxHeartbeats 1600000 in
theorem was_any (L : List UInt8) (hL : L.length = 256) (p : Pt) (A : Option Addr) (n c : Nat) (w : World) (hp : PV w p A n c) :
    Calls Try.prog 18 #[.agg (bcells L), .agg #[.int .i64 p.at_, .slice A n c]] w (RetPB w.heap.size w (wasP L p)) := by
  have HL := Lib.hid hL
  have Hp := Lib.hid hp
  clear hL hp
  go_enter Try.func18, Try.ntmps18
  go_wp2_with (refine wpList_box_row rfl _ _ rfl _ rfl ?_)
  apply Stop.go; intro w1 Hg1 Hb1
  go_wp2_with (refine wpList_box_row rfl _ _ rfl _ rfl ?_)
  apply Stop.go; intro w2 Hg2 Hb2
  go_wp2_with (refine wpList_alloc_row rfl _ rfl _ Try.patchZero ?_)
  apply Stop.go; intro w3 Hg3 Hb3
  have Hw2 := Lib.hid (bt Hg1.out.1 Hg2.out.1)
  have Hw3 := Lib.hid (bt Hw2.out Hg3.out.1)
  have Hp3 := Lib.hid (Hp.out.below Hw3.out)
  go_wp2_with (refine wpList_load_blk rfl _ _ rfl _ rfl _ _ (Hb2.out.ext Hg3.out.1) _ Try.underlying29 rfl Try.patchSize ?_)
  refine (mayBe_any p A n c _ Hp3.out).mono ?_; rintro e w4 ⟨rfl, hb4⟩
  have D4 := Lib.hid (bt Hg3.out.1 hb4)
  have Hr4 := Lib.hid (Hb3.out.ext hb4)
  have Hp4 := Lib.hid (Hp3.out.below hb4)
  have Hx2 := Lib.hid (Hb1.out.ext Hg2.out.1)
  clear hb4
  cases hr : p.right
  · have Hl := Lib.hid (wasP_wrong (L := L) hr)
    clear hr
    go_wp2_with (refine wpList_store_arr rfl _ _ _ rfl _ #[.int .i64 0, .slice none 0 0] rfl rfl _ _ Hr4.out Try.patchSize rfl (by simp [Value.oneCell']) ?_)
    apply Stop.go; intro w5 Ho5 Hb5
    go_wp2_with ((with_reducible show bodyPost _ _ _ _ _ _); refine bodyPost_struct rfl _ rfl _ _ Hb5.out _ Try.underlying29 rfl Try.patchSize rfl ?_)
    apply Stop.go
    rw [Hl.out]
    exact ⟨none, 0, 0, rfl, ⟨by decide, by decide, rfl, Nat.le_refl _, by unfold maxLen; omega, RB.nil_ _ _⟩, bonly (bt Hw2.out D4.out) Ho5.out Hw2.out.size, fun ad e => by cases e⟩
  · have h := Pt.right_iff.1 hr
    rw [Hp.out.len] at h
    obtain ⟨h1, h2, h3, h4⟩ := h
    obtain ⟨q, hq⟩ := Int.eq_ofNat_of_zero_le h3
    have Hr := Lib.hid hr
    have Hl := Lib.hid (show wasP L p = ⟨q, (L.drop q).take ((q + n) - q)⟩ by unfold wasP Pt.lo; rw [hr, hq, Hp.out.len, Nat.add_sub_cancel_left]; rfl)
    have He := Lib.hid (show p.at_ + (n : Int) = ((q + n : Nat) : Int) by rw [hq]; omega)
    have Hq := Lib.hid hq
    have h5 : q + n ≤ 256 := by omega
    clear hr h3 h4 hq
    go_wp2_with fail
    refine WH.start (S := fun w' : World => Below w2.heap.size w2 w') [false, false, false, false, false, false, false] 7 rfl rfl (by kernel_rfl) (bt D4.out (bdrew w4 1)) (fun hSn => ?_)
    have D := Lib.hid (bdrew w4 1)
    refine WH.take 0 _ _ rfl (by kernel_rfl) (fun _ _ _ h => h) rfl (by assumption) (fun w' hSw => exec_load_blk _ _ rfl _ rfl _ _ (Hx2.out.ext hSw) _ (Try.underlying27) rfl (Try.blockFits HL.out)) ?_; simp only [Act.put, List.setIfInBounds_toArray, List.set_cons_zero, List.set_cons_succ]
    refine WH.take 1 _ ?_ rfl (by kernel_rfl) (fun _ _ _ h => h) rfl (by assumption) ?_ ?_; rotate_left; (focus (intro w hSw; (try dsimp only at hSw); (first | (go_simp; done) | (go_simp; with_reducible rfl)))); simp only [Act.put, List.setIfInBounds_toArray, List.set_cons_zero, List.set_cons_succ]
    refine WH.take 2 _ _ rfl (by kernel_rfl) (fun _ _ _ h => h) rfl (by assumption) (fun w' hSw => exec_load_cell _ _ rfl _ rfl (.int .i64 p.at_) ((Hb2.out.ext hSw).cell 0) _ (Try.underlying3) rfl) ?_; simp only [Act.put, List.setIfInBounds_toArray, List.set_cons_zero, List.set_cons_succ]
    refine WH.take 3 _ _ rfl (by kernel_rfl) (fun _ _ _ h => h) rfl (by assumption) (fun w' hSw => exec_load_blk _ _ rfl _ rfl _ _ (Hb2.out.ext hSw) _ (Try.underlying29) rfl (Try.patchSize)) ?_; simp only [Act.put, List.setIfInBounds_toArray, List.set_cons_zero, List.set_cons_succ]
    refine WH.only 4 _ rfl (by kernel_rfl) rfl (fun K hK => ?_); go_simp; refine (end_any p A n c _ (Hp4.out.below D.out) Hr.out).mono ?_; rintro e w5 ⟨rfl, hb5⟩; go_simp
    have D5 := Lib.hid (bt D.out hb5)
    have hSn := bt D4.out D5.out; refine hK _ _ hSn ?_; clear hK; clear K; simp only [List.set_cons_zero, List.set_cons_succ]
    rw [He.out, Hq.out]
    refine WH.only 5 _ rfl (by kernel_rfl) rfl (fun K hK => ?_); go_simp; refine (part_any L HL.out q (q + n) (by omega) (by omega) (by omega) _).mono ?_; rintro e w6 ⟨A6, n6, c6, rfl, hp6, hb6, hf6⟩; go_simp
    have D6 := Lib.hid (bt D5.out hb6)
    have Hf6 := Lib.hid hf6
    have Hp6 := Lib.hid hp6
    have hSn := bt D4.out D6.out; refine hK _ _ hSn ?_; clear hK; clear K; simp only [List.set_cons_zero, List.set_cons_succ]
    refine WH.only 6 _ rfl (by kernel_rfl) rfl (fun K hK => ?_)
    refine ow_store _ _ _ rfl _ #[.int .i64 q, .slice A6 n6 c6] rfl rfl _ _ (Hr4.out.ext D6.out) Try.patchSize rfl (by simp [Value.oneCell']) ?_
    apply Stop.go
    intro w7 Ho7 Hb7
    have hSn := bonly (bt D4.out D6.out) Ho7.out (Nat.le_refl _); refine hK _ _ hSn ?_; clear hK; clear K; simp only [Act.put, List.set_cons_zero, List.set_cons_succ]
    refine WH.done (by kernel_rfl) ?_
    have Hfin := Lib.hid (bonly (bt Hw2.out (bt D4.out D6.out)) Ho7.out Hw2.out.size)
    have Hsz := Lib.hid (show w2.heap.size < w5.heap.size ∧ w.heap.size ≤ w5.heap.size from ⟨Nat.lt_of_lt_of_le Hr4.out.lt D5.out.size, Nat.le_trans Hw2.out.size (Nat.le_trans D4.out.size D5.out.size)⟩)
    go_wp2_with ((with_reducible show bodyPost _ _ _ _ _ _); refine bodyPost_struct rfl _ rfl _ _ Hb7.out _ Try.underlying29 rfl Try.patchSize rfl ?_)
    apply Stop.go
    rw [Hl.out]
    refine ⟨A6, n6, c6, rfl, ⟨Hp6.out.lo, Hp6.out.hi, Hp6.out.len, Hp6.out.cap, Hp6.out.max, fun k hk => ?_⟩, Hfin.out, fun ad e => Nat.le_trans Hsz.out.2 (Hf6.out ad e)⟩
    obtain ⟨ad, e, hc⟩ := Hp6.out.read k hk
    refine ⟨ad, e, ?_⟩
    rw [← hc]
    refine World.cell?_of_block (Ho7.out.block _ ?_)
    rw [block_of_add]
    have := Hf6.out ad e
    have := Hsz.out.1
    omega

set_option maxHeartbeats 400000 in
theorem equal_any (ad : Addr) (n c : Nat) (l : List UInt8) (hn : l.length = n) (ad' : Addr) (n' c' : Nat) (l' : List UInt8) (hn' : l'.length = n') (w : World) (hr : RB w (some ad) l) (hr' : RB w (some ad') l') :
    Calls Try.prog 39 #[.slice (some ad) n c, .slice (some ad') n' c'] w fun e w' => e = .returned (.bool (decide (l = l'))) ∧ w = w' := by
  have Hn := Lib.hid hn
  have Hr := Lib.hid hr
  have Hn' := Lib.hid hn'
  have Hr' := Lib.hid hr'
  clear hn hr hn' hr'
  go_enter Try.func39, Try.ntmps39
  go_wp2_with (first | refine wpList_bytes_text rfl _ _ _ _ rfl Try.underlying23 Try.underlying5 Try.underlying9 ad n c rfl l Hn.out Hr.out ?_ | refine wpList_bytes_text rfl _ _ _ _ rfl Try.underlying23 Try.underlying5 Try.underlying9 ad' n' c' rfl l' Hn'.out Hr'.out ?_)
  go_ret
  refine ⟨?_, rfl⟩
  show Ending.returned (.bool (l == l')) = _
  rw [show (l == l') = decide (l = l') from Bool.eq_iff_iff.2 (by simp)]

/-- Are two the same? -/
def sameP (p q : Pt) : Bool := decide (p.at_ = q.at_) && decide (p.data = q.data)
theorem sameP_iff {p q : Pt} : sameP p q = true ↔ p = q := by
  obtain ⟨a, l⟩ := p
  obtain ⟨b, m⟩ := q
  simp [sameP]
theorem sameP_self (p : Pt) : sameP p p = true := sameP_iff.2 rfl

set_option maxHeartbeats 800000 in
theorem psame_any (p : Pt) (ad : Addr) (n c : Nat) (q : Pt) (ad' : Addr) (n' c' : Nat) (w : World) (hp : PV w p (some ad) n c) (hq : PV w q (some ad') n' c') :
    Calls Try.prog 22 #[.agg #[.int .i64 p.at_, .slice (some ad) n c], .agg #[.int .i64 q.at_, .slice (some ad') n' c']] w fun e w' => e = .returned (.bool (sameP p q)) ∧ Below w.heap.size w w' := by
  have Hp := Lib.hid hp
  have Hq := Lib.hid hq
  clear hp hq
  have Hs := Lib.hid (show sameP p q = (decide (p.at_ = q.at_) && decide (p.data = q.data)) from rfl)
  generalize sameP p q = s at *
  by_cases h : p.at_ = q.at_
  all_goals
    have He := Lib.hid h
    first
    | (have d0 : (p.at_ == q.at_) = true := by simp [h])
    | (have d0 : (p.at_ == q.at_) = false := by simp [h])
    clear h
    go_enter Try.func22, Try.ntmps22
    go_wp2_with (refine wpList_box_row rfl _ _ rfl _ rfl ?_)
    apply Stop.go; intro w1 Hg1 Hb1
    go_wp2_with (refine wpList_box_row rfl _ _ rfl _ rfl ?_)
    apply Stop.go; intro w2 Hg2 Hb2
    have Hw2 := Lib.hid (bt Hg1.out.1 Hg2.out.1)
    have Hp2 := Lib.hid (Hp.out.below Hw2.out)
    have Hq2 := Lib.hid (Hq.out.below Hw2.out)
    have c0 : w2.cell? ⟨w.heap.size, 0, none⟩ = some (.int .i64 p.at_) := (Hb1.out.ext Hg2.out.1).cell 0
    have c1 : w2.cell? ⟨w.heap.size, 1, none⟩ = some (.slice (some ad) n c) := (Hb1.out.ext Hg2.out.1).cell 1
    have c2 : w2.cell? ⟨w1.heap.size, 0, none⟩ = some (.int .i64 q.at_) := Hb2.out.cell 0
    have c3 : w2.cell? ⟨w1.heap.size, 1, none⟩ = some (.slice (some ad') n' c') := Hb2.out.cell 1
    go_wp2_with fail
    first
    | (refine (equal_any ad n c p.data Hp.out.len ad' n' c' q.data Hq.out.len _ Hp2.out.read Hq2.out.read).mono ?_; rintro e w3 ⟨rfl, rfl⟩
       go_wp2_with fail
       go_ret
       rw [Hs.out, decide_eq_true He.out]
       exact ⟨rfl, Hw2.out⟩)
    | (go_ret
       rw [Hs.out, decide_eq_false He.out]
       exact ⟨rfl, Hw2.out⟩)

set_option maxHeartbeats 1600000 in
theorem meet_any (p : Pt) (A : Option Addr) (n c : Nat) (q : Pt) (A' : Option Addr) (n' c' : Nat) (w : World) (hp : PV w p A n c) (hq : PV w q A' n' c') :
    Calls Try.prog 20 #[.agg #[.int .i64 p.at_, .slice A n c], .agg #[.int .i64 q.at_, .slice A' n' c']] w fun e w' => e = .returned (.bool (meetP p q)) ∧ Below w.heap.size w w' := by
  have Hp := Lib.hid hp
  have Hq := Lib.hid hq
  clear hp hq
  have hm := meetP_ends p q
  rw [Hp.out.len, Hq.out.len] at hm
  have Hm := Lib.hid hm
  clear hm
  generalize meetP p q = r at *
  go_enter Try.func20, Try.ntmps20
  go_wp2_with (refine wpList_box_row rfl _ _ rfl _ rfl ?_)
  apply Stop.go; intro w1 Hg1 Hb1
  go_wp2_with (refine wpList_box_row rfl _ _ rfl _ rfl ?_)
  apply Stop.go; intro w2 Hg2 Hb2
  have Hw2 := Lib.hid (bt Hg1.out.1 Hg2.out.1)
  have Hx2 := Lib.hid (Hb1.out.ext Hg2.out.1)
  have Hp2 := Lib.hid (Hp.out.below Hw2.out)
  have Hq2 := Lib.hid (Hq.out.below Hw2.out)
  go_wp2_with fail
  refine WH.start (S := fun w' : World => Below w2.heap.size w2 w') (List.replicate 21 false) 21 rfl rfl (by kernel_rfl) (bdrew w2 1) (fun hSn => ?_)
  simp only [List.replicate]
  refine WH.take 0 _ _ rfl (by kernel_rfl) (fun _ _ _ h => h) rfl (by assumption) (fun w' hSw => exec_load_blk _ _ rfl _ rfl _ _ (Hx2.out.ext hSw) _ (Try.underlying29) rfl (Try.patchSize)) ?_; simp only [Act.put, List.setIfInBounds_toArray, List.set_cons_zero, List.set_cons_succ]
  refine WH.only 1 _ rfl (by kernel_rfl) rfl (fun K hK => ?_); go_simp; refine (mayBe_any p A n c _ (Hp2.out.below hSn)).mono ?_; rintro e w3 ⟨rfl, hb3⟩; go_simp
  have hSn := bt hSn hb3; refine hK _ _ hSn ?_; clear hK; clear K; simp only [List.set_cons_zero, List.set_cons_succ]
  refine WH.take 2 _ ?_ rfl (by kernel_rfl) (fun _ _ _ h => h) rfl (by assumption) ?_ ?_; rotate_left; (focus (intro w hSw; (try dsimp only at hSw); (first | (go_simp; done) | (go_simp; with_reducible rfl)))); simp only [Act.put, List.setIfInBounds_toArray, List.set_cons_zero, List.set_cons_succ]
  cases hpr : p.right
  · refine WH.skip 3 _ rfl (by kernel_rfl) (fun _ _ _ h => h) rfl (by assumption) ?_; simp only [Act.put, List.setIfInBounds_toArray, List.set_cons_zero, List.set_cons_succ]; refine WH.onlySkip 4 _ rfl (by kernel_rfl) rfl (by assumption) ?_; simp only [Act.put, List.setIfInBounds_toArray, List.set_cons_zero, List.set_cons_succ]; refine WH.take 5 _ ?_ rfl (by kernel_rfl) (fun _ _ _ h => h) rfl (by assumption) ?_ ?_; rotate_left; (focus (intro w hSw; (try dsimp only at hSw); (first | (go_simp; done) | (go_simp; with_reducible rfl)))); simp only [Act.put, List.setIfInBounds_toArray, List.set_cons_zero, List.set_cons_succ]; refine WH.take 6 _ ?_ rfl (by kernel_rfl) (fun _ _ _ h => h) rfl (by assumption) ?_ ?_; rotate_left; (focus (intro w hSw; (try dsimp only at hSw); (first | (go_simp; done) | (go_simp; with_reducible rfl)))); simp only [Act.put, List.setIfInBounds_toArray, List.set_cons_zero, List.set_cons_succ]
    refine WH.skip 7 _ rfl (by kernel_rfl) (fun _ _ _ h => h) rfl (by assumption) ?_; simp only [Act.put, List.setIfInBounds_toArray, List.set_cons_zero, List.set_cons_succ]; refine WH.skip 8 _ rfl (by kernel_rfl) (fun _ _ _ h => h) rfl (by assumption) ?_; simp only [Act.put, List.setIfInBounds_toArray, List.set_cons_zero, List.set_cons_succ]; refine WH.skip 9 _ rfl (by kernel_rfl) (fun _ _ _ h => h) rfl (by assumption) ?_; simp only [Act.put, List.setIfInBounds_toArray, List.set_cons_zero, List.set_cons_succ]; refine WH.onlySkip 10 _ rfl (by kernel_rfl) rfl (by assumption) ?_; simp only [Act.put, List.setIfInBounds_toArray, List.set_cons_zero, List.set_cons_succ]; refine WH.skip 11 _ rfl (by kernel_rfl) (fun _ _ _ h => h) rfl (by assumption) ?_; simp only [Act.put, List.setIfInBounds_toArray, List.set_cons_zero, List.set_cons_succ]; refine WH.take 12 _ ?_ rfl (by kernel_rfl) (fun _ _ _ h => h) rfl (by assumption) ?_ ?_; rotate_left; (focus (intro w hSw; (try dsimp only at hSw); (first | (go_simp; done) | (go_simp; with_reducible rfl)))); simp only [Act.put, List.setIfInBounds_toArray, List.set_cons_zero, List.set_cons_succ]; refine WH.take 13 _ ?_ rfl (by kernel_rfl) (fun _ _ _ h => h) rfl (by assumption) ?_ ?_; rotate_left; (focus (intro w hSw; (try dsimp only at hSw); (first | (go_simp; done) | (go_simp; with_reducible rfl)))); simp only [Act.put, List.setIfInBounds_toArray, List.set_cons_zero, List.set_cons_succ]
    refine WH.skip 14 _ rfl (by kernel_rfl) (fun _ _ _ h => h) rfl (by assumption) ?_; simp only [Act.put, List.setIfInBounds_toArray, List.set_cons_zero, List.set_cons_succ]; refine WH.skip 15 _ rfl (by kernel_rfl) (fun _ _ _ h => h) rfl (by assumption) ?_; simp only [Act.put, List.setIfInBounds_toArray, List.set_cons_zero, List.set_cons_succ]; refine WH.skip 16 _ rfl (by kernel_rfl) (fun _ _ _ h => h) rfl (by assumption) ?_; simp only [Act.put, List.setIfInBounds_toArray, List.set_cons_zero, List.set_cons_succ]; refine WH.onlySkip 17 _ rfl (by kernel_rfl) rfl (by assumption) ?_; simp only [Act.put, List.setIfInBounds_toArray, List.set_cons_zero, List.set_cons_succ]; refine WH.skip 18 _ rfl (by kernel_rfl) (fun _ _ _ h => h) rfl (by assumption) ?_; simp only [Act.put, List.setIfInBounds_toArray, List.set_cons_zero, List.set_cons_succ]; refine WH.take 19 _ ?_ rfl (by kernel_rfl) (fun _ _ _ h => h) rfl (by assumption) ?_ ?_; rotate_left; (focus (intro w hSw; (try dsimp only at hSw); (first | (go_simp; done) | (go_simp; with_reducible rfl)))); simp only [Act.put, List.setIfInBounds_toArray, List.set_cons_zero, List.set_cons_succ]; refine WH.take 20 _ ?_ rfl (by kernel_rfl) (fun _ _ _ h => h) rfl (by assumption) ?_ ?_; rotate_left; (focus (intro w hSw; (try dsimp only at hSw); (first | (go_simp; done) | (go_simp; with_reducible rfl)))); simp only [Act.put, List.setIfInBounds_toArray, List.set_cons_zero, List.set_cons_succ]
    refine WH.done (by kernel_rfl) ?_
    have Hfin := Lib.hid (bt Hw2.out hSn)
    clear hSn
    go_wp2_with fail
    go_ret
    rw [Hm.out, hpr]
    exact ⟨rfl, Hfin.out⟩
  refine WH.take 3 _ _ rfl (by kernel_rfl) (fun _ _ _ h => h) rfl (by assumption) (fun w' hSw => exec_load_blk _ _ rfl _ rfl _ _ (Hb2.out.ext hSw) _ (Try.underlying29) rfl (Try.patchSize)) ?_; simp only [Act.put, List.setIfInBounds_toArray, List.set_cons_zero, List.set_cons_succ]
  refine WH.only 4 _ rfl (by kernel_rfl) rfl (fun K hK => ?_); go_simp; refine (mayBe_any q A' n' c' _ (Hq2.out.below hSn)).mono ?_; rintro e w4 ⟨rfl, hb4⟩; go_simp
  have hSn := bt hSn hb4; refine hK _ _ hSn ?_; clear hK; clear K; simp only [List.set_cons_zero, List.set_cons_succ]
  refine WH.take 5 _ ?_ rfl (by kernel_rfl) (fun _ _ _ h => h) rfl (by assumption) ?_ ?_; rotate_left; (focus (intro w hSw; (try dsimp only at hSw); (first | (go_simp; done) | (go_simp; with_reducible rfl)))); simp only [Act.put, List.setIfInBounds_toArray, List.set_cons_zero, List.set_cons_succ]
  refine WH.take 6 _ ?_ rfl (by kernel_rfl) (fun _ _ _ h => h) rfl (by assumption) ?_ ?_; rotate_left; (focus (intro w hSw; (try dsimp only at hSw); (first | (go_simp; done) | (go_simp; with_reducible rfl)))); simp only [Act.put, List.setIfInBounds_toArray, List.set_cons_zero, List.set_cons_succ]
  cases hqr : q.right
  · refine WH.skip 7 _ rfl (by kernel_rfl) (fun _ _ _ h => h) rfl (by assumption) ?_; simp only [Act.put, List.setIfInBounds_toArray, List.set_cons_zero, List.set_cons_succ]; refine WH.skip 8 _ rfl (by kernel_rfl) (fun _ _ _ h => h) rfl (by assumption) ?_; simp only [Act.put, List.setIfInBounds_toArray, List.set_cons_zero, List.set_cons_succ]; refine WH.skip 9 _ rfl (by kernel_rfl) (fun _ _ _ h => h) rfl (by assumption) ?_; simp only [Act.put, List.setIfInBounds_toArray, List.set_cons_zero, List.set_cons_succ]; refine WH.onlySkip 10 _ rfl (by kernel_rfl) rfl (by assumption) ?_; simp only [Act.put, List.setIfInBounds_toArray, List.set_cons_zero, List.set_cons_succ]; refine WH.skip 11 _ rfl (by kernel_rfl) (fun _ _ _ h => h) rfl (by assumption) ?_; simp only [Act.put, List.setIfInBounds_toArray, List.set_cons_zero, List.set_cons_succ]; refine WH.take 12 _ ?_ rfl (by kernel_rfl) (fun _ _ _ h => h) rfl (by assumption) ?_ ?_; rotate_left; (focus (intro w hSw; (try dsimp only at hSw); (first | (go_simp; done) | (go_simp; with_reducible rfl)))); simp only [Act.put, List.setIfInBounds_toArray, List.set_cons_zero, List.set_cons_succ]; refine WH.take 13 _ ?_ rfl (by kernel_rfl) (fun _ _ _ h => h) rfl (by assumption) ?_ ?_; rotate_left; (focus (intro w hSw; (try dsimp only at hSw); (first | (go_simp; done) | (go_simp; with_reducible rfl)))); simp only [Act.put, List.setIfInBounds_toArray, List.set_cons_zero, List.set_cons_succ]
    refine WH.skip 14 _ rfl (by kernel_rfl) (fun _ _ _ h => h) rfl (by assumption) ?_; simp only [Act.put, List.setIfInBounds_toArray, List.set_cons_zero, List.set_cons_succ]; refine WH.skip 15 _ rfl (by kernel_rfl) (fun _ _ _ h => h) rfl (by assumption) ?_; simp only [Act.put, List.setIfInBounds_toArray, List.set_cons_zero, List.set_cons_succ]; refine WH.skip 16 _ rfl (by kernel_rfl) (fun _ _ _ h => h) rfl (by assumption) ?_; simp only [Act.put, List.setIfInBounds_toArray, List.set_cons_zero, List.set_cons_succ]; refine WH.onlySkip 17 _ rfl (by kernel_rfl) rfl (by assumption) ?_; simp only [Act.put, List.setIfInBounds_toArray, List.set_cons_zero, List.set_cons_succ]; refine WH.skip 18 _ rfl (by kernel_rfl) (fun _ _ _ h => h) rfl (by assumption) ?_; simp only [Act.put, List.setIfInBounds_toArray, List.set_cons_zero, List.set_cons_succ]; refine WH.take 19 _ ?_ rfl (by kernel_rfl) (fun _ _ _ h => h) rfl (by assumption) ?_ ?_; rotate_left; (focus (intro w hSw; (try dsimp only at hSw); (first | (go_simp; done) | (go_simp; with_reducible rfl)))); simp only [Act.put, List.setIfInBounds_toArray, List.set_cons_zero, List.set_cons_succ]; refine WH.take 20 _ ?_ rfl (by kernel_rfl) (fun _ _ _ h => h) rfl (by assumption) ?_ ?_; rotate_left; (focus (intro w hSw; (try dsimp only at hSw); (first | (go_simp; done) | (go_simp; with_reducible rfl)))); simp only [Act.put, List.setIfInBounds_toArray, List.set_cons_zero, List.set_cons_succ]
    refine WH.done (by kernel_rfl) ?_
    have Hfin := Lib.hid (bt Hw2.out hSn)
    clear hSn
    go_wp2_with fail
    go_ret
    rw [Hm.out, hpr, hqr]
    exact ⟨rfl, Hfin.out⟩
  refine WH.take 7 _ ?_ rfl (by kernel_rfl) (fun _ _ _ h => h) rfl (by assumption) ?_ ?_; rotate_left; (focus (intro w hSw; (try dsimp only at hSw); (first | (go_simp; done) | (go_simp; with_reducible rfl)))); simp only [Act.put, List.setIfInBounds_toArray, List.set_cons_zero, List.set_cons_succ]
  refine WH.take 8 _ _ rfl (by kernel_rfl) (fun _ _ _ h => h) rfl (by assumption) (fun w' hSw => exec_load_cell _ _ rfl _ rfl (.int .i64 p.at_) ((Hx2.out.ext hSw).cell 0) _ (Try.underlying3) rfl) ?_; simp only [Act.put, List.setIfInBounds_toArray, List.set_cons_zero, List.set_cons_succ]
  refine WH.take 9 _ _ rfl (by kernel_rfl) (fun _ _ _ h => h) rfl (by assumption) (fun w' hSw => exec_load_blk _ _ rfl _ rfl _ _ (Hb2.out.ext hSw) _ (Try.underlying29) rfl (Try.patchSize)) ?_; simp only [Act.put, List.setIfInBounds_toArray, List.set_cons_zero, List.set_cons_succ]
  refine WH.only 10 _ rfl (by kernel_rfl) rfl (fun K hK => ?_); go_simp; refine (end_any q A' n' c' _ (Hq2.out.below hSn) hqr).mono ?_; rintro e w5 ⟨rfl, hb5⟩; go_simp
  have hSn := bt hSn hb5; refine hK _ _ hSn ?_; clear hK; clear K; simp only [List.set_cons_zero, List.set_cons_succ]
  refine WH.take 11 _ ?_ rfl (by kernel_rfl) (fun _ _ _ h => h) rfl (by assumption) ?_ ?_; rotate_left; (focus (intro w hSw; (try dsimp only at hSw); (first | (go_simp; done) | (go_simp; with_reducible rfl)))); simp only [Act.put, List.setIfInBounds_toArray, List.set_cons_zero, List.set_cons_succ]
  refine WH.take 12 _ ?_ rfl (by kernel_rfl) (fun _ _ _ h => h) rfl (by assumption) ?_ ?_; rotate_left; (focus (intro w hSw; (try dsimp only at hSw); (first | (go_simp; done) | (go_simp; with_reducible rfl)))); simp only [Act.put, List.setIfInBounds_toArray, List.set_cons_zero, List.set_cons_succ]
  refine WH.take 13 _ ?_ rfl (by kernel_rfl) (fun _ _ _ h => h) rfl (by assumption) ?_ ?_; rotate_left; (focus (intro w hSw; (try dsimp only at hSw); (first | (go_simp; done) | (go_simp; with_reducible rfl)))); simp only [Act.put, List.setIfInBounds_toArray, List.set_cons_zero, List.set_cons_succ]
  cases h1 : decide (p.at_ < q.at_ + (n' : Int))
  · refine WH.skip 14 _ rfl (by kernel_rfl) (fun _ _ _ h => h) rfl (by assumption) ?_; simp only [Act.put, List.setIfInBounds_toArray, List.set_cons_zero, List.set_cons_succ]; refine WH.skip 15 _ rfl (by kernel_rfl) (fun _ _ _ h => h) rfl (by assumption) ?_; simp only [Act.put, List.setIfInBounds_toArray, List.set_cons_zero, List.set_cons_succ]; refine WH.skip 16 _ rfl (by kernel_rfl) (fun _ _ _ h => h) rfl (by assumption) ?_; simp only [Act.put, List.setIfInBounds_toArray, List.set_cons_zero, List.set_cons_succ]; refine WH.onlySkip 17 _ rfl (by kernel_rfl) rfl (by assumption) ?_; simp only [Act.put, List.setIfInBounds_toArray, List.set_cons_zero, List.set_cons_succ]; refine WH.skip 18 _ rfl (by kernel_rfl) (fun _ _ _ h => h) rfl (by assumption) ?_; simp only [Act.put, List.setIfInBounds_toArray, List.set_cons_zero, List.set_cons_succ]; refine WH.take 19 _ ?_ rfl (by kernel_rfl) (fun _ _ _ h => h) rfl (by assumption) ?_ ?_; rotate_left; (focus (intro w hSw; (try dsimp only at hSw); (first | (go_simp; done) | (go_simp; with_reducible rfl)))); simp only [Act.put, List.setIfInBounds_toArray, List.set_cons_zero, List.set_cons_succ]; refine WH.take 20 _ ?_ rfl (by kernel_rfl) (fun _ _ _ h => h) rfl (by assumption) ?_ ?_; rotate_left; (focus (intro w hSw; (try dsimp only at hSw); (first | (go_simp; done) | (go_simp; with_reducible rfl)))); simp only [Act.put, List.setIfInBounds_toArray, List.set_cons_zero, List.set_cons_succ]
    refine WH.done (by kernel_rfl) ?_
    have Hfin := Lib.hid (bt Hw2.out hSn)
    clear hSn
    go_wp2_with fail
    go_ret
    rw [Hm.out, hpr, hqr, h1]
    exact ⟨rfl, Hfin.out⟩
  refine WH.take 14 _ ?_ rfl (by kernel_rfl) (fun _ _ _ h => h) rfl (by assumption) ?_ ?_; rotate_left; (focus (intro w hSw; (try dsimp only at hSw); (first | (go_simp; done) | (go_simp; with_reducible rfl)))); simp only [Act.put, List.setIfInBounds_toArray, List.set_cons_zero, List.set_cons_succ]
  refine WH.take 15 _ _ rfl (by kernel_rfl) (fun _ _ _ h => h) rfl (by assumption) (fun w' hSw => exec_load_cell _ _ rfl _ rfl (.int .i64 q.at_) ((Hb2.out.ext hSw).cell 0) _ (Try.underlying3) rfl) ?_; simp only [Act.put, List.setIfInBounds_toArray, List.set_cons_zero, List.set_cons_succ]
  refine WH.take 16 _ _ rfl (by kernel_rfl) (fun _ _ _ h => h) rfl (by assumption) (fun w' hSw => exec_load_blk _ _ rfl _ rfl _ _ (Hx2.out.ext hSw) _ (Try.underlying29) rfl (Try.patchSize)) ?_; simp only [Act.put, List.setIfInBounds_toArray, List.set_cons_zero, List.set_cons_succ]
  refine WH.only 17 _ rfl (by kernel_rfl) rfl (fun K hK => ?_); go_simp; refine (end_any p A n c _ (Hp2.out.below hSn) hpr).mono ?_; rintro e w6 ⟨rfl, hb6⟩; go_simp
  have hSn := bt hSn hb6; refine hK _ _ hSn ?_; clear hK; clear K; simp only [List.set_cons_zero, List.set_cons_succ]
  refine WH.take 18 _ ?_ rfl (by kernel_rfl) (fun _ _ _ h => h) rfl (by assumption) ?_ ?_; rotate_left; (focus (intro w hSw; (try dsimp only at hSw); (first | (go_simp; done) | (go_simp; with_reducible rfl)))); simp only [Act.put, List.setIfInBounds_toArray, List.set_cons_zero, List.set_cons_succ]
  refine WH.take 19 _ ?_ rfl (by kernel_rfl) (fun _ _ _ h => h) rfl (by assumption) ?_ ?_; rotate_left; (focus (intro w hSw; (try dsimp only at hSw); (first | (go_simp; done) | (go_simp; with_reducible rfl)))); simp only [Act.put, List.setIfInBounds_toArray, List.set_cons_zero, List.set_cons_succ]
  refine WH.take 20 _ ?_ rfl (by kernel_rfl) (fun _ _ _ h => h) rfl (by assumption) ?_ ?_; rotate_left; (focus (intro w hSw; (try dsimp only at hSw); (first | (go_simp; done) | (go_simp; with_reducible rfl)))); simp only [Act.put, List.setIfInBounds_toArray, List.set_cons_zero, List.set_cons_succ]
  refine WH.done (by kernel_rfl) ?_
  have Hfin := Lib.hid (bt Hw2.out hSn)
  clear hSn
  go_wp2_with fail
  go_ret
  rw [Hm.out, hpr, hqr, h1]
  exact ⟨rfl, Hfin.out⟩

end Go.Proofs.Ytnlcpkffaiegaaa
