/-
  Contracts of package patch: Lay, part, Was, Same, Meet.
-/
import Derived.Test.YtckkdfpmibipfaaPat1
import Derived.Lib.SliceRun
namespace Go.Proofs.Ytckkdfpmibipfaa
set_option maxRecDepth 10000
open Go.RowKit

set_option maxHeartbeats 800000 in
theorem play_any (L : List UInt8) (hL : L.length = 256) (p : Pt) (A : Option Addr) (n c : Nat) (w : World) (hp : PV w p A n c) :
    Calls Try.prog 44 #[.agg (bcells L), .agg #[.int .i64 p.at_, .slice A n c]] w (RetA w (layP L p)) := by
  have HL := Lib.hid hL
  have Hp := Lib.hid hp
  clear hL hp
  go_enter Try.func44, Try.ntmps44
  go_wp2_with (refine wpList_box_row rfl _ _ rfl _ rfl ?_)
  apply Stop.go; intro w1 Hg1 Hb1
  go_wp2_with (refine wpList_box_row rfl _ _ rfl _ rfl ?_)
  apply Stop.go; intro w2 Hg2 Hb2
  go_wp2_with (refine wpList_alloc_row rfl _ rfl _ Try.blockZero ?_)
  apply Stop.go; intro w3 Hg3 Hb3
  have Hx2 := Lib.hid (Hb2.out.ext Hg3.out.1)
  have Hx1 := Lib.hid ((Hb1.out.ext Hg2.out.1).ext Hg3.out.1)
  have Hw3 := Lib.hid (bt (bt Hg1.out.1 Hg2.out.1) Hg3.out.1)
  have Z1 := Lib.hid Hg1.out.2
  have Z2 := Lib.hid Hg2.out.2
  have Hp3 := Lib.hid (Hp.out.below Hw3.out)
  go_wp2_with (refine wpList_load_blk rfl _ _ rfl _ rfl _ _ Hx2.out _ Try.underlying57 rfl Try.patchSize ?_)
  refine (mayBe_any p A n c _ Hp3.out).mono ?_; rintro e w4 ⟨rfl, hb4⟩
  have Hb4 := Lib.hid hb4
  have Hx4 := Lib.hid (Hx2.out.ext hb4)
  have Hy4 := Lib.hid (Hx1.out.ext hb4)
  have Hr4 := Lib.hid (Hb3.out.ext hb4)
  have Hp4 := Lib.hid (Hp3.out.below hb4)
  have Hw4 := Lib.hid (bt Hw3.out hb4)
  clear hb4
  cases hr : p.right
  · have Hl := Lib.hid (layP_wrong (L := L) hr)
    clear hr
    go_wp2_with (first | refine wpList_load_arr rfl _ _ rfl _ rfl _ _ Hy4.out _ _ Try.underlying28 (Try.blockFits HL.out) ?_ | refine wpList_store_arr rfl _ _ _ rfl _ _ rfl rfl _ _ Hr4.out (Try.blockFits HL.out) (by rw [bcells_size, bcells_size, HL.out, zeros_len]) (oneCell_bcells _) ?_)
    apply Stop.go; intro w5 Ho5 Hb5
    go_wp2_with ((with_reducible show bodyPost _ _ _ _ _ _); refine bodyPost_cell rfl _ rfl _ _ Hb5.out _ _ Try.underlying28 (Try.blockFits HL.out) rfl ?_)
    apply Stop.go
    have h1 := Hg1.out.1.size
    have h2 := Hg2.out.1.size
    exact ⟨by rw [Hl.out], bonly Hw4.out Ho5.out (by omega)⟩
  · have h := Pt.right_iff.1 hr
    rw [Hp.out.len] at h
    obtain ⟨h1, h2, h3, h4⟩ := h
    obtain ⟨q, hq⟩ := Int.eq_ofNat_of_zero_le h3
    have hlo : p.lo = q := by unfold Pt.lo; rw [hq]; rfl
    have Hl := Lib.hid (show layP L p = splice L q p.data by unfold layP; rw [hr, ← hlo]; rfl)
    have HM : Hid ((splice L q p.data).length = 256) := Lib.hid (by rw [splice_len _ _ _ (by rw [HL.out, Hp.out.len]; omega), HL.out])
    rw [hq] at Hx4 h4
    clear hr hlo
    go_wp2_with fail
    refine WH.start (S := fun w' : World => Blk w' w1.heap.size 57 #[.int .i64 q, .slice A n c]) [false, false, false, false, false, false] 6 rfl rfl (by kernel_rfl) (Hx4.out.ext (bdrew w4 1)) (fun hSn => ?_)
    refine WH.take 0 _ ?_ rfl (by kernel_rfl) (fun _ _ _ h => h) rfl (by assumption) ?_ ?_; rotate_left; (focus (intro w hSw; (try dsimp only at hSw); (first | (go_simp; done) | (go_simp; with_reducible rfl)))); simp only [Act.put, List.setIfInBounds_toArray, List.set_cons_zero, List.set_cons_succ]
    refine WH.take 1 _ _ rfl (by kernel_rfl) (fun _ _ _ h => h) rfl (by assumption) (fun w' hSw => exec_load_cell _ _ rfl _ rfl (.int .i64 q) (hSw.cell 0) _ (Try.underlying3) rfl) ?_; simp only [Act.put, List.setIfInBounds_toArray, List.set_cons_zero, List.set_cons_succ]
    refine WH.take 2 _ _ rfl (by kernel_rfl) (fun _ _ _ h => h) rfl (by assumption) (fun w' hSw => exec_slice_l _ _ _ rfl _ _ Try.underlying28 Try.byteSize _ rfl _ _ rfl q rfl (by omega)) ?_; simp only [Act.put, List.setIfInBounds_toArray, List.set_cons_zero, List.set_cons_succ]
    refine WH.take 3 _ ?_ rfl (by kernel_rfl) (fun _ _ _ h => h) rfl (by assumption) ?_ ?_; rotate_left; (focus (intro w hSw; (try dsimp only at hSw); (first | (go_simp; done) | (go_simp; with_reducible rfl)))); simp only [Act.put, List.setIfInBounds_toArray, List.set_cons_zero, List.set_cons_succ]
    refine WH.take 4 _ _ rfl (by kernel_rfl) (fun _ _ _ h => h) rfl (by assumption) (fun w' hSw => exec_load_cell _ _ rfl _ rfl (.slice A n c) (hSw.cell 1) _ (Try.underlying33) rfl) ?_; simp only [Act.put, List.setIfInBounds_toArray, List.set_cons_zero, List.set_cons_succ]
    refine WH.only 5 _ rfl (by kernel_rfl) rfl (fun K hK => ?_)
    refine ow_copy _ _ _ _ rfl _ Try.underlying33 Try.byteSize _ _ _ _ _ _ rfl (Hy4.out.ext (bdrew w4 1)) (by rw [HL.out]; omega) A n c p.data rfl Hp.out.len (Hp4.out.read.below (bdrew w4 1)) ?_
    apply Stop.go
    intro w5 Ho5 Hb5
    have hSn := hSn.only Ho5.out (by rw [Z1.out]; omega); refine hK _ _ hSn ?_; clear hK; clear K; simp only [Act.put, List.setIfInBounds_toArray, List.set_cons_zero, List.set_cons_succ]
    refine WH.done (by kernel_rfl) ?_
    rw [List.take_of_length_le (by rw [Hp.out.len]; omega)] at Hb5
    have Hr5 := Lib.hid ((Hr4.out.ext (bdrew w4 1)).only Ho5.out (by rw [Z2.out, Z1.out]; omega))
    go_wp2_with (first | refine wpList_load_arr rfl _ _ rfl _ rfl _ _ Hb5.out _ _ Try.underlying28 (Try.blockFits HM.out) ?_ | refine wpList_store_arr rfl _ _ _ rfl _ _ rfl rfl _ _ Hr5.out (Try.blockFits HM.out) (by rw [bcells_size, bcells_size, HM.out, zeros_len]) (oneCell_bcells _) ?_)
    apply Stop.go; intro w6 Ho6 Hb6
    go_wp2_with ((with_reducible show bodyPost _ _ _ _ _ _); refine bodyPost_cell rfl _ rfl _ _ Hb6.out _ _ Try.underlying28 (Try.blockFits HM.out) rfl ?_)
    apply Stop.go
    exact ⟨by rw [Hl.out], bonly (bonly (bt Hw4.out (bdrew w4 1)) Ho5.out (Nat.le_refl _)) Ho6.out (by rw [Z2.out, Z1.out]; omega)⟩

set_option maxHeartbeats 400000 in
theorem clone_any (ad : Addr) (n c : Nat) (l : List UInt8) (hn : l.length = n) (hm : n ≤ 140737488355328) (w : World) (hr : RB w (some ad) l) :
    Calls Try.prog 56 #[.slice (some ad) n c] w fun e w' => ∃ g c', e = .returned (.slice (some ⟨g, 0, none⟩) n c') ∧ RB w' (some ⟨g, 0, none⟩) l ∧ n ≤ c' ∧ c' ≤ maxLen ∧ w.heap.size ≤ g ∧ Below w.heap.size w w' := by
  have Hn := Lib.hid hn
  have Hr := Lib.hid hr
  clear hn hr
  have qn : ∀ w' : World, (binOp .eql 33 (.slice (some ad) n c) (.slice none 0 0)).run Try.prog w' = .ok (.bool false) w' := fun w' => Lib.run_eql_slice_nil w' _ _ (some ad) n c 0 0 Try.underlying33
  go_enter Try.func56, Try.ntmps56
  go_wp2_with (first | refine wpList_build0 rfl _ _ rfl Try.underlying33 Try.byteSize ?_ | (at_builtin; refine wpList_append_bytes rfl _ _ _ _ rfl Try.underlying33 Try.byteInfo rfl (some ad) n c l rfl Hn.out Hr.out hm ?_))
  apply Stop.go
  intro g c' w1 Hr1 Hc1 Hb1
  go_wp2_with fail
  go_ret
  exact ⟨g, c', rfl, Hr1.out, Hc1.out.1, Hc1.out.2.1, Hc1.out.2.2, Hb1.out⟩

set_option maxHeartbeats 800000 in
theorem part_any (L : List UInt8) (hL : L.length = 256) (s t : Nat) (h1 : s ≤ t) (h2 : t ≤ 256) (h3 : s < 256) (w : World) :
    Calls Try.prog 54 #[.agg (bcells L), .int .i64 s, .int .i64 t] w (RetPB w.heap.size w ⟨s, (L.drop s).take (t - s)⟩) := by
  have HL := Lib.hid hL
  have Hl := Lib.hid (show ((L.drop s).take (t - s)).length = t - s by rw [List.length_take, List.length_drop, hL]; omega)
  clear hL
  go_enter Try.func54, Try.ntmps54
  go_wp2_with (refine wpList_box_row rfl _ _ rfl _ rfl ?_)
  apply Stop.go; intro w1 Hg1 Hb1
  go_wp2_with (refine wpList_alloc_row rfl _ rfl _ Try.patchZero ?_)
  apply Stop.go; intro w2 Hg2 Hb2
  have Hw2 := Lib.hid (bt Hg1.out.1 Hg2.out.1)
  have Hx2 := Lib.hid (Hb1.out.ext Hg2.out.1)
  have Z1 := Lib.hid Hg1.out.1.size
  go_wp2_with (refine wpList_slice_arr_lh rfl _ _ _ _ rfl _ _ Try.underlying28 Try.byteSize _ rfl _ _ _ _ rfl rfl s t rfl rfl h1 h2 h3 ?_)
  refine (clone_any _ (t - s) _ ((L.drop s).take (t - s)) Hl.out (by omega) _ (RB.of_blk_at Hx2.out s (t - s))).mono ?_; rintro e w3 ⟨g, c', rfl, hr3, hc3, hm3, hg3, hb3⟩
  have Hr3 := Lib.hid hr3
  have Hb3 := Lib.hid hb3
  have Hy3 := Lib.hid (Hb2.out.ext hb3)
  have Hf3 := Lib.hid (show g ≠ w1.heap.size ∧ w.heap.size ≤ g from ⟨by have := Hb2.out.lt; omega, by have := Hw2.out.size; omega⟩)
  clear hr3 hb3 hg3
  go_wp2_with (refine wpList_store_arr rfl _ _ _ rfl _ #[.int .i64 s, .slice (some ⟨g, 0, none⟩) (t - s) c'] rfl rfl _ _ Hy3.out Try.patchSize rfl (by simp [Value.oneCell']) ?_)
  apply Stop.go; intro w4 Ho4 Hb4
  go_wp2_with ((with_reducible show bodyPost _ _ _ _ _ _); refine bodyPost_struct rfl _ rfl _ _ Hb4.out _ Try.underlying57 rfl Try.patchSize rfl ?_)
  apply Stop.go
  refine ⟨_, _, c', rfl, ⟨by show -9223372036854775808 ≤ (s : Int); omega, by show (s : Int) < 9223372036854775808; omega, Hl.out, hc3, hm3, fun k hk => ?_⟩, bonly (bt Hw2.out Hb3.out) Ho4.out Z1.out, fun ad e => ?_⟩
  · obtain ⟨ad, e, hc⟩ := Hr3.out k hk
    injection e with e
    subst e
    refine ⟨_, rfl, ?_⟩
    rw [← hc]
    refine World.cell?_of_block (Ho4.out.block _ ?_)
    rw [block_of_add]
    exact Hf3.out.1
  · injection e with e
    subst e
    exact Hf3.out.2



/-- Are two the same? -/
def sameP (p q : Pt) : Bool := decide (p.at_ = q.at_) && decide (p.data = q.data)
theorem sameP_iff {p q : Pt} : sameP p q = true ↔ p = q := by
  obtain ⟨a, l⟩ := p
  obtain ⟨b, m⟩ := q
  simp [sameP]
theorem sameP_self (p : Pt) : sameP p p = true := sameP_iff.2 rfl



end Go.Proofs.Ytckkdfpmibipfaa
