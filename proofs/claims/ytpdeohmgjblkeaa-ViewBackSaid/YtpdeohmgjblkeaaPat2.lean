/-
  Contracts of package patch: Lay, part, Was, Same, Meet.
-/
import Derived.Test.YtpdeohmgjblkeaaPat1
import Derived.Lib.SliceRun
namespace Go.Proofs.Ytpdeohmgjblkeaa
set_option maxRecDepth 10000
open Go.RowKit

set_option maxHeartbeats 800000 in
theorem play_any (L : List UInt8) (hL : L.length = 256) (p : Pt) (A : Option Addr) (n c : Nat) (w : World) (hp : PV w p A n c) :
    Calls Try.prog 67 #[.agg (bcells L), .agg #[.int .i64 p.at_, .slice A n c]] w (RetA w (layP L p)) := by
  have HL := Lib.hid hL
  have Hp := Lib.hid hp
  clear hL hp
  go_enter Try.func67, Try.ntmps67
  go_wp2_with (refine wpList_box_row rfl _ _ rfl _ rfl ?_)
  apply Stop.go; intro w1 Hg1 Hb1
  go_wp2_with (refine wpList_box_row rfl _ _ rfl _ rfl ?_)
  apply Stop.go; intro w2 Hg2 Hb2
  go_wp2_with (refine wpList_alloc_row rfl _ rfl _ Try.blockZero ?_)
  apply Stop.go; intro w3 Hg3 Hb3
  have Hx2 := Lib.hid (Hb2.out.ext Hg3.out.1)
  have Hx1 := Lib.hid ((Hb1.out.ext Hg2.out.1).ext Hg3.out.1)
  have Hw3 := Lib.hid (bt (bt Hg1.out.1 Hg2.out.1) Hg3.out.1)
  have Z1 := Lib.hid Hg1.out.2
  have Z2 := Lib.hid Hg2.out.2
  have Hp3 := Lib.hid (Hp.out.below Hw3.out)
  go_wp2_with (refine wpList_load_blk rfl _ _ rfl _ rfl _ _ Hx2.out _ Try.underlying102 rfl Try.patchSize ?_)
  refine (mayBe_any p A n c _ Hp3.out).mono ?_; rintro e w4 ⟨rfl, hb4⟩
  have Hb4 := Lib.hid hb4
  have Hx4 := Lib.hid (Hx2.out.ext hb4)
  have Hy4 := Lib.hid (Hx1.out.ext hb4)
  have Hr4 := Lib.hid (Hb3.out.ext hb4)
  have Hp4 := Lib.hid (Hp3.out.below hb4)
  have Hw4 := Lib.hid (bt Hw3.out hb4)
  clear hb4
  cases hr : p.right
  · have Hl := Lib.hid (layP_wrong (L := L) hr)
    clear hr
    go_wp2_with (first | refine wpList_load_arr rfl _ _ rfl _ rfl _ _ Hy4.out _ _ Try.underlying49 (Try.blockFits HL.out) ?_ | refine wpList_store_arr rfl _ _ _ rfl _ _ rfl rfl _ _ Hr4.out (Try.blockFits HL.out) (by rw [bcells_size, bcells_size, HL.out, zeros_len]) (oneCell_bcells _) ?_)
    apply Stop.go; intro w5 Ho5 Hb5
    go_wp2_with ((with_reducible show bodyPost _ _ _ _ _ _); refine bodyPost_cell rfl _ rfl _ _ Hb5.out _ _ Try.underlying49 (Try.blockFits HL.out) rfl ?_)
    apply Stop.go
    have h1 := Hg1.out.1.size
    have h2 := Hg2.out.1.size
    exact ⟨by rw [Hl.out], bonly Hw4.out Ho5.out (by omega)⟩
  · have h := Pt.right_iff.1 hr
    rw [Hp.out.len] at h
    obtain ⟨h1, h2, h3, h4⟩ := h
    obtain ⟨q, hq⟩ := Int.eq_ofNat_of_zero_le h3
    have hlo : p.lo = q := by unfold Pt.lo; rw [hq]; rfl
    have Hl := Lib.hid (show layP L p = splice L q p.data by unfold layP; rw [hr, ← hlo]; rfl)
    have HM : Hid ((splice L q p.data).length = 256) := Lib.hid (by rw [splice_len _ _ _ (by rw [HL.out, Hp.out.len]; omega), HL.out])
    rw [hq] at Hx4 h4
    clear hr hlo
    go_wp2_with fail
    refine WH.start (S := fun w' : World => Blk w' w1.heap.size 102 #[.int .i64 q, .slice A n c]) [false, false, false, false, false, false] 6 rfl rfl (by kernel_rfl) (Hx4.out.ext (bdrew w4 1)) (fun hSn => ?_)
    refine WH.tk 0 ?_; simp only [setL]
    refine WH.tv 1 rfl (fun w' hSw => exec_load_cell _ _ rfl _ rfl (.int .i64 q) (hSw.cell 0) _ (Try.underlying3) rfl) ?_; simp only [setL]
    refine WH.tv 2 rfl (fun w' hSw => exec_slice_l _ _ _ rfl _ _ Try.underlying49 Try.byteSize _ rfl _ _ rfl q rfl (by omega)) ?_; simp only [setL]
    refine WH.tk 3 ?_; simp only [setL]
    refine WH.tv 4 rfl (fun w' hSw => exec_load_cell _ _ rfl _ rfl (.slice A n c) (hSw.cell 1) _ (Try.underlying61) rfl) ?_; simp only [setL]
    refine WH.only 5 _ rfl (by kernel_rfl) rfl (fun K hK => ?_)
    refine ow_copy _ _ _ _ rfl _ Try.underlying61 Try.byteSize _ _ _ _ _ _ rfl (Hy4.out.ext (bdrew w4 1)) (by rw [HL.out]; omega) A n c p.data rfl Hp.out.len (Hp4.out.read.below (bdrew w4 1)) ?_
    apply Stop.go
    intro w5 Ho5 Hb5
    have hSn := hSn.only Ho5.out (by rw [Z1.out]; omega); refine hK _ _ hSn ?_; clear hK; clear K; simp only [setL]
    refine WH.done (by kernel_rfl) ?_
    rw [List.take_of_length_le (by rw [Hp.out.len]; omega)] at Hb5
    have Hr5 := Lib.hid ((Hr4.out.ext (bdrew w4 1)).only Ho5.out (by rw [Z2.out, Z1.out]; omega))
    go_wp2_with (first | refine wpList_load_arr rfl _ _ rfl _ rfl _ _ Hb5.out _ _ Try.underlying49 (Try.blockFits HM.out) ?_ | refine wpList_store_arr rfl _ _ _ rfl _ _ rfl rfl _ _ Hr5.out (Try.blockFits HM.out) (by rw [bcells_size, bcells_size, HM.out, zeros_len]) (oneCell_bcells _) ?_)
    apply Stop.go; intro w6 Ho6 Hb6
    go_wp2_with ((with_reducible show bodyPost _ _ _ _ _ _); refine bodyPost_cell rfl _ rfl _ _ Hb6.out _ _ Try.underlying49 (Try.blockFits HM.out) rfl ?_)
    apply Stop.go
    exact ⟨by rw [Hl.out], bonly (bonly (bt Hw4.out (bdrew w4 1)) Ho5.out (Nat.le_refl _)) Ho6.out (by rw [Z2.out, Z1.out]; omega)⟩





/-- Are two the same? -/
def sameP (p q : Pt) : Bool := decide (p.at_ = q.at_) && decide (p.data = q.data)
theorem sameP_iff {p q : Pt} : sameP p q = true ↔ p = q := by
  obtain ⟨a, l⟩ := p
  obtain ⟨b, m⟩ := q
  simp [sameP]
theorem sameP_self (p : Pt) : sameP p p = true := sameP_iff.2 rfl



end Go.Proofs.Ytpdeohmgjblkeaa
