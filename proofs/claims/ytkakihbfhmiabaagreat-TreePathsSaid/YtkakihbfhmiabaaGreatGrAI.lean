/-
  Texts of this claim joined: Pat1, Pat2, Tab2.
-/
import Derived.Test.YtkakihbfhmiabaaGreatGrAA
import Derived.Test.YtkakihbfhmiabaaGreatPatO
import Derived.BigQuiet
import Derived.Deep.QuietTactic
import Derived.Lib.SliceRun
import Derived.Test.YtkakihbfhmiabaaGreatGrAH

/-
  Contracts of package patch, the small ones: mayBe, end, Check, To, Of, and of the document's Right.
-/
namespace Go.Proofs.YtkakihbfhmiabaaGreat
open Go.RowKit


theorem right_ways (p : Pt) (n : Nat) (hn : p.data.length = n) : (p.right = true ∧ 1 ≤ n ∧ n ≤ 256 ∧ 0 ≤ p.at_ ∧ p.at_ ≤ 256 - (n : Int)) ∨ (p.right = false ∧ (n = 0 ∨ (1 ≤ n ∧ (p.at_ < 0 ∨ (0 ≤ p.at_ ∧ 256 - (n : Int) < p.at_))))) := by
  subst hn
  cases h : p.right
  · right
    refine ⟨rfl, ?_⟩
    have h2 : ¬ (1 ≤ p.data.length ∧ p.data.length ≤ 256 ∧ 0 ≤ p.at_ ∧ p.at_ ≤ 256 - (p.data.length : Int)) := fun hh => by
      rw [Pt.right_iff.2 hh] at h; cases h
    omega
  · left
    exact ⟨rfl, Pt.right_iff.1 h⟩

set_option maxHeartbeats 400000 in
theorem mayBe_any (p : Pt) (A : Option Addr) (n c : Nat) (w : World) (hp : PV w p A n c) :
    Calls Tryz.prog 116 #[.agg #[.int .i64 p.at_, .slice A n c]] w fun e w' => e = .returned (.bool p.right) ∧ Below w.heap.size w w' := by
  have h0 := hp.lo
  have h1 := hp.hi
  have h2 := hp.cap
  have h3 := hp.max
  unfold maxLen at h3
  have hw := right_ways p n hp.len
  clear hp
  generalize p.right = r at *
  generalize p.at_ = z at *
  rcases hw with ⟨rfl, a1, a2, a3, a4⟩ | ⟨rfl, a1 | ⟨a1, a2 | ⟨a2, a3⟩⟩⟩
  focus (
    have d1 : decide (1 ≤ n) = true := by simpa using a1
    have d2 : decide (0 ≤ z) = true := by simpa using a3
    have d3 : decide (z ≤ 256 - (n : Int)) = true := by simpa using a4)
  rotate_left
  focus (
    have d1 : decide (1 ≤ n) = false := by simp; omega)
  rotate_left
  focus (
    have d1 : decide (1 ≤ n) = true := by simpa using a1
    have d2 : decide (0 ≤ z) = false := by simp; omega)
  rotate_left
  focus (
    have d1 : decide (1 ≤ n) = true := by simpa using a1
    have d2 : decide (0 ≤ z) = true := by simpa using a2
    have d3 : decide (z ≤ 256 - (n : Int)) = false := by simp; omega)
  rotate_left
  all_goals
    go_enter Tryz.func116, Tryz.ntmps116
    go_wp2_with (refine wpList_box_row rfl _ _ rfl _ rfl ?_)
    apply Stop.go; intro w1 Hg1 Hb1
    have c0 : w1.cell? ⟨w.heap.size, 0, none⟩ = some (.int .i64 z) := Hb1.out.cell 0
    have c1 : w1.cell? ⟨w.heap.size, 1, none⟩ = some (.slice A _ c) := Hb1.out.cell 1
    go_wp2_with fail
    go_ret
    exact ⟨rfl, Hg1.out.1⟩






end Go.Proofs.YtkakihbfhmiabaaGreat

/-
  Contracts of package patch: Lay, part, Was, Same, Meet.
-/
namespace Go.Proofs.YtkakihbfhmiabaaGreat
set_option maxRecDepth 10000
open Go.RowKit

set_option maxHeartbeats 800000 in
theorem play_any (L : List UInt8) (hL : L.length = 256) (p : Pt) (A : Option Addr) (n c : Nat) (w : World) (hp : PV w p A n c) :
    Calls Tryz.prog 83 #[.agg (bcells L), .agg #[.int .i64 p.at_, .slice A n c]] w (RetA w (layP L p)) := by
  have HL := Lib.hid hL
  have Hp := Lib.hid hp
  clear hL hp
  go_enter Tryz.func83, Tryz.ntmps83
  go_wp2_with (refine wpList_box_row rfl _ _ rfl _ rfl ?_)
  apply Stop.go; intro w1 Hg1 Hb1
  go_wp2_with (refine wpList_box_row rfl _ _ rfl _ rfl ?_)
  apply Stop.go; intro w2 Hg2 Hb2
  go_wp2_with (refine wpList_alloc_row rfl _ rfl _ Tryz.blockZero ?_)
  apply Stop.go; intro w3 Hg3 Hb3
  have Hx2 := Lib.hid (Hb2.out.ext Hg3.out.1)
  have Hx1 := Lib.hid ((Hb1.out.ext Hg2.out.1).ext Hg3.out.1)
  have Hw3 := Lib.hid (bt (bt Hg1.out.1 Hg2.out.1) Hg3.out.1)
  have Z1 := Lib.hid Hg1.out.2
  have Z2 := Lib.hid Hg2.out.2
  have Hp3 := Lib.hid (Hp.out.below Hw3.out)
  go_wp2_with (refine wpList_load_blk rfl _ _ rfl _ rfl _ _ Hx2.out _ Tryz.underlying133 rfl Tryz.patchSize ?_)
  refine (mayBe_any p A n c _ Hp3.out).mono ?_; rintro e w4 ⟨rfl, hb4⟩
  have Hb4 := Lib.hid hb4
  have Hx4 := Lib.hid (Hx2.out.ext hb4)
  have Hy4 := Lib.hid (Hx1.out.ext hb4)
  have Hr4 := Lib.hid (Hb3.out.ext hb4)
  have Hp4 := Lib.hid (Hp3.out.below hb4)
  have Hw4 := Lib.hid (bt Hw3.out hb4)
  clear hb4
  cases hr : p.right
  · have Hl := Lib.hid (layP_wrong (L := L) hr)
    clear hr
    go_wp2_with (first | refine wpList_load_arr rfl _ _ rfl _ rfl _ _ Hy4.out _ _ Tryz.underlying82 (Tryz.blockFits HL.out) ?_ | refine wpList_store_arr rfl _ _ _ rfl _ _ rfl rfl _ _ Hr4.out (Tryz.blockFits HL.out) (by rw [bcells_size, bcells_size, HL.out, zeros_len]) (oneCell_bcells _) ?_)
    apply Stop.go; intro w5 Ho5 Hb5
    go_wp2_with ((with_reducible show bodyPost _ _ _ _ _ _); refine bodyPost_cell rfl _ rfl _ _ Hb5.out _ _ Tryz.underlying82 (Tryz.blockFits HL.out) rfl ?_)
    apply Stop.go
    have h1 := Hg1.out.1.size
    have h2 := Hg2.out.1.size
    exact ⟨by rw [Hl.out], bonly Hw4.out Ho5.out (by omega)⟩
  · have h := Pt.right_iff.1 hr
    rw [Hp.out.len] at h
    obtain ⟨h1, h2, h3, h4⟩ := h
    obtain ⟨q, hq⟩ := Int.eq_ofNat_of_zero_le h3
    have hlo : p.lo = q := by unfold Pt.lo; rw [hq]; rfl
    have Hl := Lib.hid (show layP L p = splice L q p.data by unfold layP; rw [hr, ← hlo]; rfl)
    have HM : Hid ((splice L q p.data).length = 256) := Lib.hid (by rw [splice_len _ _ _ (by rw [HL.out, Hp.out.len]; omega), HL.out])
    rw [hq] at Hx4 h4
    clear hr hlo
    go_wp2_with fail
    refine WH.start (S := fun w' : World => Blk w' w1.heap.size 133 #[.int .i64 q, .slice A n c]) [false, false, false, false, false, false] 6 rfl rfl (by kernel_rfl) (Hx4.out.ext (bdrew w4 1)) (fun hSn => ?_)
    refine WH.tk 0 ?_; simp only [setL]
    refine WH.tv 1 rfl (fun w' hSw => exec_load_cell _ _ rfl _ rfl (.int .i64 q) (hSw.cell 0) _ (Tryz.underlying3) rfl) ?_; simp only [setL]
    refine WH.tv 2 rfl (fun w' hSw => exec_slice_l _ _ _ rfl _ _ Tryz.underlying82 Tryz.byteSize _ rfl _ _ rfl q rfl (by omega)) ?_; simp only [setL]
    refine WH.tk 3 ?_; simp only [setL]
    refine WH.tv 4 rfl (fun w' hSw => exec_load_cell _ _ rfl _ rfl (.slice A n c) (hSw.cell 1) _ (Tryz.underlying26) rfl) ?_; simp only [setL]
    refine WH.only 5 _ rfl (by kernel_rfl) rfl (fun K hK => ?_)
    refine ow_copy _ _ _ _ rfl _ Tryz.underlying26 Tryz.byteSize _ _ _ _ _ _ rfl (Hy4.out.ext (bdrew w4 1)) (by rw [HL.out]; omega) A n c p.data rfl Hp.out.len (Hp4.out.read.below (bdrew w4 1)) ?_
    apply Stop.go
    intro w5 Ho5 Hb5
    have hSn := hSn.only Ho5.out (by rw [Z1.out]; omega); refine hK _ _ hSn ?_; clear hK; clear K; simp only [setL]
    refine WH.done (by kernel_rfl) ?_
    rw [List.take_of_length_le (by rw [Hp.out.len]; omega)] at Hb5
    have Hr5 := Lib.hid ((Hr4.out.ext (bdrew w4 1)).only Ho5.out (by rw [Z2.out, Z1.out]; omega))
    go_wp2_with (first | refine wpList_load_arr rfl _ _ rfl _ rfl _ _ Hb5.out _ _ Tryz.underlying82 (Tryz.blockFits HM.out) ?_ | refine wpList_store_arr rfl _ _ _ rfl _ _ rfl rfl _ _ Hr5.out (Tryz.blockFits HM.out) (by rw [bcells_size, bcells_size, HM.out, zeros_len]) (oneCell_bcells _) ?_)
    apply Stop.go; intro w6 Ho6 Hb6
    go_wp2_with ((with_reducible show bodyPost _ _ _ _ _ _); refine bodyPost_cell rfl _ rfl _ _ Hb6.out _ _ Tryz.underlying82 (Tryz.blockFits HM.out) rfl ?_)
    apply Stop.go
    exact ⟨by rw [Hl.out], bonly (bonly (bt Hw4.out (bdrew w4 1)) Ho5.out (Nat.le_refl _)) Ho6.out (by rw [Z2.out, Z1.out]; omega)⟩

set_option maxHeartbeats 400000 in
theorem clone_any (ad : Addr) (n c : Nat) (l : List UInt8) (hn : l.length = n) (hm : n ≤ 140737488355328) (w : World) (hr : RB w (some ad) l) :
    Calls Tryz.prog 43 #[.slice (some ad) n c] w fun e w' => ∃ g c', e = .returned (.slice (some ⟨g, 0, none⟩) n c') ∧ RB w' (some ⟨g, 0, none⟩) l ∧ n ≤ c' ∧ c' ≤ maxLen ∧ w.heap.size ≤ g ∧ Below w.heap.size w w' := by
  have Hn := Lib.hid hn
  have Hr := Lib.hid hr
  clear hn hr
  have qn : ∀ w' : World, (binOp .eql 26 (.slice (some ad) n c) (.slice none 0 0)).run Tryz.prog w' = .ok (.bool false) w' := fun w' => Lib.run_eql_slice_nil w' _ _ (some ad) n c 0 0 Tryz.underlying26
  go_enter Tryz.func43, Tryz.ntmps43
  go_wp2_with (first | refine wpList_build0 rfl _ _ rfl Tryz.underlying26 Tryz.byteSize ?_ | (at_builtin; refine wpList_append_bytes rfl _ _ _ _ rfl Tryz.underlying26 Tryz.byteInfo rfl (some ad) n c l rfl Hn.out Hr.out hm ?_))
  apply Stop.go
  intro g c' w1 Hr1 Hc1 Hb1
  go_wp2_with fail
  go_ret
  exact ⟨g, c', rfl, Hr1.out, Hc1.out.1, Hc1.out.2.1, Hc1.out.2.2, Hb1.out⟩



set_option maxHeartbeats 400000 in
theorem equal_any (ad : Addr) (n c : Nat) (l : List UInt8) (hn : l.length = n) (ad' : Addr) (n' c' : Nat) (l' : List UInt8) (hn' : l'.length = n') (w : World) (hr : RB w (some ad) l) (hr' : RB w (some ad') l') :
    Calls Tryz.prog 53 #[.slice (some ad) n c, .slice (some ad') n' c'] w fun e w' => e = .returned (.bool (decide (l = l'))) ∧ w = w' := by
  have Hn := Lib.hid hn
  have Hr := Lib.hid hr
  have Hn' := Lib.hid hn'
  have Hr' := Lib.hid hr'
  clear hn hr hn' hr'
  go_enter Tryz.func53, Tryz.ntmps53
  go_wp2_with (first | refine wpList_bytes_text rfl _ _ _ _ rfl Tryz.underlying26 Tryz.underlying5 Tryz.underlying9 ad n c rfl l Hn.out Hr.out ?_ | refine wpList_bytes_text rfl _ _ _ _ rfl Tryz.underlying26 Tryz.underlying5 Tryz.underlying9 ad' n' c' rfl l' Hn'.out Hr'.out ?_)
  go_ret
  refine ⟨?_, rfl⟩
  show Ending.returned (.bool (l == l')) = _
  rw [show (l == l') = decide (l = l') from Bool.eq_iff_iff.2 (by simp)]

/-- Are two the same? -/
def sameP (p q : Pt) : Bool := decide (p.at_ = q.at_) && decide (p.data = q.data)
theorem sameP_iff {p q : Pt} : sameP p q = true ↔ p = q := by
  obtain ⟨a, l⟩ := p
  obtain ⟨b, m⟩ := q
  simp [sameP]
theorem sameP_self (p : Pt) : sameP p p = true := sameP_iff.2 rfl



end Go.Proofs.YtkakihbfhmiabaaGreat

/-
  Contracts of package table: Patch, With.
-/
namespace Go.Proofs.YtkakihbfhmiabaaGreat
open Go.RowKit
set_option maxRecDepth 10000

set_option maxHeartbeats 1600000 in
theorem tpatch_any (k : Int) (l : List Int) (hl : l.length = 11) (w : World) :
    Calls Tryz.prog 82 #[.int .i64 k, .agg (icells l)] w (RetPT w (patT k l) (errT k l)) := by
  have HL := Lib.hid hl
  have HPL := Lib.hid (outI_len hl)
  have HzL : Hid ((zeros 32).length = 32) := Lib.hid (zeros_len _)
  have HPN : Hid (∀ w' : World, PV w' ⟨0, []⟩ none 0 0) := Lib.hid fun w' => ⟨by decide, by decide, rfl, Nat.le_refl _, by unfold maxLen; omega, RB.nil_ _ _⟩
  go_enter Tryz.func82, Tryz.ntmps82
  go_wp2_with (refine wpList_box_row rfl _ _ rfl _ rfl ?_)
  apply Stop.go; intro w1 Hg1 Hb1
  go_wp2_with (refine wpList_alloc_row rfl _ rfl _ Tryz.patchZero ?_)
  apply Stop.go; intro w2 Hg2 Hb2
  have HB2 := Lib.hid (Hb1.out.ext Hg2.out.1)
  have E2 := Lib.hid (bt Hg1.out.1 Hg2.out.1)
  have z2 := Lib.hid (show w.heap.size < w1.heap.size ∧ w1.heap.size < w2.heap.size by have := Hg1.out.2; have := Hg2.out.2; omega)
  generalize w1.heap.size = g1 at *
  clear Hb1 Hg1 Hg2 hl
  go_wp2_with fail
  refine (tplace_any k _).mono ?_; rintro e w3 ⟨rfl, rfl⟩
  cases hp : placeB k
  · have H0 := Lib.hid (show patT k l = ⟨0, []⟩ ∧ errT k l = 2 from ⟨patT_no hp, errT_no hp⟩)
    clear hp
    go_wp2_with (first | refine wpList_store_arr rfl _ _ _ rfl _ #[.int .i64 0, .slice none 0 0] rfl rfl _ _ Hb2.out Tryz.patchSize rfl (by simp [Value.oneCell']) ?_)
    apply Stop.go; intro wc Hoc Hbc
    go_wp2_with ((with_reducible show bodyPost _ _ _ _ _ _); refine bodyPost_struct_tmp rfl _ rfl _ _ Hbc.out _ Tryz.underlying133 rfl Tryz.patchSize rfl _ rfl ?_)
    apply Stop.go
    rw [H0.out.1, H0.out.2]
    exact ⟨none, 0, 0, rfl, HPN.out _, bonly E2.out Hoc.out (by have := z2.out; omega)⟩
  · obtain ⟨q, hq, rfl⟩ := placeB_true hp
    clear hp
    have HE0 := Lib.hid (errT_nat hq l)
    go_wp2_with (refine wpList_load_blk rfl _ _ rfl _ rfl _ _ HB2.out _ Tryz.underlying59 rfl (Tryz.inoFits HL.out) ?_)
    refine (putI_any l HL.out _).mono ?_; rintro e w4 ⟨rfl, hb4⟩
    have HR4 := Lib.hid (Hb2.out.ext hb4)
    have E4 := Lib.hid (bt E2.out hb4)
    have z4 := Lib.hid (show w.heap.size < g1 ∧ g1 < w4.heap.size by have := z2.out; have := hb4.size; omega)
    obtain ⟨m, Hm⟩ : ∃ m, Hid (mayI l = m) := ⟨_, Lib.hid rfl⟩
    have HU := Lib.hid (show outI l = if m then putI l else zeros 32 by unfold outI; rw [Hm.out])
    rw [Hm.out]
    have HE0 := Lib.hid (show errT (q : Int) l = if m then 0 else 1 by rw [HE0.out, Hm.out])
    obtain ⟨X, HXd⟩ : ∃ X, Hid (outI l = X) := ⟨_, Lib.hid rfl⟩
    rw [HXd.out] at HPL HU ⊢
    clear hb4 Hb2 HB2 E2 z2
    go_wp2_with (refine wpList_alloc_row rfl _ rfl _ Tryz.b32Zero ?_)
    apply Stop.go; intro w5 Hg5 Hb5
    go_wp2_with (refine wpList_store_arr rfl _ _ _ rfl _ _ rfl rfl _ _ Hb5.out (Tryz.b32Fits HPL.out) (by simp only [bcells_size, HPL.out, HzL.out]) (oneCell_bcells _) ?_)
    apply Stop.go; intro w6 Ho6 Hb6
    have HR6 := Lib.hid ((HR4.out.ext Hg5.out.1).only Ho6.out (by have := z4.out; omega))
    have E6 := Lib.hid (bonly (bt E4.out Hg5.out.1) Ho6.out (by have := z4.out; omega))
    generalize w4.heap.size = g4 at *
    clear Hg5 Hb5 Ho6 HR4 E4
    cases m
    · rw [okArg_false]
      have H0 := Lib.hid (show patT (q : Int) l = ⟨0, []⟩ ∧ errT (q : Int) l = 1 from ⟨patT_not Hm.out, HE0.out⟩)
      go_wp2_with (first | refine wpList_store_arr rfl _ _ _ rfl _ #[.int .i64 0, .slice none 0 0] rfl rfl _ _ HR6.out Tryz.patchSize rfl (by simp [Value.oneCell']) ?_)
      apply Stop.go; intro wc Hoc Hbc
      go_wp2_with ((with_reducible show bodyPost _ _ _ _ _ _); refine bodyPost_struct_tmp rfl _ rfl _ _ Hbc.out _ Tryz.underlying133 rfl Tryz.patchSize rfl _ rfl ?_)
      apply Stop.go
      rw [H0.out.1, H0.out.2]
      exact ⟨none, 0, 0, rfl, HPN.out _, bonly E6.out Hoc.out (by have := z4.out; omega)⟩
    · rw [okArg_true]
      have HX : Hid (X = putI l) := HU
      have H0 := Lib.hid (show patT (q : Int) l = ⟨((32 * q : Nat) : Int), X⟩ ∧ errT (q : Int) l = 0 from ⟨by rw [patT_nat hq Hm.out, HX.out], HE0.out⟩)
      obtain ⟨o, Ho⟩ : ∃ o, Hid (32 * q = o) := ⟨_, Lib.hid rfl⟩
      rw [Ho.out] at H0
      have hpl := placeAt_any q hq
      rw [Ho.out] at hpl
      go_wp2_with fail
      refine WH.start (S := fun w' : World => Below w.heap.size w w') [false, false, false, false, false, false] 6 rfl rfl (by kernel_rfl) (bt E6.out (bdrew w6 1)) (fun hSn => ?_); obtain ⟨wS, hwS⟩ : ∃ x, (w6).drew = x := ⟨_, rfl⟩; have HE := Lib.hid (show Below (w6).heap.size (w6) wS from hwS ▸ bdrew w6 1); rw [hwS] at hSn ⊢; clear hwS
      refine WH.tk 0 ?_; simp only [setL]
      refine WH.tv 2 rfl (fun w' hSw => exec_slice_all _ _ rfl 32 _ Tryz.underlying121 Tryz.byteSize g4 rfl (by decide)) ?_; simp only [setL]
      refine WH.only 1 _ rfl (by kernel_rfl) rfl (fun K hK => ?_)
      go_simp; refine (hpl _).mono ?_; rintro e wa ⟨rfl, rfl⟩; go_simp
      have hSn := hSn; refine hK _ _ hSn ?_; clear hK; clear K; simp only [setL]
      refine WH.tk 3 ?_; simp only [setL]
      refine WH.only 4 _ rfl (by kernel_rfl) rfl (fun K hK => ?_)
      refine ow_store _ _ _ rfl _ #[.int .i64 (o : Int), .slice (some ⟨g4, 0, none⟩) 32 32] rfl rfl _ _ (HR6.out.ext HE.out) Tryz.patchSize rfl (by simp [Value.oneCell']) ?_
      apply Stop.go; intro wb Hob Hbb
      have hSn := bonly hSn Hob.out (by have := z4.out; omega); refine hK _ _ hSn ?_; clear hK; clear K; simp only [setL]
      refine WH.tk 5 ?_; simp only [setL]
      refine WH.done (by kernel_rfl) ?_
      have HXb := Lib.hid ((Hb6.out.ext HE.out).only Hob.out (by have := z4.out; omega))
      go_wp2_with ((with_reducible show bodyPost _ _ _ _ _ _); refine bodyPost_struct_tmp rfl _ rfl _ _ Hbb.out _ Tryz.underlying133 rfl Tryz.patchSize rfl _ rfl ?_)
      apply Stop.go
      rw [H0.out.1, H0.out.2]
      exact ⟨some ⟨g4, 0, none⟩, 32, 32, rfl, ⟨by show _ ≤ (o : Int); omega, by show (o : Int) < _; have := Ho.out; omega, HPL.out, Nat.le_refl _, by unfold maxLen; omega, RB.of_blk0 HXb.out⟩, hSn⟩

set_option maxHeartbeats 1600000 in
theorem twith_any (b : List UInt8) (hb : b.length = 256) (k : Int) (l : List Int) (hl : l.length = 11) (w : World) :
    Calls Tryz.prog 50 #[.agg (bcells b), .int .i64 k, .agg (icells l)] w fun e w' => e = .returned (.tuple #[.agg (bcells (withT b k l)), .int .i64 (errT k l)]) ∧ Below w.heap.size w w' := by
  have HbL := Lib.hid hb
  have HL := Lib.hid hl
  have HzL : Hid ((zeros 256).length = 256) := Lib.hid (zeros_len _)
  have HWL := Lib.hid (withT_len hb k l)
  have HW : Hid (layP b (patT k l) = withT b k l) := Lib.hid rfl
  go_enter Tryz.func50, Tryz.ntmps50
  go_wp2_with (refine wpList_box_row rfl _ _ rfl _ rfl ?_)
  apply Stop.go; intro w1 Hg1 Hb1
  go_wp2_with (refine wpList_box_row rfl _ _ rfl _ rfl ?_)
  apply Stop.go; intro w2 Hg2 Hb2
  go_wp2_with (refine wpList_alloc_row rfl _ rfl _ Tryz.blockZero ?_)
  apply Stop.go; intro w3 Hg3 Hb3
  have HB3 := Lib.hid ((Hb1.out.ext Hg2.out.1).ext Hg3.out.1)
  have HI3 := Lib.hid (Hb2.out.ext Hg3.out.1)
  have E3 := Lib.hid (bt (bt Hg1.out.1 Hg2.out.1) Hg3.out.1)
  have z3 := Lib.hid (show w.heap.size < w1.heap.size ∧ w1.heap.size < w2.heap.size by have := Hg1.out.2; have := Hg2.out.2; omega)
  generalize w1.heap.size = g1 at *
  generalize w2.heap.size = g2 at *
  clear Hb1 Hb2 Hg1 Hg2 Hg3 hb hl
  go_wp2_with (refine wpList_load_blk rfl _ _ rfl _ rfl _ _ HI3.out _ Tryz.underlying59 rfl (Tryz.inoFits HL.out) ?_)
  refine (tpatch_any k l HL.out _).mono ?_; rintro e w4 ⟨A, n, c, rfl, hp4, hb4⟩
  obtain ⟨p, hpe⟩ : ∃ p, patT k l = p := ⟨_, rfl⟩
  rw [hpe] at hp4 HW ⊢
  have HP4 := Lib.hid hp4
  have HB4 := Lib.hid (HB3.out.ext hb4)
  have HR4 := Lib.hid (Hb3.out.ext hb4)
  have E4 := Lib.hid (bt E3.out hb4)
  have z4 := Lib.hid (show w.heap.size < g2 ∧ g2 < w4.heap.size by have := z3.out; have := HR4.out.lt; omega)
  have z5 := Lib.hid (show w.heap.size < w4.heap.size by have := z4.out; omega)
  clear hp4 hb4 hpe HB3 HI3 Hb3 E3 z3
  go_wp2_with (refine wpList_alloc_row rfl _ rfl _ Tryz.patchZero ?_)
  apply Stop.go; intro w5 Hg5 Hb5
  go_wp2_with (refine wpList_store_arr rfl _ _ _ rfl _ #[.int .i64 p.at_, .slice A n c] rfl rfl _ _ Hb5.out Tryz.patchSize rfl (by simp [Value.oneCell']) ?_)
  apply Stop.go; intro w6 Ho6 Hb6
  have HB6 := Lib.hid ((HB4.out.ext Hg5.out.1).only Ho6.out (by have := z5.out; omega))
  have HR6 := Lib.hid ((HR4.out.ext Hg5.out.1).only Ho6.out (by have := z4.out; omega))
  have D6 := Lib.hid (bonly Hg5.out.1 Ho6.out (Nat.le_refl _))
  have HP6 := Lib.hid (HP4.out.below D6.out)
  have E6 := Lib.hid (bt E4.out D6.out)
  generalize w4.heap.size = g4 at *
  clear Hg5 Hb5 Ho6 HB4 HR4 HP4 E4 D6
  go_wp2_with (first | refine wpList_load_arr rfl _ _ rfl _ rfl _ _ HB6.out _ _ Tryz.underlying82 (Tryz.blockFits HbL.out) ?_ | refine wpList_load_blk rfl _ _ rfl _ rfl _ _ Hb6.out _ Tryz.underlying133 rfl Tryz.patchSize ?_)
  refine (play_any b HbL.out p A n c _ HP6.out).mono ?_; rintro e w7 ⟨rfl, hb7⟩
  rw [HW.out]
  have HR7 := Lib.hid (HR6.out.ext hb7)
  have E7 := Lib.hid (bt E6.out hb7)
  clear hb7 HR6 E6 HB6 Hb6 HP6
  go_wp2_with (refine wpList_store_arr rfl _ _ _ rfl _ _ rfl rfl _ _ HR7.out (Tryz.blockFits HWL.out) (by rw [bcells_size, bcells_size, HWL.out, HzL.out]) (oneCell_bcells _) ?_)
  apply Stop.go; intro wc Hoc Hbc
  go_wp2_with ((with_reducible show bodyPost _ _ _ _ _ _); refine bodyPost_cell_tmp rfl _ rfl _ _ Hbc.out _ _ Tryz.underlying82 (Tryz.blockFits HWL.out) rfl _ rfl ?_)
  apply Stop.go
  exact bonly E7.out Hoc.out (by have := z4.out; omega)

end Go.Proofs.YtkakihbfhmiabaaGreat
