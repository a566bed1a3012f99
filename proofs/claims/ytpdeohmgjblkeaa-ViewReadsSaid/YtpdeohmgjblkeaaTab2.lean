/-
  Contracts of package table: Patch, With.
-/
import Derived.Test.YtpdeohmgjblkeaaTab1
import Derived.Test.YtpdeohmgjblkeaaPat2
namespace Go.Proofs.Ytpdeohmgjblkeaa
open Go.RowKit
set_option maxRecDepth 10000

set_option maxHeartbeats 1600000 in
theorem tpatch_any (k : Int) (l : List Int) (hl : l.length = 11) (w : World) :
    Calls Try.prog 66 #[.int .i64 k, .agg (icells l)] w (RetPT w (patT k l) (errT k l)) := by
  have HL := Lib.hid hl
  have HPL := Lib.hid (outI_len hl)
  have HzL : Hid ((zeros 32).length = 32) := Lib.hid (zeros_len _)
  have HPN : Hid (∀ w' : World, PV w' ⟨0, []⟩ none 0 0) := Lib.hid fun w' => ⟨by decide, by decide, rfl, Nat.le_refl _, by unfold maxLen; omega, RB.nil_ _ _⟩
  go_enter Try.func66, Try.ntmps66
  go_wp2_with (refine wpList_box_row rfl _ _ rfl _ rfl ?_)
  apply Stop.go; intro w1 Hg1 Hb1
  go_wp2_with (refine wpList_alloc_row rfl _ rfl _ Try.patchZero ?_)
  apply Stop.go; intro w2 Hg2 Hb2
  have HB2 := Lib.hid (Hb1.out.ext Hg2.out.1)
  have E2 := Lib.hid (bt Hg1.out.1 Hg2.out.1)
  have z2 := Lib.hid (show w.heap.size < w1.heap.size ∧ w1.heap.size < w2.heap.size by have := Hg1.out.2; have := Hg2.out.2; omega)
  generalize w1.heap.size = g1 at *
  clear Hb1 Hg1 Hg2 hl
  go_wp2_with fail
  refine (tplace_any k _).mono ?_; rintro e w3 ⟨rfl, rfl⟩
  cases hp : placeB k
  · have H0 := Lib.hid (show patT k l = ⟨0, []⟩ ∧ errT k l = 2 from ⟨patT_no hp, errT_no hp⟩)
    clear hp
    go_wp2_with (first | refine wpList_store_arr rfl _ _ _ rfl _ #[.int .i64 0, .slice none 0 0] rfl rfl _ _ Hb2.out Try.patchSize rfl (by simp [Value.oneCell']) ?_)
    apply Stop.go; intro wc Hoc Hbc
    go_wp2_with ((with_reducible show bodyPost _ _ _ _ _ _); refine bodyPost_struct_tmp rfl _ rfl _ _ Hbc.out _ Try.underlying102 rfl Try.patchSize rfl _ rfl ?_)
    apply Stop.go
    rw [H0.out.1, H0.out.2]
    exact ⟨none, 0, 0, rfl, HPN.out _, bonly E2.out Hoc.out (by have := z2.out; omega)⟩
  · obtain ⟨q, hq, rfl⟩ := placeB_true hp
    clear hp
    have HE0 := Lib.hid (errT_nat hq l)
    go_wp2_with (refine wpList_load_blk rfl _ _ rfl _ rfl _ _ HB2.out _ Try.underlying43 rfl (Try.inoFits HL.out) ?_)
    refine (putI_any l HL.out _).mono ?_; rintro e w4 ⟨rfl, hb4⟩
    have HR4 := Lib.hid (Hb2.out.ext hb4)
    have E4 := Lib.hid (bt E2.out hb4)
    have z4 := Lib.hid (show w.heap.size < g1 ∧ g1 < w4.heap.size by have := z2.out; have := hb4.size; omega)
    obtain ⟨m, Hm⟩ : ∃ m, Hid (mayI l = m) := ⟨_, Lib.hid rfl⟩
    have HU := Lib.hid (show outI l = if m then putI l else zeros 32 by unfold outI; rw [Hm.out])
    rw [Hm.out]
    have HE0 := Lib.hid (show errT (q : Int) l = if m then 0 else 1 by rw [HE0.out, Hm.out])
    obtain ⟨X, HXd⟩ : ∃ X, Hid (outI l = X) := ⟨_, Lib.hid rfl⟩
    rw [HXd.out] at HPL HU ⊢
    clear hb4 Hb2 HB2 E2 z2
    go_wp2_with (refine wpList_alloc_row rfl _ rfl _ Try.b32Zero ?_)
    apply Stop.go; intro w5 Hg5 Hb5
    go_wp2_with (refine wpList_store_arr rfl _ _ _ rfl _ _ rfl rfl _ _ Hb5.out (Try.b32Fits HPL.out) (by simp only [bcells_size, HPL.out, HzL.out]) (oneCell_bcells _) ?_)
    apply Stop.go; intro w6 Ho6 Hb6
    have HR6 := Lib.hid ((HR4.out.ext Hg5.out.1).only Ho6.out (by have := z4.out; omega))
    have E6 := Lib.hid (bonly (bt E4.out Hg5.out.1) Ho6.out (by have := z4.out; omega))
    generalize w4.heap.size = g4 at *
    clear Hg5 Hb5 Ho6 HR4 E4
    cases m
    · rw [okArg_false]
      have H0 := Lib.hid (show patT (q : Int) l = ⟨0, []⟩ ∧ errT (q : Int) l = 1 from ⟨patT_not Hm.out, HE0.out⟩)
      go_wp2_with (first | refine wpList_store_arr rfl _ _ _ rfl _ #[.int .i64 0, .slice none 0 0] rfl rfl _ _ HR6.out Try.patchSize rfl (by simp [Value.oneCell']) ?_)
      apply Stop.go; intro wc Hoc Hbc
      go_wp2_with ((with_reducible show bodyPost _ _ _ _ _ _); refine bodyPost_struct_tmp rfl _ rfl _ _ Hbc.out _ Try.underlying102 rfl Try.patchSize rfl _ rfl ?_)
      apply Stop.go
      rw [H0.out.1, H0.out.2]
      exact ⟨none, 0, 0, rfl, HPN.out _, bonly E6.out Hoc.out (by have := z4.out; omega)⟩
    · rw [okArg_true]
      have HX : Hid (X = putI l) := HU
      have H0 := Lib.hid (show patT (q : Int) l = ⟨((32 * q : Nat) : Int), X⟩ ∧ errT (q : Int) l = 0 from ⟨by rw [patT_nat hq Hm.out, HX.out], HE0.out⟩)
      obtain ⟨o, Ho⟩ : ∃ o, Hid (32 * q = o) := ⟨_, Lib.hid rfl⟩
      rw [Ho.out] at H0
      have hpl := placeAt_any q hq
      rw [Ho.out] at hpl
      go_wp2_with fail
      refine WH.start (S := fun w' : World => Below w.heap.size w w') [false, false, false, false, false, false] 6 rfl rfl (by kernel_rfl) (bt E6.out (bdrew w6 1)) (fun hSn => ?_); obtain ⟨wS, hwS⟩ : ∃ x, (w6).drew = x := ⟨_, rfl⟩; have HE := Lib.hid (show Below (w6).heap.size (w6) wS from hwS ▸ bdrew w6 1); rw [hwS] at hSn ⊢; clear hwS
      refine WH.tk 0 ?_; simp only [setL]
      refine WH.tv 2 rfl (fun w' hSw => exec_slice_all _ _ rfl 32 _ Try.underlying85 Try.byteSize g4 rfl (by decide)) ?_; simp only [setL]
      refine WH.only 1 _ rfl (by kernel_rfl) rfl (fun K hK => ?_)
      go_simp; refine (hpl _).mono ?_; rintro e wa ⟨rfl, rfl⟩; go_simp
      have hSn := hSn; refine hK _ _ hSn ?_; clear hK; clear K; simp only [setL]
      refine WH.tk 3 ?_; simp only [setL]
      refine WH.only 4 _ rfl (by kernel_rfl) rfl (fun K hK => ?_)
      refine ow_store _ _ _ rfl _ #[.int .i64 (o : Int), .slice (some ⟨g4, 0, none⟩) 32 32] rfl rfl _ _ (HR6.out.ext HE.out) Try.patchSize rfl (by simp [Value.oneCell']) ?_
      apply Stop.go; intro wb Hob Hbb
      have hSn := bonly hSn Hob.out (by have := z4.out; omega); refine hK _ _ hSn ?_; clear hK; clear K; simp only [setL]
      refine WH.tk 5 ?_; simp only [setL]
      refine WH.done (by kernel_rfl) ?_
      have HXb := Lib.hid ((Hb6.out.ext HE.out).only Hob.out (by have := z4.out; omega))
      go_wp2_with ((with_reducible show bodyPost _ _ _ _ _ _); refine bodyPost_struct_tmp rfl _ rfl _ _ Hbb.out _ Try.underlying102 rfl Try.patchSize rfl _ rfl ?_)
      apply Stop.go
      rw [H0.out.1, H0.out.2]
      exact ⟨some ⟨g4, 0, none⟩, 32, 32, rfl, ⟨by show _ ≤ (o : Int); omega, by show (o : Int) < _; have := Ho.out; omega, HPL.out, Nat.le_refl _, by unfold maxLen; omega, RB.of_blk0 HXb.out⟩, hSn⟩

set_option maxHeartbeats 1600000 in
theorem twith_any (b : List UInt8) (hb : b.length = 256) (k : Int) (l : List Int) (hl : l.length = 11) (w : World) :
    Calls Try.prog 40 #[.agg (bcells b), .int .i64 k, .agg (icells l)] w fun e w' => e = .returned (.tuple #[.agg (bcells (withT b k l)), .int .i64 (errT k l)]) ∧ Below w.heap.size w w' := by
  have HbL := Lib.hid hb
  have HL := Lib.hid hl
  have HzL : Hid ((zeros 256).length = 256) := Lib.hid (zeros_len _)
  have HWL := Lib.hid (withT_len hb k l)
  have HW : Hid (layP b (patT k l) = withT b k l) := Lib.hid rfl
  go_enter Try.func40, Try.ntmps40
  go_wp2_with (refine wpList_box_row rfl _ _ rfl _ rfl ?_)
  apply Stop.go; intro w1 Hg1 Hb1
  go_wp2_with (refine wpList_box_row rfl _ _ rfl _ rfl ?_)
  apply Stop.go; intro w2 Hg2 Hb2
  go_wp2_with (refine wpList_alloc_row rfl _ rfl _ Try.blockZero ?_)
  apply Stop.go; intro w3 Hg3 Hb3
  have HB3 := Lib.hid ((Hb1.out.ext Hg2.out.1).ext Hg3.out.1)
  have HI3 := Lib.hid (Hb2.out.ext Hg3.out.1)
  have E3 := Lib.hid (bt (bt Hg1.out.1 Hg2.out.1) Hg3.out.1)
  have z3 := Lib.hid (show w.heap.size < w1.heap.size ∧ w1.heap.size < w2.heap.size by have := Hg1.out.2; have := Hg2.out.2; omega)
  generalize w1.heap.size = g1 at *
  generalize w2.heap.size = g2 at *
  clear Hb1 Hb2 Hg1 Hg2 Hg3 hb hl
  go_wp2_with (refine wpList_load_blk rfl _ _ rfl _ rfl _ _ HI3.out _ Try.underlying43 rfl (Try.inoFits HL.out) ?_)
  refine (tpatch_any k l HL.out _).mono ?_; rintro e w4 ⟨A, n, c, rfl, hp4, hb4⟩
  obtain ⟨p, hpe⟩ : ∃ p, patT k l = p := ⟨_, rfl⟩
  rw [hpe] at hp4 HW ⊢
  have HP4 := Lib.hid hp4
  have HB4 := Lib.hid (HB3.out.ext hb4)
  have HR4 := Lib.hid (Hb3.out.ext hb4)
  have E4 := Lib.hid (bt E3.out hb4)
  have z4 := Lib.hid (show w.heap.size < g2 ∧ g2 < w4.heap.size by have := z3.out; have := HR4.out.lt; omega)
  have z5 := Lib.hid (show w.heap.size < w4.heap.size by have := z4.out; omega)
  clear hp4 hb4 hpe HB3 HI3 Hb3 E3 z3
  go_wp2_with (refine wpList_alloc_row rfl _ rfl _ Try.patchZero ?_)
  apply Stop.go; intro w5 Hg5 Hb5
  go_wp2_with (refine wpList_store_arr rfl _ _ _ rfl _ #[.int .i64 p.at_, .slice A n c] rfl rfl _ _ Hb5.out Try.patchSize rfl (by simp [Value.oneCell']) ?_)
  apply Stop.go; intro w6 Ho6 Hb6
  have HB6 := Lib.hid ((HB4.out.ext Hg5.out.1).only Ho6.out (by have := z5.out; omega))
  have HR6 := Lib.hid ((HR4.out.ext Hg5.out.1).only Ho6.out (by have := z4.out; omega))
  have D6 := Lib.hid (bonly Hg5.out.1 Ho6.out (Nat.le_refl _))
  have HP6 := Lib.hid (HP4.out.below D6.out)
  have E6 := Lib.hid (bt E4.out D6.out)
  generalize w4.heap.size = g4 at *
  clear Hg5 Hb5 Ho6 HB4 HR4 HP4 E4 D6
  go_wp2_with (first | refine wpList_load_arr rfl _ _ rfl _ rfl _ _ HB6.out _ _ Try.underlying49 (Try.blockFits HbL.out) ?_ | refine wpList_load_blk rfl _ _ rfl _ rfl _ _ Hb6.out _ Try.underlying102 rfl Try.patchSize ?_)
  refine (play_any b HbL.out p A n c _ HP6.out).mono ?_; rintro e w7 ⟨rfl, hb7⟩
  rw [HW.out]
  have HR7 := Lib.hid (HR6.out.ext hb7)
  have E7 := Lib.hid (bt E6.out hb7)
  clear hb7 HR6 E6 HB6 Hb6 HP6
  go_wp2_with (refine wpList_store_arr rfl _ _ _ rfl _ _ rfl rfl _ _ HR7.out (Try.blockFits HWL.out) (by rw [bcells_size, bcells_size, HWL.out, HzL.out]) (oneCell_bcells _) ?_)
  apply Stop.go; intro wc Hoc Hbc
  go_wp2_with ((with_reducible show bodyPost _ _ _ _ _ _); refine bodyPost_cell_tmp rfl _ rfl _ _ Hbc.out _ _ Try.underlying49 (Try.blockFits HWL.out) rfl _ rfl ?_)
  apply Stop.go
  exact bonly E7.out Hoc.out (by have := z4.out; omega)

end Go.Proofs.Ytpdeohmgjblkeaa
