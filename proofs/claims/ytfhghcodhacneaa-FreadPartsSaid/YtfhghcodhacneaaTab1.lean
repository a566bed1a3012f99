/-
  Contracts of package table: isPlace, placeAt, Raw, Get, isFree.
-/
import Derived.Test.YtfhghcodhacneaaIno3
import Derived.Test.YtfhghcodhacneaaGrB
namespace Go.Proofs.Ytfhghcodhacneaa
open Go.RowKit

set_option maxHeartbeats 400000 in
theorem tplace_any (k : Int) (w : World) : Calls Try.prog 36 #[.int .i64 k] w fun e w' => e = .returned (.bool (placeB k)) ∧ w = w' := by
  by_cases h : 0 ≤ k
  · go_enter Try.func36, Try.ntmps36
    go_wp2
    go_ret
    simp [h, placeB]
  · go_enter Try.func36, Try.ntmps36
    go_wp2
    go_ret
    simp [placeB]
    omega

theorem placeAt_any (q : Nat) (hq : q < 8) (w : World) : Calls Try.prog 50 #[.int .i64 q] w fun e w' => e = .returned (.int .i64 ((32 * q : Nat) : Int)) ∧ w = w' := by
  go_enter Try.func50, Try.ntmps50
  go_wp2
  go_ret
  simp
  omega

set_option maxHeartbeats 1600000 in
theorem traw_any (b : List UInt8) (hb : b.length = 256) (k : Int) (w : World) :
    Calls Try.prog 38 #[.agg (bcells b), .int .i64 k] w fun e w' => e = .returned (.agg (bcells (rawT b k))) ∧ Below w.heap.size w w' := by
  have HbL := Lib.hid hb
  have HzL : Hid ((zeros 32).length = 32) := Lib.hid (zeros_len _)
  have HRL := Lib.hid (rawT_len hb k)
  go_enter Try.func38, Try.ntmps38
  go_wp2_with (refine wpList_box_row rfl _ _ rfl _ rfl ?_)
  apply Stop.go; intro w1 Hg1 Hb1
  go_wp2_with (refine wpList_alloc_row rfl _ rfl _ Try.b32Zero ?_)
  apply Stop.go; intro w2 Hg2 Hb2
  go_wp2_with (refine wpList_alloc_row rfl _ rfl _ Try.b32Zero ?_)
  apply Stop.go; intro w3 Hg3 Hb3
  have HB3 := Lib.hid ((Hb1.out.ext Hg2.out.1).ext Hg3.out.1)
  have HR3 := Lib.hid (Hb2.out.ext Hg3.out.1)
  have E3 := Lib.hid (bt (bt Hg1.out.1 Hg2.out.1) Hg3.out.1)
  have z3 := Lib.hid (show w.heap.size < w1.heap.size ∧ w1.heap.size < w2.heap.size by have := Hg1.out.2; have := Hg2.out.2; omega)
  generalize w1.heap.size = g1 at *
  generalize w2.heap.size = g2 at *
  clear Hb1 Hb2 Hg1 Hg2 Hg3 hb
  go_wp2_with fail
  refine (tplace_any k _).mono ?_; rintro e w4 ⟨rfl, rfl⟩
  cases hp : placeB k
  · have H0 := Lib.hid (rawT_no b hp)
    clear hp
    go_wp2_with (first | refine wpList_load_arr rfl _ _ rfl _ rfl _ _ Hb3.out _ _ Try.underlying80 (Try.b32Fits HzL.out) ?_ | refine wpList_store_arr rfl _ _ _ rfl _ _ rfl rfl _ _ HR3.out (Try.b32Fits HzL.out) rfl (oneCell_bcells _) ?_)
    apply Stop.go; intro w5 Ho5 Hb5
    go_wp2_with ((with_reducible show bodyPost _ _ _ _ _ _); refine bodyPost_cell rfl _ rfl _ _ Hb5.out _ _ Try.underlying80 (Try.b32Fits HzL.out) rfl ?_)
    apply Stop.go
    rw [H0.out]
    exact ⟨rfl, bonly E3.out Ho5.out (by have := z3.out; omega)⟩
  · obtain ⟨q, hq, rfl⟩ := placeB_true hp
    have HC := Lib.hid (rawT_copy HbL.out hq)
    obtain ⟨X, HX⟩ : ∃ X, Hid (rawT b (q : Int) = X) := ⟨_, Lib.hid rfl⟩
    rw [HX.out] at HC HRL
    clear hp
    go_wp2_with fail
    refine WH.start (S := fun w' : World => Blk w' w.heap.size 52 (bcells b)) [false, false, false, false, false] 5 rfl rfl (by kernel_rfl) (HB3.out.ext (bdrew w3 1)) (fun hSn => ?_); obtain ⟨wS, hwS⟩ : ∃ x, (w3).drew = x := ⟨_, rfl⟩; have HE := Lib.hid (show Below (w3).heap.size (w3) wS from hwS ▸ bdrew w3 1); rw [hwS] at hSn ⊢; clear hwS
    refine WH.tk 0 ?_; simp only [setL]
    refine WH.tk 1 ?_; simp only [setL]
    refine WH.only 2 _ rfl (by kernel_rfl) rfl (fun K hK => ?_)
    go_simp; refine (placeAt_any q hq _).mono ?_; rintro e wa ⟨rfl, rfl⟩; go_simp
    have hSn := hSn; refine hK _ _ hSn ?_; clear hK; clear K; simp only [setL]
    refine WH.tv 3 rfl (fun w' hSw => exec_slice_l _ _ _ rfl _ _ Try.underlying52 Try.byteSize _ rfl _ _ rfl (32 * q) (by omega) (by omega)) ?_; simp only [setL]
    refine WH.only 4 _ rfl (by kernel_rfl) rfl (fun K hK => ?_)
    refine ow_copy _ _ _ _ rfl _ Try.underlying44 Try.byteSize g2 0 32 32 (zeros 32) _ rfl (Hb3.out.ext HE.out) (by rw [HzL.out]; omega) _ _ _ ((b.drop (32 * q)).take (256 - 32 * q)) rfl (by rw [List.length_take, List.length_drop, HbL.out]; omega) (RB.of_blk_at (HB3.out.ext HE.out) (32 * q) (256 - 32 * q)) ?_
    apply Stop.go; intro wb Hob Hbb
    rw [HC.out] at Hbb
    have hSn := hSn.only Hob.out (by have := z3.out; omega); refine hK _ _ hSn ?_; clear hK; clear K; simp only [setL]
    refine WH.done (by kernel_rfl) ?_
    have HRb := Lib.hid ((HR3.out.ext HE.out).only Hob.out (by have := z3.out; omega))
    have Eb := Lib.hid (bonly (bt E3.out HE.out) Hob.out (by have := z3.out; omega))
    clear HR3 HB3 hSn HE Hob E3 HC
    go_wp2_with (first | refine wpList_load_arr rfl _ _ rfl _ rfl _ _ Hbb.out _ _ Try.underlying80 (Try.b32Fits HRL.out) ?_ | refine wpList_store_arr rfl _ _ _ rfl _ _ rfl rfl _ _ HRb.out (Try.b32Fits HRL.out) (by simp only [bcells_size, HRL.out, HzL.out]) (oneCell_bcells _) ?_)
    apply Stop.go; intro w5 Ho5 Hb5
    go_wp2_with ((with_reducible show bodyPost _ _ _ _ _ _); refine bodyPost_cell rfl _ rfl _ _ Hb5.out _ _ Try.underlying80 (Try.b32Fits HRL.out) rfl ?_)
    apply Stop.go
    rw [HX.out]
    exact ⟨rfl, bonly Eb.out Ho5.out (by have := z3.out; omega)⟩

set_option maxHeartbeats 1600000 in
theorem tget_any (b : List UInt8) (hb : b.length = 256) (k : Int) (w : World) :
    Calls Try.prog 22 #[.agg (bcells b), .int .i64 k] w fun e w' => e = .returned (.tuple #[.agg (icells (getTV b k)), .bool (getT b k).isSome]) ∧ Below w.heap.size w w' := by
  have HbL := Lib.hid hb
  have HRL := Lib.hid (rawT_len hb k)
  go_enter Try.func22, Try.ntmps22
  go_wp2_with (refine wpList_box_row rfl _ _ rfl _ rfl ?_)
  apply Stop.go; intro w1 Hg1 Hb1
  go_wp2_with (refine wpList_alloc_row rfl _ rfl _ Try.inoZero ?_)
  apply Stop.go; intro w2 Hg2 Hb2
  have HB2 := Lib.hid (Hb1.out.ext Hg2.out.1)
  have E2 := Lib.hid (bt Hg1.out.1 Hg2.out.1)
  have z2 := Lib.hid (show w.heap.size < w1.heap.size by have := Hg1.out.2; omega)
  generalize w1.heap.size = g1 at *
  clear Hb1 Hg1 Hg2 hb
  go_wp2_with fail
  refine (tplace_any k _).mono ?_; rintro e w3 ⟨rfl, rfl⟩
  cases hp : placeB k
  · have H0 := Lib.hid (show getTV b k = freeI ∧ getT b k = none by unfold getTV; rw [getT_no b hp]; exact ⟨rfl, rfl⟩)
    clear hp
    go_wp2_with (first | refine wpList_store_arr rfl _ _ _ rfl _ (icells freeI) rfl rfl _ _ Hb2.out Try.inoSize rfl (oneCell_icells _) ?_)
    apply Stop.go; intro wc Hoc Hbc
    go_wp2_with ((with_reducible show bodyPost _ _ _ _ _ _); refine bodyPost_struct_tmp rfl _ rfl _ _ Hbc.out _ Try.underlying42 rfl Try.inoSize rfl _ rfl ?_)
    apply Stop.go
    rw [H0.out.1]
    exact ⟨⟨rfl, H0.out.2⟩, bonly E2.out Hoc.out (by have := z2.out; omega)⟩
  · have H0 := Lib.hid (show getTV b k = cleanV (rawT b k) ∧ (getT b k).isSome = (cleanI (rawT b k)).isSome by unfold getTV cleanV getT; rw [hp]; exact ⟨rfl, rfl⟩)
    clear hp
    go_wp2_with (refine wpList_load_arr rfl _ _ rfl _ rfl _ _ HB2.out _ _ Try.underlying52 (Try.blockFits HbL.out) ?_)
    refine (traw_any b HbL.out k _).mono ?_; rintro e w4 ⟨rfl, hb4⟩
    have HR4 := Lib.hid (Hb2.out.ext hb4)
    have E4 := Lib.hid (bt E2.out hb4)
    clear hb4 HB2 Hb2 E2
    go_wp2_with fail
    refine (cleanI_any _ HRL.out _).mono ?_; rintro e w5 ⟨rfl, hb5⟩
    have HR5 := Lib.hid (HR4.out.ext hb5)
    have E5 := Lib.hid (bt E4.out hb5)
    have HVL := Lib.hid (cleanV_len (rawT b k))
    clear hb5 HR4 E4
    go_wp2_with (first | refine wpList_store_arr rfl _ _ _ rfl _ _ rfl rfl _ _ HR5.out (Try.inoFits HVL.out) (by rw [icells_size, icells_size, HVL.out]; rfl) (oneCell_icells _) ?_)
    apply Stop.go; intro wc Hoc Hbc
    go_wp2_with ((with_reducible show bodyPost _ _ _ _ _ _); refine bodyPost_struct_tmp rfl _ rfl _ _ Hbc.out _ Try.underlying42 rfl (Try.inoFits HVL.out) rfl _ rfl ?_)
    apply Stop.go
    rw [H0.out.1, H0.out.2]
    exact ⟨⟨rfl, rfl⟩, bonly E5.out Hoc.out (by have := z2.out; omega)⟩


end Go.Proofs.Ytfhghcodhacneaa
