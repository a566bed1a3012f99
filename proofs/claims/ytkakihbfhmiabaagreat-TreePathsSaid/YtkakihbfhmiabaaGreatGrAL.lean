/-
  Texts of this claim joined: Sup1, Sup2, Sup3.
-/
import Derived.Test.YtkakihbfhmiabaaGreatGrAB
import Derived.Test.YtkakihbfhmiabaaGreatPatO
import Derived.Test.YtkakihbfhmiabaaGreatGrAS
import Derived.Laws.StructEq
import Derived.Test.YtkakihbfhmiabaaGreatGrAJ
import Derived.Test.YtkakihbfhmiabaaGreatGrAC
import Derived.Deep.CutRange

/-
  Contracts of super's mayBe, Check and Same, and of the document's May.
-/
namespace Go.Proofs.YtkakihbfhmiabaaGreat
open Go.RowKit

theorem Tryz.laySize : (Tryz.prog.info? 41).map (·.size) = some 3 := by kernel_rfl
theorem Blk.lay0 {w : World} {g : Nat} {t : TypeId} {l : Lay14} (h : Blk w g t l.val) : w.cell? ⟨g, 0, none⟩ = some (.int .i64 l.blocks) := h.cell 0
theorem Blk.lay1 {w : World} {g : Nat} {t : TypeId} {l : Lay14} (h : Blk w g t l.val) : w.cell? ⟨g, 1, none⟩ = some (.int .i64 l.inodes) := h.cell 1
theorem Blk.lay2 {w : World} {g : Nat} {t : TypeId} {l : Lay14} (h : Blk w g t l.val) : w.cell? ⟨g, 2, none⟩ = some (.int .u64 (l.merge : Nat)) := h.cell 2
theorem val_one (l : Lay14) : l.val.all (·.oneCell') = true := by simp [Lay14.val, Value.oneCell']
def zero14 : Lay14 := ⟨0, 0, 0⟩
theorem Tryz.layZero : (Tryz.prog.info? 41).map (·.zero) = some (some (.agg zero14.val)) := by kernel_rfl
set_option maxHeartbeats 800000 in
theorem maybe_any (l : Lay14) (w : World) :
    Calls Tryz.prog 112 #[.agg l.val] w fun e w' => e = .returned (.bool l.may) ∧ Below w.heap.size w w' := by
  have M := Lib.hid (@Lay14.may_iff l)
  go_enter Tryz.func112, Tryz.ntmps112
  go_wp2_with (refine wpList_box_row rfl _ _ rfl _ rfl ?_)
  apply Stop.go; intro w1 Hg1 Hb1
  have c0 := Hb1.out.lay0
  have c1 := Hb1.out.lay1
  go_wp2_with fail
  all_goals
    go_ret
    exact ⟨congrArg (fun b => Ending.returned (.bool b)) (Bool.eq_iff_iff.2 (by rw [M.out]; simp only [decide_eq_true_eq, Bool.false_eq_true, false_iff]; omega)), Hg1.out.1⟩


set_option maxHeartbeats 800000 in
theorem check14_any (l : Lay14) (w : World) :
    Calls Tryz.prog 75 #[.agg l.val] w fun e w' => e = .returned (.int .i64 (okArg l.may)) ∧ Below w.heap.size w w' := by
  go_enter Tryz.func75, Tryz.ntmps75
  go_wp2_with (refine wpList_box_row rfl _ _ rfl _ rfl ?_)
  apply Stop.go; intro w1 Hg1 Hb1
  go_wp2_with (refine wpList_load_blk rfl _ _ rfl _ rfl _ _ Hb1.out _ Tryz.underlying41 rfl Tryz.laySize ?_)
  refine (maybe_any l _).mono ?_; rintro e w2 ⟨rfl, hb2⟩
  have Hb2 := Lib.hid hb2
  clear hb2
  have Hbel := Lib.hid (bt Hg1.out.1 Hb2.out)
  obtain ⟨b, Hm⟩ : ∃ b, Hid (l.may = b) := ⟨_, Lib.hid rfl⟩
  rw [Hm.out]
  cases b
  all_goals
    go_wp2_with fail
    go_ret
    rw [Hm.out]
    exact ⟨rfl, Hbel.out⟩

/-- Are two layouts the same? -/
def Lay14.eqB (l m : Lay14) : Bool := l.blocks == m.blocks && (l.inodes == m.inodes && l.merge == m.merge)
theorem Lay14.eqB_iff {l m : Lay14} : l.eqB m = true ↔ l = m := by
  unfold Lay14.eqB
  rw [Lay14.ext_iff']
  simp
theorem Lay14.eqB_self (l : Lay14) : l.eqB l = true := Lay14.eqB_iff.2 rfl
set_option maxHeartbeats 800000 in
theorem run_eql_lay (l m : Lay14) (w : World) : (binOp .eql 41 (.agg l.val) (.agg m.val)).run Tryz.prog w = .ok (.bool (l.eqB m)) w := by
  unfold Lay14.val Lay14.eqB
  go_simp
  have h4 : ((l.merge : Int) = (m.merge : Int)) ↔ l.merge = m.merge := by omega
  simp only [h4]
  by_cases h1 : l.blocks = m.blocks <;> by_cases h2 : l.inodes = m.inodes <;> by_cases h3 : l.merge = m.merge <;> simp [h1, h2, h3]


end Go.Proofs.YtkakihbfhmiabaaGreat

/-
  The contract of super's Put.
-/
namespace Go.Proofs.YtkakihbfhmiabaaGreat
open Go.RowKit

/-- The block that Put tells. -/
def Lay14.blk (l : Lay14) : List UInt8 := if l.may then l.put else zeros 256
theorem Lay14.blk_len (l : Lay14) : l.blk.length = 256 := by
  unfold Lay14.blk
  split
  · exact l.put_len
  · exact zeros_len _

/-- What Put has: the layout, the result's cell, the block in the making. -/
structure PutSt (w w' : World) (l : Lay14) (g0 g2 g5 : Nat) (X : List UInt8) : Prop where
  lo : w.heap.size ≤ g0 ∧ g0 < g2 ∧ g2 < g5
  lay : Blk w' g0 41 l.val
  res : Blk w' g2 82 (bcells (zeros 256))
  b : Blk w' g5 82 (bcells X)
  len : X.length = 256
  bel : Below w.heap.size w w'
theorem PutSt.ext {w w' w'' : World} {l : Lay14} {g0 g2 g5 : Nat} {X : List UInt8} (h : PutSt w w' l g0 g2 g5 X) (e : Below w'.heap.size w' w'') : PutSt w w'' l g0 g2 g5 X :=
  ⟨h.lo, h.lay.ext e, h.res.ext e, h.b.ext e, h.len, bt h.bel e⟩
theorem PutSt.put {w w' w'' : World} {l : Lay14} {g0 g2 g5 : Nat} {X Y : List UInt8} (h : PutSt w w' l g0 g2 g5 X) (o : Only w' w'' g5) (b : Blk w'' g5 82 (bcells Y)) (hY : Y.length = 256) : PutSt w w'' l g0 g2 g5 Y :=
  ⟨h.lo, h.lay.only o (by have := h.lo; omega), h.res.only o (by have := h.lo; omega), b, hY, bonly h.bel o (by have := h.lo; omega)⟩
theorem wrap_blocks {l : Lay14} (h : l.may = true) : IntKind.u64.wrap l.blocks = (l.blocks.toNat : Nat) ∧ l.blocks.toNat < 18446744073709551616 ∧ IntKind.u64.wrap l.inodes = (l.inodes.toNat : Nat) ∧ l.inodes.toNat < 18446744073709551616 := by
  have h1 := Lay14.may_iff.1 h
  refine ⟨?_, by omega, ?_, by omega⟩
  · rw [IntWalk.u64_in _ (by omega)]; omega
  · rw [IntWalk.u64_in _ (by omega)]; omega
set_option maxRecDepth 10000 in
set_option maxHeartbeats 1600000 in
theorem put14_any (l : Lay14) (hm : l.merge < 18446744073709551616) (w : World) :
    Calls Tryz.prog 49 #[.agg l.val] w fun e w' => e = .returned (.tuple #[.agg (bcells l.blk), .int .i64 (okArg l.may)]) ∧ Below w.heap.size w w' := by
  obtain ⟨b, Hm⟩ : ∃ b, Hid (l.may = b) := ⟨_, Lib.hid rfl⟩
  have HB := Lib.hid (show l.blk = if b then l.put else zeros 256 by unfold Lay14.blk; rw [Hm.out])
  have HzL : Hid ((zeros 256).length = 256) := Lib.hid (zeros_len _)
  go_enter Tryz.func49, Tryz.ntmps49
  go_wp2_with (refine wpList_box_row rfl _ _ rfl _ rfl ?_)
  apply Stop.go; intro w1 Hg1 Hb1
  go_wp2_with (refine wpList_alloc_row rfl _ rfl _ Tryz.blockZero ?_)
  apply Stop.go; intro w2 Hg2 Hb2
  have z1 := Lib.hid Hg1.out.2
  have z2 := Lib.hid Hg2.out.2
  have Hl2 := Lib.hid (Hb1.out.below Hg2.out.1 (by rw [z1.out]; omega))
  go_wp2_with (refine wpList_load_blk rfl _ _ rfl _ rfl _ _ Hl2.out _ Tryz.underlying41 rfl Tryz.laySize ?_)
  refine (check14_any l _).mono ?_; rintro e w3 ⟨rfl, hb3⟩
  have Hb3 := Lib.hid hb3
  clear hb3
  have Hl3 := Lib.hid (Hl2.out.ext Hb3.out)
  have Hz3 := Lib.hid (Hb2.out.ext Hb3.out)
  have Hbel3 := Lib.hid (bt (bt Hg1.out.1 Hg2.out.1) Hb3.out)
  have z3 := Lib.hid Hb3.out.size
  clear Hb3
  rw [Hm.out]
  cases b
  · rw [show okArg false = 1 from rfl]
    have HB0 : Hid (l.blk = zeros 256) := HB
    go_wp2_with (first | refine wpList_build_zero rfl _ rfl _ Tryz.blockZero _ _ Tryz.underlying82 Tryz.byteSize ?_ | refine wpList_store_arr rfl _ _ _ rfl _ _ rfl rfl _ _ Hz3.out (Tryz.blockFits HzL.out) rfl (oneCell_bcells _) ?_)
    apply Stop.go; intro w4 Ho4 Hb4
    go_wp2_with ((with_reducible show bodyPost _ _ _ _ _ _); refine bodyPost_cell_tmp rfl _ rfl _ _ Hb4.out _ _ Tryz.underlying82 (Tryz.blockFits HzL.out) rfl _ rfl ?_)
    apply Stop.go
    rw [HB0.out, Hm.out]
    exact ⟨⟨rfl, rfl⟩, bonly Hbel3.out Ho4.out (by rw [z1.out]; omega)⟩
  · rw [show okArg true = 0 from rfl]
    have HB1 : Hid (l.blk = l.put) := HB
    have HW := Lib.hid (wrap_blocks Hm.out)
    have kc := fun (C : Array Value) (n c : Nat) => Lib.run_convert_bytes_const (P := Tryz.prog) w3 26 5 C n c Tryz.underlying26 Tryz.underlying5
    obtain ⟨X1, X2, X3, X4, hX1, hX2, hX3, hX4, hcut, hput, hL1, hL2, hL3, hL4⟩ := put_all l
    have HX1 := Lib.hid hX1
    have HX2 := Lib.hid hX2
    have HX3 := Lib.hid hX3
    have HX4 := Lib.hid hX4
    have HC := Lib.hid hcut
    have HP := Lib.hid hput
    have HL1 := Lib.hid hL1
    have HL2 := Lib.hid hL2
    have HL3 := Lib.hid hL3
    have HL4 := Lib.hid hL4
    have HhL := Lib.hid l.head_len
    clear hX1 hX2 hX3 hX4 hcut hput hL1 hL2 hL3 hL4
    go_wp2_with fail
    clear kc
    have R4 : Hid (RB (w3.alloc (.cells #[.int .u8 101, .int .u8 115, .int .u8 99, .int .u8 104, .int .u8 101, .int .u8 97, .int .u8 116, .int .u8 49] 5 (8, 9))) (some ⟨w3.heap.size, 0, none⟩) magic) := Lib.hid (rb_marked w3 magic _ _)
    have G4 := Lib.hid (Grew.alloc w3 (.cells #[.int .u8 101, .int .u8 115, .int .u8 99, .int .u8 104, .int .u8 101, .int .u8 97, .int .u8 116, .int .u8 49] 5 (8, 9)))
    generalize w3.alloc (.cells #[.int .u8 101, .int .u8 115, .int .u8 99, .int .u8 104, .int .u8 101, .int .u8 97, .int .u8 116, .int .u8 49] 5 (8, 9)) = w4 at *
    refine (nof_any _ _ _ magic rfl _ R4.out).mono ?_; rintro e w5 ⟨rfl, hb5⟩
    have Hb5 := Lib.hid (bt G4.out.1 hb5)
    clear hb5
    rw [HX1.out]
    have Hl5 := Lib.hid (Hl3.out.ext Hb5.out)
    have Hz5 := Lib.hid (Hz3.out.ext Hb5.out)
    have Hbel5 := Lib.hid (bt Hbel3.out Hb5.out)
    have z5 := Lib.hid Hb5.out.size
    go_wp2_with (refine wpList_alloc_row rfl _ rfl _ Tryz.blockZero ?_)
    apply Stop.go; intro w6 Hg6 Hb6
    go_wp2_with (refine wpList_store_arr rfl _ _ _ rfl _ _ rfl rfl _ _ Hb6.out (Tryz.blockFits HL1.out) (by rw [bcells_size, bcells_size, HL1.out, zeros_len]) (oneCell_bcells _) ?_)
    apply Stop.go; intro w7 Ho7 Hb7
    have H7 : Hid (PutSt w w7 l w.heap.size w1.heap.size w5.heap.size X1) := Lib.hid ⟨⟨Nat.le_refl _, by rw [z1.out]; omega, by have := z2.out; have := z3.out; have := z5.out; omega⟩, (Hl5.out.ext Hg6.out.1).only Ho7.out (by have := z1.out; have := z2.out; have := z3.out; have := z5.out; omega), (Hz5.out.ext Hg6.out.1).only Ho7.out (by have := z2.out; have := z3.out; have := z5.out; omega), Hb7.out, HL1.out, bonly (bt Hbel5.out Hg6.out.1) Ho7.out Hbel5.out.size⟩
    generalize w5.heap.size = g5 at *
    generalize w1.heap.size = g2 at *
    clear Hb1 Hg1 Hg2 Hl2 Hl3 Hz3 Hbel3 z1 z2 z3 Hl5 Hz5 Hbel5 z5 Hg6 Hb6 Ho7 Hb7
    have B7 := Lib.hid H7.out.b
    have c0 := H7.out.lay.lay0
    go_wp2_with (refine wpList_load_arr rfl _ _ rfl _ rfl _ _ B7.out _ _ Tryz.underlying82 (Tryz.blockFits HL1.out) ?_)
    refine (nwith_any X1 HL1.out _ _ _ _ HW.out.1 HW.out.2.1 _).mono ?_; rintro e w8 ⟨rfl, hb8⟩
    rw [HX2.out]
    have H8 := Lib.hid (H7.out.ext hb8)
    have B8 := Lib.hid H8.out.b
    clear hb8 c0 B7
    go_wp2_with (refine wpList_store_arr rfl _ _ _ rfl _ _ rfl rfl _ _ B8.out (Tryz.blockFits HL2.out) (by rw [bcells_size, bcells_size, HL2.out, HL1.out]) (oneCell_bcells _) ?_)
    apply Stop.go; intro w9 Ho9 Hb9
    have H9 := Lib.hid (H8.out.put Ho9.out Hb9.out HL2.out)
    have B9 := Lib.hid H9.out.b
    have c1 := H9.out.lay.lay1
    clear Ho9 Hb9 H8 B8
    go_wp2_with (refine wpList_load_arr rfl _ _ rfl _ rfl _ _ B9.out _ _ Tryz.underlying82 (Tryz.blockFits HL2.out) ?_)
    refine (nwith_any X2 HL2.out _ _ _ _ HW.out.2.2.1 HW.out.2.2.2 _).mono ?_; rintro e w10 ⟨rfl, hb10⟩
    rw [HX3.out]
    have H10 := Lib.hid (H9.out.ext hb10)
    have B10 := Lib.hid H10.out.b
    clear hb10 c1 B9
    go_wp2_with (refine wpList_store_arr rfl _ _ _ rfl _ _ rfl rfl _ _ B10.out (Tryz.blockFits HL3.out) (by rw [bcells_size, bcells_size, HL3.out, HL2.out]) (oneCell_bcells _) ?_)
    apply Stop.go; intro w11 Ho11 Hb11
    have H11 := Lib.hid (H10.out.put Ho11.out Hb11.out HL3.out)
    clear Ho11 Hb11 H10 B10
    go_wp2_with fail
    refine WH.start (S := fun w' : World => Blk w' w.heap.size 41 l.val) [false, false, false, false, false, false, false, false, false] 9 rfl rfl (by kernel_rfl) (H11.out.lay.ext (bdrew w11 1)) (fun hSn => ?_); obtain ⟨wS, hwS⟩ : ∃ x, (w11).drew = x := ⟨_, rfl⟩; have HE := Lib.hid (show Below (w11).heap.size (w11) wS from hwS ▸ bdrew w11 1); rw [hwS] at hSn ⊢; clear hwS
    refine WH.tk 1 ?_; simp only [setL]
    refine WH.tv 2 rfl (fun w' hSw => exec_load_cell _ _ rfl ⟨w.heap.size, 2, none⟩ rfl _ hSw.lay2 _ Tryz.underlying39 rfl) ?_; simp only [setL]
    refine WH.only 0 _ rfl (by kernel_rfl) rfl (fun K hK => ?_)
    refine ow_make_bytes _ _ _ _ rfl Tryz.underlying26 Tryz.byteInfo .i64 .i64 _ _ 8 rfl rfl rfl rfl (by decide) ?_
    apply Stop.go; intro wM HgM HbM
    have hSn := hSn.ext HgM.out.1; refine hK _ _ hSn ?_; clear hK; clear K; simp only [setL]
    refine WH.only 3 _ rfl (by kernel_rfl) rfl (fun K hK => ?_); go_simp; refine (nput_any _ _ _ (zeros 8) (zeros_len 8) (by decide) 0 8 l.merge hm _ (RB.of_blk0 HbM.out)).mono ?_; rintro e wP ⟨A2, n2, c2, rfl, hl2, hc2, hm2, hr2, hb2⟩; go_simp
    rw [putL_zeros] at hl2 hr2
    have HQ2 := Lib.hid hl2
    have HR2 := Lib.hid hr2
    have HEP := Lib.hid (bt (bt HE.out HgM.out.1) hb2)
    have hSP := hSn.ext hb2
    clear hl2 hr2 hb2 hc2 hm2
    have hSn := hSP; refine hK _ _ hSn ?_; clear hK; clear K; simp only [setL]
    refine WH.tk 4 ?_; simp only [setL]
    refine WH.tk 5 ?_; simp only [setL]
    refine WH.tk 6 ?_; simp only [setL]
    refine WH.tk 7 ?_; simp only [setL]
    refine WH.tk 8 ?_; simp only [setL]
    refine WH.done (by kernel_rfl) ?_
    have H12 := Lib.hid (H11.out.ext HEP.out)
    have B12 := Lib.hid H12.out.b
    clear H11 HEP HE hSn hSP HgM HbM
    go_wp2_with (refine wpList_load_arr rfl _ _ rfl _ rfl _ _ B12.out _ _ Tryz.underlying82 (Tryz.blockFits HL3.out) ?_)
    refine (nlay_any X3 HL3.out _ _ _ _ (leBytes 8 l.merge) HQ2.out _ HR2.out).mono ?_; rintro e w13 ⟨rfl, hb13⟩
    rw [HX4.out]
    have H13 := Lib.hid (H12.out.ext hb13)
    have B13 := Lib.hid H13.out.b
    clear hb13 B12 H12 HR2 HQ2
    go_wp2_with (refine wpList_store_arr rfl _ _ _ rfl _ _ rfl rfl _ _ B13.out (Tryz.blockFits HL4.out) (by rw [bcells_size, bcells_size, HL4.out, HL3.out]) (oneCell_bcells _) ?_)
    apply Stop.go; intro w14 Ho14 Hb14
    have H14 := Lib.hid (H13.out.put Ho14.out Hb14.out HL4.out)
    have B14 := Lib.hid H14.out.b
    clear Ho14 Hb14 H13 B13
    go_wp2_with (refine wpList_load_arr rfl _ _ rfl _ rfl _ _ B14.out _ _ Tryz.underlying82 (Tryz.blockFits HL4.out) ?_)
    refine (ncut_any X4 HL4.out _ _ _).mono ?_; rintro e w15 ⟨A5, n5, c5, rfl, hl5, hc5, hm5, hr5, hb5⟩
    rw [HC.out] at hl5 hr5
    have hn5 : n5 = 20 := by rw [← hl5, HhL.out]
    subst hn5
    obtain ⟨a5, rfl⟩ := hr5.addr (by rw [HhL.out]; omega)
    have HR5 := Lib.hid hr5
    have H15 := Lib.hid (H14.out.ext hb5)
    have B15 := Lib.hid H15.out.b
    clear hl5 hr5 hb5 hc5 hm5 B14 H14
    go_wp2_with (refine wpList_bytes_text rfl _ _ _ _ rfl Tryz.underlying26 Tryz.underlying5 Tryz.underlying9 _ _ _ rfl l.head HhL.out HR5.out ?_)
    refine (mof_any ⟨l.head.toArray⟩ (by simp [ByteArray.size, HhL.out, maxLen]) _).mono ?_; rintro e wx ⟨rfl, rfl⟩
    rw [hashN_bytes]
    have hf := fnvs_start_lt l.head
    obtain ⟨F, HF⟩ : ∃ F, Hid (fnvs start l.head = F) := ⟨_, Lib.hid rfl⟩
    rw [HF.out] at hf ⊢
    go_wp2_with (refine wpList_load_arr rfl _ _ rfl _ rfl _ _ B15.out _ _ Tryz.underlying82 (Tryz.blockFits HL4.out) ?_)
    refine (nwith_any X4 HL4.out _ _ _ F (IntWalk.u64_in _ (by omega)) (by omega) _).mono ?_; rintro e w16 ⟨rfl, hb16⟩
    rw [← HF.out, HP.out]
    have H16 := Lib.hid (H15.out.ext hb16)
    have R16 := Lib.hid H16.out.res
    clear hb16 hf
    go_wp2_with (refine wpList_store_arr rfl _ _ _ rfl _ _ rfl rfl _ _ R16.out (Tryz.blockFits l.put_len) (by rw [bcells_size, bcells_size, l.put_len, zeros_len]) (oneCell_bcells _) ?_)
    apply Stop.go; intro w17 Ho17 Hb17
    go_wp2_with ((with_reducible show bodyPost _ _ _ _ _ _); refine bodyPost_cell_tmp rfl _ rfl _ _ Hb17.out _ _ Tryz.underlying82 (Tryz.blockFits l.put_len) rfl _ rfl ?_)
    apply Stop.go
    rw [HB1.out, Hm.out]
    exact ⟨⟨rfl, rfl⟩, bonly H16.out.bel Ho17.out (by have := H16.out.lo; omega)⟩

end Go.Proofs.YtkakihbfhmiabaaGreat

/-
  The contract of super's Get.
-/
namespace Go.Proofs.YtkakihbfhmiabaaGreat
open Go.RowKit
set_option maxRecDepth 10000

/-- The layout that Get tells. -/
def got14 (b : List UInt8) : Lay14 := (get14 b).getD zero14
/-- OK, or ErrSuper. -/
def okSup (b : Bool) : Int := if b then 0 else 13

set_option maxHeartbeats 1600000 in
theorem get14c_any (L : List UInt8) (hL : L.length = 256) (w : World) :
    Calls Tryz.prog 34 #[.agg (bcells L)] w fun e w' => e = .returned (.tuple #[.agg (got14 L).val, .int .i64 (okSup (get14 L).isSome)]) ∧ Below w.heap.size w w' := by
  have HL := Lib.hid hL
  obtain ⟨g8, g10, g12⟩ := getN_seen L hL
  have HM := Lib.hid (seen_merge L)
  obtain ⟨S, HS⟩ : ∃ S, Hid (seen14 L = S) := ⟨_, Lib.hid rfl⟩
  have hv : #[Value.int .i64 ((leVal ((L.drop 8).take 2) : Nat) : Int), .int .i64 ((leVal ((L.drop 10).take 2) : Nat) : Int), .int .u64 ((leVal ((L.drop 12).take 8) : Nat) : Int)] = S.val := by rw [← HS.out]; rfl
  rw [← g8, ← g10, ← g12] at hv
  obtain ⟨n8, HG8⟩ : ∃ n, Hid (getN L 8 2 4 = n) := ⟨_, Lib.hid rfl⟩
  obtain ⟨n10, HG10⟩ : ∃ n, Hid (getN L 10 2 4 = n) := ⟨_, Lib.hid rfl⟩
  obtain ⟨n12, HG12⟩ : ∃ n, Hid (getN L 12 8 8 = n) := ⟨_, Lib.hid rfl⟩
  rw [HG8.out, HG10.out, HG12.out] at hv
  have HSv := Lib.hid hv
  rw [HS.out] at HM
  clear g8 g10 g12 hL hv
  go_enter Tryz.func34, Tryz.ntmps34
  go_wp2_with (refine wpList_box_row rfl _ _ rfl _ rfl ?_)
  apply Stop.go; intro w1 Hg1 Hb1
  go_wp2_with (refine wpList_alloc_row rfl _ rfl _ Tryz.layZero ?_)
  apply Stop.go; intro w2 Hg2 Hb2
  have z1 := Lib.hid Hg1.out.2
  have z2 := Lib.hid Hg2.out.2
  have Hl2 := Lib.hid (Hb1.out.below Hg2.out.1 (by rw [z1.out]; omega))
  have Hbel2 := Lib.hid (bt Hg1.out.1 Hg2.out.1)
  go_wp2_with (refine wpList_slice_arr_all rfl _ _ rfl _ _ Tryz.underlying82 Tryz.byteSize _ rfl (by omega) ?_)
  refine (nget_any _ _ _ L HL.out (by omega) (by unfold maxLen; omega) _ _ _ (RB.of_blk0 Hl2.out)).mono ?_; rintro e wx ⟨rfl, rfl⟩
  rw [HG12.out]
  go_upto_region 2 with fail
  go_cut [6] from 14 to 19 (fun v wx => ∃ G, v = .pointer (some ⟨G, 0, none⟩) ∧ Blk wx G 41 S.val ∧ w2.heap.size ≤ G ∧ Below w2.heap.size w2 wx)
  case first =>
    refine WH.start (S := fun w' : World => Blk w' w.heap.size 82 (bcells L)) [false, false, false, false, false, false, false, false] 8 rfl rfl (by kernel_rfl) (Hl2.out.ext (bdrew w2 1)) (fun hSn => ?_); obtain ⟨wS, hwS⟩ : ∃ x, (w2).drew = x := ⟨_, rfl⟩; have HE := Lib.hid (show Below (w2).heap.size (w2) wS from hwS ▸ bdrew w2 1); rw [hwS] at hSn ⊢; clear hwS
    refine WH.tv 0 rfl (fun w' hSw => run_load_arr _ _ rfl _ rfl _ _ (hSw) _ _ (Tryz.underlying82) (Tryz.blockFits HL.out)) ?_; simp only [setL]
    refine WH.tv 2 rfl (fun w' hSw => run_load_arr _ _ rfl _ rfl _ _ (hSw) _ _ (Tryz.underlying82) (Tryz.blockFits HL.out)) ?_; simp only [setL]
    refine WH.tk 4 ?_; simp only [setL]
    refine WH.two 1 6 _ _ rfl rfl (by kernel_rfl) rfl rfl (fun K hK => ?_) (fun K hK => ?_)
    focus (
      go_simp; refine (nat_any L HL.out _ _ _).mono ?_; rintro e wa ⟨rfl, hba⟩; go_simp
      rw [HG8.out]
      have HE := Lib.hid (bt HE.out hba)
      have hSn := hSn.ext hba; refine hK _ _ hSn ?_; clear hK; clear K; simp only [setL]
      refine WH.two 3 6 _ _ rfl rfl (by kernel_rfl) rfl rfl (fun K hK => ?_) (fun K hK => ?_)
      focus (
        go_simp; refine (nat_any L HL.out _ _ _).mono ?_; rintro e wb ⟨rfl, hbb⟩; go_simp
        rw [HG10.out]
        have HE := Lib.hid (bt HE.out hbb)
        have hSn := hSn.ext hbb; refine hK _ _ hSn ?_; clear hK; clear K; simp only [setL]
        refine WH.tk 5 ?_; simp only [setL]
        refine WH.only 6 _ rfl (by kernel_rfl) rfl (fun K hK => ?_)
        have HZ := Lib.hid HE.out.size; refine ow_alloc _ rfl _ Tryz.layZero ?_; apply Stop.go; intro wc HgN HA; have HE := Lib.hid (bt HE.out HgN.out.1); have hSn := hSn.ext HgN.out.1; refine hK _ _ hSn ?_; clear hK; clear K; simp only [setL]; clear HgN
        refine WH.only 7 _ rfl (by kernel_rfl) rfl (fun K hK => ?_)
        refine ow_store _ _ _ rfl _ S.val rfl (congrArg Value.agg HSv.out) _ _ HA.out Tryz.laySize rfl (val_one _) ?_; apply Stop.go; intro w9 Ho9 HxG; have HE := Lib.hid (bonly HE.out Ho9.out HZ.out); have hSn := hSn.only Ho9.out (by have := HZ.out; have := z1.out; have := z2.out; omega); refine hK _ _ hSn ?_; clear hK; clear K; simp only [setL]; refine WH.done (by kernel_rfl) ?_; go_wp2_with fail; go_meet; exact ⟨_, rfl, HxG.out, HZ.out, HE.out⟩)
      focus (
        have HZ := Lib.hid HE.out.size; refine ow_alloc _ rfl _ Tryz.layZero ?_; apply Stop.go; intro wb HgN HA; have HE := Lib.hid (bt HE.out HgN.out.1); have hSn := hSn.ext HgN.out.1; refine hK _ _ hSn ?_; clear hK; clear K; simp only [setL]; clear HgN
        refine WH.only 3 _ rfl (by kernel_rfl) rfl (fun K hK => ?_); go_simp; refine (nat_any L HL.out _ _ _).mono ?_; rintro e wc ⟨rfl, hbb⟩; go_simp
        rw [HG10.out]
        have HE := Lib.hid (bt HE.out hbb)
        have HA := Lib.hid (HA.out.ext hbb)
        have hSn := hSn.ext hbb; refine hK _ _ hSn ?_; clear hK; clear K; simp only [setL]
        refine WH.tk 5 ?_; simp only [setL]
        refine WH.only 7 _ rfl (by kernel_rfl) rfl (fun K hK => ?_)
        refine ow_store _ _ _ rfl _ S.val rfl (congrArg Value.agg HSv.out) _ _ HA.out Tryz.laySize rfl (val_one _) ?_; apply Stop.go; intro w9 Ho9 HxG; have HE := Lib.hid (bonly HE.out Ho9.out HZ.out); have hSn := hSn.only Ho9.out (by have := HZ.out; have := z1.out; have := z2.out; omega); refine hK _ _ hSn ?_; clear hK; clear K; simp only [setL]; refine WH.done (by kernel_rfl) ?_; go_wp2_with fail; go_meet; exact ⟨_, rfl, HxG.out, HZ.out, HE.out⟩))
    focus (
      have HZ := Lib.hid HE.out.size; refine ow_alloc _ rfl _ Tryz.layZero ?_; apply Stop.go; intro wa HgN HA; have HE := Lib.hid (bt HE.out HgN.out.1); have hSn := hSn.ext HgN.out.1; refine hK _ _ hSn ?_; clear hK; clear K; simp only [setL]; clear HgN
      refine WH.only 1 _ rfl (by kernel_rfl) rfl (fun K hK => ?_); go_simp; refine (nat_any L HL.out _ _ _).mono ?_; rintro e wb ⟨rfl, hba⟩; go_simp
      rw [HG8.out]
      have HE := Lib.hid (bt HE.out hba)
      have HA := Lib.hid (HA.out.ext hba)
      have hSn := hSn.ext hba; refine hK _ _ hSn ?_; clear hK; clear K; simp only [setL]
      refine WH.only 3 _ rfl (by kernel_rfl) rfl (fun K hK => ?_); go_simp; refine (nat_any L HL.out _ _ _).mono ?_; rintro e wc ⟨rfl, hbb⟩; go_simp
      rw [HG10.out]
      have HE := Lib.hid (bt HE.out hbb)
      have HA := Lib.hid (HA.out.ext hbb)
      have hSn := hSn.ext hbb; refine hK _ _ hSn ?_; clear hK; clear K; simp only [setL]
      refine WH.tk 5 ?_; simp only [setL]
      refine WH.only 7 _ rfl (by kernel_rfl) rfl (fun K hK => ?_)
      refine ow_store _ _ _ rfl _ S.val rfl (congrArg Value.agg HSv.out) _ _ HA.out Tryz.laySize rfl (val_one _) ?_; apply Stop.go; intro w9 Ho9 HxG; have HE := Lib.hid (bonly HE.out Ho9.out HZ.out); have hSn := hSn.only Ho9.out (by have := HZ.out; have := z1.out; have := z2.out; omega); refine hK _ _ hSn ?_; clear hK; clear K; simp only [setL]; refine WH.done (by kernel_rfl) ?_; go_wp2_with fail; go_meet; exact ⟨_, rfl, HxG.out, HZ.out, HE.out⟩)
  case rest =>
  obtain ⟨G, rfl, hx, hge, hd⟩ := hcut
  have HE := Lib.hid hd
  have HX := Lib.hid hx
  have HGe := Lib.hid hge
  generalize wc = w3 at *
  have HB3 := Lib.hid (Hl2.out.ext HE.out)
  have HZ3 := Lib.hid (Hb2.out.ext HE.out)
  have Hbel3 := Lib.hid (bt Hbel2.out HE.out)
  have HZs := Lib.hid HE.out.size
  clear hx hge hd HE Hl2 Hbel2 HSv HG8 HG10 HG12 Hb1 Hg1 Hb2 Hg2
  go_wp2_with (refine wpList_load_blk rfl _ _ rfl _ rfl _ _ HX.out _ Tryz.underlying41 rfl Tryz.laySize ?_)
  refine (put14_any S HM.out _).mono ?_; rintro e w4 ⟨rfl, hb4⟩
  have HE4 := Lib.hid hb4
  have HX4 := Lib.hid (HX.out.ext hb4)
  have HB4 := Lib.hid (HB3.out.ext hb4)
  have HZ4 := Lib.hid (HZ3.out.ext hb4)
  have Hbel4 := Lib.hid (bt Hbel3.out hb4)
  clear hb4 HX HB3 HZ3 Hbel3
  have HPL := Lib.hid S.blk_len
  go_wp2_with (refine wpList_alloc_row rfl _ rfl _ Tryz.blockZero ?_)
  apply Stop.go; intro w5 Hg5 Hb5
  go_wp2_with (refine wpList_store_arr rfl _ _ _ rfl _ _ rfl rfl _ _ Hb5.out (Tryz.blockFits HPL.out) (by rw [bcells_size, bcells_size, HPL.out, zeros_len]) (oneCell_bcells _) ?_)
  apply Stop.go; intro w6 Ho6 Hb6
  have HB6 := Lib.hid ((HB4.out.ext Hg5.out.1).only Ho6.out (Nat.ne_of_lt HB4.out.lt))
  have HX6 := Lib.hid ((HX4.out.ext Hg5.out.1).only Ho6.out (Nat.ne_of_lt HX4.out.lt))
  have HZ6 := Lib.hid ((HZ4.out.ext Hg5.out.1).only Ho6.out (Nat.ne_of_lt HZ4.out.lt))
  have Hbel6 := Lib.hid (bonly (bt Hbel4.out Hg5.out.1) Ho6.out Hbel4.out.size)
  generalize w4.heap.size = g7 at *
  clear Ho6 Hg5 Hb5 HX4 HB4 HZ4 Hbel4 HE4
  have HZlt := Lib.hid (show w.heap.size ≤ w1.heap.size by rw [z1.out]; omega)
  obtain ⟨b, Hm⟩ : ∃ b, Hid (S.may = b) := ⟨_, Lib.hid rfl⟩
  rw [Hm.out]
  have HGet := Lib.hid (show get14 L = if S.may = true ∧ S.put = L then some S else none by unfold get14; rw [HS.out])
  cases b
  · have HG0 : Hid (get14 L = none) := Lib.hid (by rw [HGet.out, Hm.out, if_neg (by simp)])
    rw [show okArg false = 1 from rfl]
    have Hr : Hid ((!(L == L)) = false) := Lib.hid (by simp)
    go_wp2_with (first | refine wpList_load_blk rfl _ _ rfl _ rfl _ _ HX6.out _ Tryz.underlying41 rfl Tryz.laySize ?_ | refine wpList_load_arr rfl _ _ rfl _ rfl _ _ Hb6.out _ _ Tryz.underlying82 (Tryz.blockFits HPL.out) ?_ | refine wpList_load_arr rfl _ _ rfl _ rfl _ _ HB6.out _ _ Tryz.underlying82 (Tryz.blockFits HL.out) ?_ | refine wpList_neq_arr rfl _ _ _ _ rfl (by kernel_rfl) _ _ Tryz.underlying82 Tryz.underlying5 Tryz.byteSize _ _ rfl rfl HPL.out HL.out _ Hr.out ?_ | refine wpList_store_arr rfl _ _ _ rfl _ (zero14).val rfl rfl _ _ HZ6.out Tryz.laySize rfl (val_one _) ?_); apply Stop.go; intro w7 Ho7 Hb7; go_wp2_with ((with_reducible show bodyPost _ _ _ _ _ _); refine bodyPost_struct_tmp rfl _ rfl _ _ Hb7.out _ Tryz.underlying41 rfl Tryz.laySize rfl _ rfl ?_); apply Stop.go
    rw [got14, HG0.out]
    exact ⟨⟨rfl, rfl⟩, bonly Hbel6.out Ho7.out HZlt.out⟩
  · rw [show okArg true = 0 from rfl]
    have HP : Hid (S.blk = S.put) := Lib.hid (by unfold Lay14.blk; rw [Hm.out]; rfl)
    rw [HP.out] at Hb6 HPL ⊢
    obtain ⟨r, Hr⟩ : ∃ r, Hid ((!(S.put == L)) = r) := ⟨_, Lib.hid rfl⟩
    cases r
    · have HG1 : Hid (get14 L = some S) := Lib.hid (by rw [HGet.out, Hm.out, if_pos ⟨rfl, by simpa using Hr.out⟩])
      go_wp2_with (first | refine wpList_load_blk rfl _ _ rfl _ rfl _ _ HX6.out _ Tryz.underlying41 rfl Tryz.laySize ?_ | refine wpList_load_arr rfl _ _ rfl _ rfl _ _ Hb6.out _ _ Tryz.underlying82 (Tryz.blockFits HPL.out) ?_ | refine wpList_load_arr rfl _ _ rfl _ rfl _ _ HB6.out _ _ Tryz.underlying82 (Tryz.blockFits HL.out) ?_ | refine wpList_neq_arr rfl _ _ _ _ rfl (by kernel_rfl) _ _ Tryz.underlying82 Tryz.underlying5 Tryz.byteSize _ _ rfl rfl HPL.out HL.out _ Hr.out ?_ | refine wpList_store_arr rfl _ _ _ rfl _ (S).val rfl rfl _ _ HZ6.out Tryz.laySize rfl (val_one _) ?_); apply Stop.go; intro w7 Ho7 Hb7; go_wp2_with ((with_reducible show bodyPost _ _ _ _ _ _); refine bodyPost_struct_tmp rfl _ rfl _ _ Hb7.out _ Tryz.underlying41 rfl Tryz.laySize rfl _ rfl ?_); apply Stop.go
      rw [got14, HG1.out]
      exact ⟨⟨rfl, rfl⟩, bonly Hbel6.out Ho7.out HZlt.out⟩
    · have HG0 : Hid (get14 L = none) := Lib.hid (by rw [HGet.out, Hm.out, if_neg (by simpa using Hr.out)])
      go_wp2_with (first | refine wpList_load_blk rfl _ _ rfl _ rfl _ _ HX6.out _ Tryz.underlying41 rfl Tryz.laySize ?_ | refine wpList_load_arr rfl _ _ rfl _ rfl _ _ Hb6.out _ _ Tryz.underlying82 (Tryz.blockFits HPL.out) ?_ | refine wpList_load_arr rfl _ _ rfl _ rfl _ _ HB6.out _ _ Tryz.underlying82 (Tryz.blockFits HL.out) ?_ | refine wpList_neq_arr rfl _ _ _ _ rfl (by kernel_rfl) _ _ Tryz.underlying82 Tryz.underlying5 Tryz.byteSize _ _ rfl rfl HPL.out HL.out _ Hr.out ?_ | refine wpList_store_arr rfl _ _ _ rfl _ (zero14).val rfl rfl _ _ HZ6.out Tryz.laySize rfl (val_one _) ?_); apply Stop.go; intro w7 Ho7 Hb7; go_wp2_with ((with_reducible show bodyPost _ _ _ _ _ _); refine bodyPost_struct_tmp rfl _ rfl _ _ Hb7.out _ Tryz.underlying41 rfl Tryz.laySize rfl _ rfl ?_); apply Stop.go
      rw [got14, HG0.out]
      exact ⟨⟨rfl, rfl⟩, bonly Hbel6.out Ho7.out HZlt.out⟩

end Go.Proofs.YtkakihbfhmiabaaGreat
