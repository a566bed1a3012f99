/-
  Texts of this claim joined: Ino1, Ino2, Ino3, Tab1.
-/
import Derived.Test.YtkakihbfhmiabaaGreatRows
import Derived.Test.YtkakihbfhmiabaaGreatArrI
import Derived.Test.YtkakihbfhmiabaaGreatGrAS
import Derived.Test.YtkakihbfhmiabaaGreatPatO
import Derived.Test.YtkakihbfhmiabaaGreatGrAC
import Derived.Deep.CutRange
import Derived.Test.YtkakihbfhmiabaaGreatGrAB

/-
  Contracts of inode's isShort, areShort, numberAt, Numbers, mayBe, Check and Blocks; '==' of two inodes.
-/
namespace Go.Proofs.YtkakihbfhmiabaaGreat
open Go.RowKit
set_option maxRecDepth 10000

theorem Tryz.inoSize : (Tryz.prog.info? 59).map (·.size) = some 11 := by kernel_rfl
theorem Tryz.inoZero : (Tryz.prog.info? 59).map (·.zero) = some (some (.agg (icells freeI))) := by kernel_rfl
theorem Tryz.numSize : (Tryz.prog.info? 3).map (·.size) = some 1 := by kernel_rfl
theorem Tryz.inoFits {l : List Int} (h : l.length = 11) : (Tryz.prog.info? 59).map (·.size) = some (icells l).size := by rw [icells_size, h]; exact Tryz.inoSize
theorem Tryz.sevenSize : (Tryz.prog.info? 197).map (·.size) = some 7 := by kernel_rfl
theorem Tryz.sevenZero : (Tryz.prog.info? 197).map (·.zero) = some (some (.agg (icells [0, 0, 0, 0, 0, 0, 0]))) := by kernel_rfl
theorem Tryz.sevenFits {l : List Int} (h : l.length = 7) : (Tryz.prog.info? 197).map (·.size) = some (icells l).size := by rw [icells_size, h]; exact Tryz.sevenSize
theorem Tryz.b32Size : (Tryz.prog.info? 121).map (·.size) = some 32 := by kernel_rfl
theorem Tryz.b32Zero : (Tryz.prog.info? 121).map (·.zero) = some (some (.agg (bcells (zeros 32)))) := by kernel_rfl
theorem Tryz.b32Fits {l : List UInt8} (h : l.length = 32) : (Tryz.prog.info? 121).map (·.size) = some (bcells l).size := by rw [bcells_size, h]; exact Tryz.b32Size
theorem freeI_len : freeI.length = 11 := rfl

set_option maxHeartbeats 1600000 in
theorem run_eql_ino (l m : List Int) (hl : l.length = 11) (hm : m.length = 11) (w : World) : (binOp .eql 59 (.agg (icells l)) (.agg (icells m))).run Tryz.prog w = .ok (.bool (l == m)) w := by
  obtain ⟨a0, a1, a2, a3, a4, a5, a6, a7, a8, a9, a10, rfl⟩ := list_eleven hl
  obtain ⟨b0, b1, b2, b3, b4, b5, b6, b7, b8, b9, b10, rfl⟩ := list_eleven hm
  have hA := fun d (w : World) => run_equalIn_ints (P := Tryz.prog) w d 57 3 6 Tryz.underlying57 Tryz.underlying3 (sizeOf_of Tryz.numSize) [a4, a5, a6, a7, a8, a9] [b4, b5, b6, b7, b8, b9] rfl rfl
  unfold icells at hA ⊢
  simp only [List.map_cons, List.map_nil] at hA ⊢
  go_simp
  by_cases h0 : a0 = b0
  case neg => simp [h0]
  by_cases h1 : a1 = b1
  case neg => simp [h1]
  by_cases h2 : a2 = b2
  case neg => simp [h2]
  by_cases h3 : a3 = b3
  case neg => simp [h3]
  by_cases h4 : a4 = b4
  case neg => simp [h4]
  by_cases h5 : a5 = b5
  case neg => simp [h5]
  by_cases h6 : a6 = b6
  case neg => simp [h6]
  by_cases h7 : a7 = b7
  case neg => simp [h7]
  by_cases h8 : a8 = b8
  case neg => simp [h8]
  by_cases h9 : a9 = b9
  case neg => simp [h9]
  by_cases h10 : a10 = b10
  case neg => simp [h0, h1, h2, h3, h10]
  simp [h0, h1, h2, h3, h4, h5, h6, h7, h8, h9, h10]
theorem run_neq_ino (l m : List Int) (hl : l.length = 11) (hm : m.length = 11) (w : World) : (binOp .neq 59 (.agg (icells l)) (.agg (icells m))).run Tryz.prog w = .ok (.bool (!(l == m))) w := by
  have h := run_eql_ino l m hl hm w
  rw [run_eql_struct] at h
  rw [run_neq_struct]
  revert h
  generalize (Op.equalIn 10000 59 (.agg (icells l)) (.agg (icells m))).run Tryz.prog w = r
  intro h
  cases r with
  | ok b w' =>
    simp only [Result.andThen_ok, Result.ok.injEq, Value.bool.injEq] at h ⊢
    exact ⟨by rw [h.1], h.2⟩
  | halt x w' => simp [Result.andThen] at h

set_option maxHeartbeats 400000 in
theorem isShort_any (n : Int) (w : World) : Calls Tryz.prog 193 #[.int .i64 n] w fun e w' => e = .returned (.bool (shortB n)) ∧ w = w' := by
  by_cases h : 0 ≤ n
  · go_enter Tryz.func193, Tryz.ntmps193
    go_wp2
    go_ret
    simp [h, shortB]
  · go_enter Tryz.func193, Tryz.ntmps193
    go_wp2
    go_ret
    simp [shortB]
    omega

theorem numberAt_any (k : Nat) (hk : k ≤ 6) (w : World) : Calls Tryz.prog 147 #[.int .i64 k] w fun e w' => e = .returned (.int .i64 ((10 + 2 * k : Nat) : Int)) ∧ w = w' := by
  go_enter Tryz.func147, Tryz.ntmps147
  go_wp2
  go_ret
  simp
  omega


set_option maxHeartbeats 800000 in
theorem areShort_any (L : List Int) (hL : L.length = 7) (w : World) :
    Calls Tryz.prog 194 #[.agg (icells L)] w fun e w' => e = .returned (.bool (L.all shortB)) ∧ Below w.heap.size w w' := by
  have HL := Lib.hid hL
  go_enter Tryz.func194, Tryz.ntmps194
  go_wp2_with (refine wpList_box_row rfl _ _ rfl _ rfl ?_)
  apply Stop.go; intro w1 Hg1 Hb1
  go_wp2_with (refine wpList_load_blk rfl _ _ rfl _ rfl _ _ Hb1.out _ Tryz.underlying197 rfl (Tryz.sevenFits HL.out) ?_)
  go_loopw [6] (fun i wr => ∃ k : Nat, k ≤ 7 ∧ i = .int .i64 k ∧ wr = w1 ∧ Hid ((L.take k).all shortB = true)) (fun i _ => 7 - (intOf i).toNat)
  case atStart => exact ⟨0, Nat.zero_le _, rfl, rfl, Lib.hid rfl⟩
  case round =>
    obtain ⟨k, hk, rfl, rfl, HA⟩ := hrel
    by_cases hlt : k < 7
    · have e1 := take_succ_getI L k _ (fld_get L k (by rw [hL]; exact hlt))
      go_wp2_with (refine wpList_index_ints rfl _ _ _ rfl _ _ Tryz.underlying197 Tryz.underlying3 Tryz.numSize L rfl _ _ rfl k rfl hlt (by rw [HL.out]; exact hlt) ?_)
      refine (isShort_any _ _).mono ?_; rintro e w' ⟨rfl, rfl⟩
      obtain ⟨b, Hb⟩ : ∃ b, Hid (shortB (fld L k) = b) := ⟨_, Lib.hid rfl⟩
      rw [Hb.out]
      cases b
      · have HF := Lib.hid (show L.all shortB = false by
          rw [List.all_eq_false]
          exact ⟨fld L k, List.mem_of_getElem? (fld_get L k (by rw [hL]; exact hlt)), by rw [Hb.out]; simp⟩)
        clear e1
        go_wp2_with fail
        go_ret
        rw [HF.out]
        exact ⟨rfl, Hg1.out.1⟩
      · have HF := Lib.hid (show (L.take (k + 1)).all shortB = true by rw [e1, List.all_append, HA.out]; simp [Hb.out])
        clear e1
        go_wp2_with fail
        go_roundw
        case rel => exact ⟨k + 1, by omega, by go_num, by first | rfl | trivial, HF⟩
        case measure => simp [intOf]; omega
    · obtain rfl : k = 7 := by omega
      have HF := Lib.hid (show L.all shortB = true by rw [← HA.out, List.take_of_length_le (by omega)])
      go_wp2_with fail
      go_ret
      rw [HF.out]
      exact ⟨rfl, Hg1.out.1⟩

set_option maxHeartbeats 1600000 in
theorem numbers_any (l : List Int) (hl : l.length = 11) (w : World) :
    Calls Tryz.prog 149 #[.agg (icells l)] w fun e w' => e = .returned (.agg (icells (nums l))) ∧ Below w.heap.size w w' := by
  have HL := Lib.hid hl
  have HN := Lib.hid (nums_len hl)
  go_enter Tryz.func149, Tryz.ntmps149
  go_wp2_with (refine wpList_box_row rfl _ _ rfl _ rfl ?_)
  apply Stop.go; intro w1 Hg1 Hb1
  go_wp2_with (refine wpList_alloc_row rfl _ rfl _ Tryz.sevenZero ?_)
  apply Stop.go; intro w2 Hg2 Hb2
  go_wp2_with (refine wpList_alloc_row rfl _ rfl _ Tryz.sevenZero ?_)
  apply Stop.go; intro w3 Hg3 Hb3
  have z1 := Lib.hid Hg1.out.2
  have z2 := Lib.hid Hg2.out.2
  have z3 := Lib.hid Hg3.out.2
  have HX3 := Lib.hid ((Hb1.out.ext Hg2.out.1).ext Hg3.out.1)
  have HR3 := Lib.hid (Hb2.out.ext Hg3.out.1)
  have E3 := Lib.hid (bt (bt Hg1.out.1 Hg2.out.1) Hg3.out.1)
  have HO := Lib.hid (show w.heap.size < w1.heap.size ∧ w1.heap.size < w2.heap.size by rw [z1.out, z2.out, z1.out]; omega)
  generalize w1.heap.size = g2 at *
  generalize w2.heap.size = g3 at *
  clear Hg1 Hg2 Hg3 Hb1 Hb2 z1 z2 z3
  go_wp2_with fail
  refine WH.start (S := fun w' : World => Blk w' w.heap.size 59 (icells l)) [false, false, false, false] 4 rfl rfl (by kernel_rfl) (HX3.out.ext (bdrew w3 1)) (fun hSn => ?_); obtain ⟨wS, hwS⟩ : ∃ x, (w3).drew = x := ⟨_, rfl⟩; have HE := Lib.hid (show Below (w3).heap.size (w3) wS from hwS ▸ bdrew w3 1); rw [hwS] at hSn ⊢; clear hwS
  refine WH.tv 0 rfl (fun w' hSw => exec_slice_whole _ _ rfl 7 _ Tryz.underlying197 Tryz.numSize g3 0 rfl) ?_; simp only [setL]
  refine WH.tk 1 ?_; simp only [setL]
  refine WH.tv 2 rfl (fun w' hSw => exec_slice_whole _ _ rfl 6 _ Tryz.underlying57 Tryz.numSize w.heap.size 4 rfl) ?_; simp only [setL]
  refine WH.only 3 _ rfl (by kernel_rfl) rfl (fun K hK => ?_)
  have hl6 : ((l.drop 4).take 6).length = 6 := by rw [List.length_take, List.length_drop, hl]; rfl
  refine ow_copy_ints _ _ _ _ rfl _ Tryz.underlying76 Tryz.numSize g3 7 7 _ _ rfl (Hb3.out.ext HE.out) (Nat.le_refl _) ⟨w.heap.size, 4, none⟩ 6 6 ((l.drop 4).take 6) rfl hl6 (by omega) (by omega) (RC.of_blk_at hSn 4 6) ?_
  apply Stop.go; intro w4 Ho4 Hb4
  have hSn := hSn.only Ho4.out (by have := HO.out; omega); refine hK _ _ hSn ?_; clear hK; clear K; simp only [setL]
  refine WH.done (by kernel_rfl) ?_
  have c10 := hSn.fld 10 (by rw [hl]; omega)
  have HC4 := Lib.hid (show Blk w4 g3 197 (icells ((l.drop 4).take 6 ++ [0])) from Hb4.out)
  have HR4 := Lib.hid ((HR3.out.ext HE.out).only Ho4.out (by have := HO.out; omega))
  have E4 := Lib.hid (bonly (bt E3.out HE.out) Ho4.out (by have := HO.out; omega))
  have he : ((l.drop 4).take 6 ++ [0]).set 6 (fld l 10) = nums l := by
    obtain ⟨a0, a1, a2, a3, a4, a5, a6, a7, a8, a9, a10, rfl⟩ := list_eleven hl
    rfl
  have HI := Lib.hid he
  have hs7 : Hid (6 < (icells ((l.drop 4).take 6 ++ [0])).size) := Lib.hid (by rw [icells_size, List.length_append, hl6]; decide)
  clear Hb4 Ho4 hSn HE HX3 HR3 Hb3 E3 he hl hl6
  generalize (l.drop 4).take 6 ++ [0] = l7 at *
  go_wp2_with (first | refine wpList_store_cell rfl _ _ _ rfl Tryz.numSize g3 6 rfl (.int .i64 (fld l 10)) rfl rfl rfl _ _ HC4.out hs7.out ?_)
  apply Stop.go; intro w5 Ho5 Hb5
  have hb5 := Hb5.out
  rw [icells_set, HI.out] at hb5
  have HC5 := Lib.hid hb5
  have HR5 := Lib.hid (HR4.out.only Ho5.out (by have := HO.out; omega))
  have E5 := Lib.hid (bonly E4.out Ho5.out (by have := HO.out; omega))
  clear Hb5 hb5 Ho5 E4 HR4 HC4 c10
  go_wp2_with (first | refine wpList_load_blk rfl _ _ rfl _ rfl _ _ HC5.out _ Tryz.underlying197 rfl (Tryz.sevenFits HN.out) ?_ | refine wpList_store_arr rfl _ _ _ rfl _ _ rfl rfl _ _ HR5.out (Tryz.sevenFits HN.out) (by rw [icells_size, icells_size, HN.out]; rfl) (oneCell_icells _) ?_)
  apply Stop.go; intro w6 Ho6 Hb6
  go_wp2_with ((with_reducible show bodyPost _ _ _ _ _ _); refine bodyPost_cell rfl _ rfl _ _ Hb6.out _ _ Tryz.underlying197 (Tryz.sevenFits HN.out) rfl ?_)
  apply Stop.go
  exact bonly E5.out Ho6.out (by have := HO.out; omega)

theorem mayI_free {l : List Int} (h : fld l 0 = 0) : mayI l = (l == freeI) := by
  unfold mayI
  rw [if_pos h]
  exact Bool.eq_iff_iff.2 (by simp)
theorem mayI_used {l : List Int} (h : fld l 0 = 1 ∨ fld l 0 = 2) : mayI l = (shortB (fld l 1) && (shortB (fld l 3) && (sizeB (fld l 2) && (nums l).all shortB))) := by
  unfold mayI
  rw [if_neg (by omega), decide_eq_true h, Bool.true_and]
theorem mayI_other {l : List Int} (h0 : fld l 0 ≠ 0) (h1 : fld l 0 ≠ 1) (h2 : fld l 0 ≠ 2) : mayI l = false := by
  unfold mayI
  rw [if_neg h0, decide_eq_false (by omega), Bool.false_and]
set_option maxHeartbeats 1600000 in
theorem maybeI_any (l : List Int) (hl : l.length = 11) (w : World) :
    Calls Tryz.prog 167 #[.agg (icells l)] w fun e w' => e = .returned (.bool (mayI l)) ∧ Below w.heap.size w w' := by
  have HL := Lib.hid hl
  have HN := Lib.hid (nums_len hl)
  obtain ⟨k, hk⟩ : ∃ k, fld l 0 = k := ⟨_, rfl⟩
  obtain ⟨r, hr⟩ : ∃ r, mayI l = r := ⟨_, rfl⟩
  rw [hr]
  have HR := Lib.hid hr
  have HK := Lib.hid hk
  clear hr
  go_enter Tryz.func167, Tryz.ntmps167
  go_wp2_with (refine wpList_box_row rfl _ _ rfl _ rfl ?_)
  apply Stop.go; intro w1 Hg1 Hb1
  have c0 := Hb1.out.fld 0 (by rw [hl]; omega)
  have c1 := Hb1.out.fld 1 (by rw [hl]; omega)
  have c2 := Hb1.out.fld 2 (by rw [hl]; omega)
  have c3 := Hb1.out.fld 3 (by rw [hl]; omega)
  rw [hk] at c0
  clear hk
  by_cases h0 : k = 0
  · subst h0
    have HF := Lib.hid (show (l == freeI) = r by rw [← HR.out, mayI_free HK.out])
    go_wp2_with (first | refine wpList_load_blk rfl _ _ rfl _ rfl _ _ Hb1.out _ Tryz.underlying59 rfl (Tryz.inoFits HL.out) ?_ | (refine wpList_eql_agg rfl _ _ _ _ _ rfl (by kernel_rfl) (icells l) (icells freeI) rfl rfl _ (run_eql_ino l freeI HL.out freeI_len _) ?_))
    go_ret
    rw [HF.out]
    exact ⟨rfl, Hg1.out.1⟩
  by_cases h12 : k = 1 ∨ k = 2
  · obtain ⟨b1, B1⟩ : ∃ b, Hid (shortB (fld l 1) = b) := ⟨_, Lib.hid rfl⟩
    obtain ⟨b3, B3⟩ : ∃ b, Hid (shortB (fld l 3) = b) := ⟨_, Lib.hid rfl⟩
    obtain ⟨b4, B4⟩ : ∃ b, Hid ((nums l).all shortB = b) := ⟨_, Lib.hid rfl⟩
    have d0 : decide (k = 0) = false := decide_eq_false h0
    have HF := Lib.hid (show r = (b1 && (b3 && (decide (0 ≤ fld l 2) && (decide (fld l 2 ≤ 34304) && b4)))) by
      rw [← HR.out, mayI_used (by rw [HK.out]; exact h12), B1.out, B3.out, B4.out]
      unfold sizeB
      rw [Bool.decide_and, Bool.and_assoc])
    obtain ⟨z, HZ⟩ : ∃ z, Hid (fld l 2 = z) := ⟨_, Lib.hid rfl⟩
    rw [HZ.out] at c2 HF
    obtain ⟨q1, e1⟩ : ∃ q, decide (0 ≤ z) = q := ⟨_, rfl⟩
    obtain ⟨q2, e2⟩ : ∃ q, decide (z ≤ 34304) = q := ⟨_, rfl⟩
    rw [e1, e2] at HF
    rcases h12 with rfl | rfl
    all_goals
      go_wp2_with fail
      refine (isShort_any _ _).mono ?_; rintro e w' ⟨rfl, rfl⟩
      rw [B1.out]
      cases b1
      · go_wp2_with fail
        go_ret
        exact ⟨by rw [HF.out]; rfl, Hg1.out.1⟩
      go_wp2_with fail
      refine (isShort_any _ _).mono ?_; rintro e w' ⟨rfl, rfl⟩
      rw [B3.out]
      cases b3
      · go_wp2_with fail
        go_ret
        exact ⟨by rw [HF.out]; rfl, Hg1.out.1⟩
      cases q1
      · go_wp2_with fail
        go_ret
        exact ⟨by rw [HF.out]; rfl, Hg1.out.1⟩
      cases q2
      · go_wp2_with fail
        go_ret
        exact ⟨by rw [HF.out]; rfl, Hg1.out.1⟩
      go_wp2_with (refine wpList_load_blk rfl _ _ rfl _ rfl _ _ Hb1.out _ Tryz.underlying59 rfl (Tryz.inoFits HL.out) ?_)
      refine (numbers_any l HL.out _).mono ?_; rintro e w2 ⟨rfl, hb2⟩
      go_wp2_with fail
      refine (areShort_any (nums l) HN.out _).mono ?_; rintro e w3 ⟨rfl, hb3⟩
      rw [B4.out]
      go_wp2_with fail
      go_ret
      exact ⟨by rw [HF.out]; rfl, bt (bt Hg1.out.1 hb2) hb3⟩
  · have HF := Lib.hid (show r = false by rw [← HR.out, mayI_other (by rw [HK.out]; exact h0) (by rw [HK.out]; omega) (by rw [HK.out]; omega)])
    go_wp2_with fail
    go_ret
    rw [HF.out]
    exact ⟨rfl, Hg1.out.1⟩

set_option maxHeartbeats 800000 in
theorem checkI_any (l : List Int) (hl : l.length = 11) (w : World) :
    Calls Tryz.prog 148 #[.agg (icells l)] w fun e w' => e = .returned (.int .i64 (okArg (mayI l))) ∧ Below w.heap.size w w' := by
  have HL := Lib.hid hl
  go_enter Tryz.func148, Tryz.ntmps148
  go_wp2_with (refine wpList_box_row rfl _ _ rfl _ rfl ?_)
  apply Stop.go; intro w1 Hg1 Hb1
  go_wp2_with (refine wpList_load_blk rfl _ _ rfl _ rfl _ _ Hb1.out _ Tryz.underlying59 rfl (Tryz.inoFits HL.out) ?_)
  refine (maybeI_any l hl _).mono ?_; rintro e w2 ⟨rfl, hb2⟩
  have Hbel := Lib.hid (bt Hg1.out.1 hb2)
  obtain ⟨b, Hm⟩ : ∃ b, Hid (mayI l = b) := ⟨_, Lib.hid rfl⟩
  rw [Hm.out]
  clear hb2
  cases b
  all_goals
    go_wp2_with fail
    go_ret
    rw [Hm.out]
    exact ⟨rfl, Hbel.out⟩

end Go.Proofs.YtkakihbfhmiabaaGreat

/-
  The contract of inode's Put.
-/
namespace Go.Proofs.YtkakihbfhmiabaaGreat
open Go.RowKit
set_option maxRecDepth 10000

/-- The bytes that Put tells. -/
def outI (l : List Int) : List UInt8 := if mayI l then putI l else zeros 32
theorem outI_len {l : List Int} (h : l.length = 11) : (outI l).length = 32 := by
  unfold outI
  split
  · exact putI_len h
  · exact zeros_len _

/-- What Put has: the inode, the result's cell, the block in the making. -/
structure PutI (w w' : World) (l : List Int) (g0 g2 g5 : Nat) (X : List UInt8) : Prop where
  lo : w.heap.size ≤ g0 ∧ g0 < g2 ∧ g2 < g5
  ino : Blk w' g0 59 (icells l)
  res : Blk w' g2 121 (bcells (zeros 32))
  b : Blk w' g5 82 (bcells X)
  len : X.length = 256
  bel : Below w.heap.size w w'
theorem PutI.ext {w w' w'' : World} {l : List Int} {g0 g2 g5 : Nat} {X : List UInt8} (h : PutI w w' l g0 g2 g5 X) (e : Below w'.heap.size w' w'') : PutI w w'' l g0 g2 g5 X :=
  ⟨h.lo, h.ino.ext e, h.res.ext e, h.b.ext e, h.len, bt h.bel e⟩
theorem PutI.put {w w' w'' : World} {l : List Int} {g0 g2 g5 : Nat} {X Y : List UInt8} (h : PutI w w' l g0 g2 g5 X) (o : Only w' w'' g5) (b : Blk w'' g5 82 (bcells Y)) (hY : Y.length = 256) : PutI w w'' l g0 g2 g5 Y :=
  ⟨h.lo, h.ino.only o (by have := h.lo; omega), h.res.only o (by have := h.lo; omega), b, hY, bonly h.bel o (by have := h.lo; omega)⟩
theorem wrap_short {n : Int} (h : 0 ≤ n ∧ n ≤ 65535) : IntKind.u64.wrap n = (n.toNat : Nat) ∧ n.toNat < 18446744073709551616 := by
  refine ⟨?_, by omega⟩
  rw [IntWalk.u64_in _ (by omega)]
  omega
set_option maxHeartbeats 3200000 in
theorem putI_any (l : List Int) (hl : l.length = 11) (w : World) :
    Calls Tryz.prog 110 #[.agg (icells l)] w fun e w' => e = .returned (.tuple #[.agg (bcells (outI l)), .int .i64 (okArg (mayI l))]) ∧ Below w.heap.size w w' := by
  obtain ⟨b, Hm⟩ : ∃ b, Hid (mayI l = b) := ⟨_, Lib.hid rfl⟩
  have HB := Lib.hid (show outI l = if b then putI l else zeros 32 by unfold outI; rw [Hm.out])
  have HzL : Hid ((zeros 32).length = 32) := Lib.hid (zeros_len _)
  have Hz2 : Hid ((zeros 256).length = 256) := Lib.hid (zeros_len _)
  have HPL := Lib.hid (putI_len hl)
  have HL := Lib.hid hl
  go_enter Tryz.func110, Tryz.ntmps110
  go_wp2_with (refine wpList_box_row rfl _ _ rfl _ rfl ?_)
  apply Stop.go; intro w1 Hg1 Hb1
  go_wp2_with (refine wpList_alloc_row rfl _ rfl _ Tryz.b32Zero ?_)
  apply Stop.go; intro w2 Hg2 Hb2
  have z1 := Lib.hid Hg1.out.2
  have z2 := Lib.hid Hg2.out.2
  have Hl2 := Lib.hid (Hb1.out.below Hg2.out.1 (by rw [z1.out]; omega))
  go_wp2_with (refine wpList_load_blk rfl _ _ rfl _ rfl _ _ Hl2.out _ Tryz.underlying59 rfl (Tryz.inoFits HL.out) ?_)
  refine (checkI_any l hl _).mono ?_; rintro e w3 ⟨rfl, hb3⟩
  have Hl3 := Lib.hid (Hl2.out.ext hb3)
  have Hz3 := Lib.hid (Hb2.out.ext hb3)
  have Hbel3 := Lib.hid (bt (bt Hg1.out.1 Hg2.out.1) hb3)
  have HO := Lib.hid (show w.heap.size < w1.heap.size ∧ w1.heap.size < w3.heap.size by have := z1.out; have := z2.out; have := hb3.size; omega)
  clear hb3 Hl2 Hb1 Hb2 Hg1 Hg2 z1 z2
  generalize w1.heap.size = g2 at *
  rw [Hm.out]
  cases b
  · rw [show okArg false = 1 from rfl]
    have HB0 : Hid (outI l = zeros 32) := HB
    go_wp2_with (first | refine wpList_build_zero rfl _ rfl _ Tryz.b32Zero _ _ Tryz.underlying121 Tryz.byteSize ?_ | refine wpList_store_arr rfl _ _ _ rfl _ _ rfl rfl _ _ Hz3.out (Tryz.b32Fits HzL.out) (by simp only [bcells_size, HzL.out]) (oneCell_bcells _) ?_)
    apply Stop.go; intro w4 Ho4 Hb4
    go_wp2_with ((with_reducible show bodyPost _ _ _ _ _ _); refine bodyPost_cell_tmp rfl _ rfl _ _ Hb4.out _ _ Tryz.underlying121 (Tryz.b32Fits HzL.out) rfl _ rfl ?_)
    apply Stop.go
    rw [HB0.out, Hm.out]
    exact ⟨⟨rfl, rfl⟩, bonly Hbel3.out Ho4.out (by have := HO.out; omega)⟩
  · rw [show okArg true = 0 from rfl]
    have HB1 : Hid (outI l = putI l) := HB
    obtain ⟨i0, i1, i2, i3, i4⟩ := mayI_in hl Hm.out
    have W0 := Lib.hid (wrap_short (n := fld l 0) (by omega))
    have W1 := Lib.hid (wrap_short i1)
    have W2 := Lib.hid (wrap_short (n := fld l 2) (by omega))
    have W3 := Lib.hid (wrap_short i3)
    have WN := Lib.hid (fun k (hk : k < 7) => wrap_short (i4 k hk))
    clear i0 i1 i2 i3 i4
    obtain ⟨X0, X1, X2, hX0, hX1, hX2, hX3, hL0, hL1, hL2⟩ := put_allI hl
    have HX0 := Lib.hid hX0
    have HX1 := Lib.hid hX1
    have HX2 := Lib.hid hX2
    have HX3 := Lib.hid hX3
    have HL0 := Lib.hid hL0
    have HL1 := Lib.hid hL1
    have HL2 := Lib.hid hL2
    have HL3 := Lib.hid (walkI_len hl 0 (by omega))
    clear hX0 hX1 hX2 hX3 hL0 hL1 hL2
    have c0 := Hl3.out.fld 0 (by rw [hl]; omega)
    go_wp2_with (refine wpList_build_zero rfl _ rfl _ Tryz.blockZero _ _ Tryz.underlying82 Tryz.byteSize ?_)
    refine (nwith_any (zeros 256) Hz2.out _ _ _ _ W0.out.1 W0.out.2 _).mono ?_; rintro e w4 ⟨rfl, hb4⟩
    rw [HX0.out]
    clear c0
    go_wp2_with (refine wpList_alloc_row rfl _ rfl _ Tryz.blockZero ?_)
    apply Stop.go; intro w5 Hg5 Hb5
    go_wp2_with (refine wpList_store_arr rfl _ _ _ rfl _ _ rfl rfl _ _ Hb5.out (Tryz.blockFits HL0.out) (by rw [bcells_size, bcells_size, HL0.out, Hz2.out]) (oneCell_bcells _) ?_)
    apply Stop.go; intro w6 Ho6 Hb6
    have hs4 := hb4.size
    have H6 : Hid (PutI w w6 l w.heap.size g2 w4.heap.size X0) := Lib.hid ⟨⟨Nat.le_refl _, HO.out.1, by have := HO.out.2; omega⟩, ((Hl3.out.ext hb4).ext Hg5.out.1).only Ho6.out (by have := HO.out; omega), ((Hz3.out.ext hb4).ext Hg5.out.1).only Ho6.out (by have := HO.out; omega), Hb6.out, HL0.out, bonly (bt (bt Hbel3.out hb4) Hg5.out.1) Ho6.out (by have := HO.out; omega)⟩
    generalize w4.heap.size = g5 at *
    clear Hb5 Hg5 Ho6 Hb6 hb4 hs4 Hl3 Hz3 Hbel3
    have B6 := Lib.hid H6.out.b
    have c1 := H6.out.ino.fld 1 (by rw [hl]; omega)
    go_wp2_with (refine wpList_load_arr rfl _ _ rfl _ rfl _ _ B6.out _ _ Tryz.underlying82 (Tryz.blockFits HL0.out) ?_)
    refine (nwith_any X0 HL0.out _ _ _ _ W1.out.1 W1.out.2 _).mono ?_; rintro e w7 ⟨rfl, hb7⟩
    rw [HX1.out]
    have H7 := Lib.hid (H6.out.ext hb7)
    have B7 := Lib.hid H7.out.b
    clear hb7 c1 B6 H6
    go_wp2_with (refine wpList_store_arr rfl _ _ _ rfl _ _ rfl rfl _ _ B7.out (Tryz.blockFits HL1.out) (by rw [bcells_size, bcells_size, HL1.out, HL0.out]) (oneCell_bcells _) ?_)
    apply Stop.go; intro w8 Ho8 Hb8
    have H8 := Lib.hid (H7.out.put Ho8.out Hb8.out HL1.out)
    have B8 := Lib.hid H8.out.b
    have c2 := H8.out.ino.fld 2 (by rw [hl]; omega)
    clear Ho8 Hb8 H7 B7
    go_wp2_with (refine wpList_load_arr rfl _ _ rfl _ rfl _ _ B8.out _ _ Tryz.underlying82 (Tryz.blockFits HL1.out) ?_)
    refine (nwith_any X1 HL1.out _ _ _ _ W2.out.1 W2.out.2 _).mono ?_; rintro e w9 ⟨rfl, hb9⟩
    rw [HX2.out]
    have H9 := Lib.hid (H8.out.ext hb9)
    have B9 := Lib.hid H9.out.b
    clear hb9 c2 B8 H8
    go_wp2_with (refine wpList_store_arr rfl _ _ _ rfl _ _ rfl rfl _ _ B9.out (Tryz.blockFits HL2.out) (by rw [bcells_size, bcells_size, HL2.out, HL1.out]) (oneCell_bcells _) ?_)
    apply Stop.go; intro w10 Ho10 Hb10
    have H10 := Lib.hid (H9.out.put Ho10.out Hb10.out HL2.out)
    have B10 := Lib.hid H10.out.b
    have c3 := H10.out.ino.fld 3 (by rw [hl]; omega)
    clear Ho10 Hb10 H9 B9
    go_wp2_with (refine wpList_load_arr rfl _ _ rfl _ rfl _ _ B10.out _ _ Tryz.underlying82 (Tryz.blockFits HL2.out) ?_)
    refine (nwith_any X2 HL2.out _ _ _ _ W3.out.1 W3.out.2 _).mono ?_; rintro e w11 ⟨rfl, hb11⟩
    rw [HX3.out]
    have H11 := Lib.hid (H10.out.ext hb11)
    have B11 := Lib.hid H11.out.b
    clear hb11 c3 B10 H10 HX0 HX1 HX2 HX3 HL0 HL1
    go_wp2_with (refine wpList_store_arr rfl _ _ _ rfl _ _ rfl rfl _ _ B11.out (Tryz.blockFits HL3.out) (by rw [bcells_size, bcells_size, HL3.out, HL2.out]) (oneCell_bcells _) ?_)
    apply Stop.go; intro w12 Ho12 Hb12
    have H12 := Lib.hid (H11.out.put Ho12.out Hb12.out HL3.out)
    have I12 := Lib.hid H12.out.ino
    clear Ho12 Hb12 H11 B11 W0 W1 W2 W3 HL2
    go_wp2_with (refine wpList_load_blk rfl _ _ rfl _ rfl _ _ I12.out _ Tryz.underlying59 rfl (Tryz.inoFits HL.out) ?_)
    refine (numbers_any l hl _).mono ?_; rintro e w13 ⟨rfl, hb13⟩
    have H13 := Lib.hid (H12.out.ext hb13)
    clear hb13 H12 I12 HL3 HO
    have HLW := Lib.hid (fun k (hk : k ≤ 7) => walkI_len hl k hk)
    have HST := Lib.hid (fun k (hk : k < 7) => walkI_step hl k hk)
    have HWE := Lib.hid (walkI_end hl)
    have HNL := Lib.hid (nums_len hl)
    go_wp2_with fail
    go_loopw [6, 7, 33] (fun _ _ i wr => ∃ k : Nat, k ≤ 7 ∧ i = .int .i64 k ∧ Hid (PutI w wr l w.heap.size g2 g5 (walkI l k))) (fun _ _ i _ => 7 - (intOf i).toNat)
    case atStart => exact ⟨0, Nat.zero_le _, rfl, H13⟩
    case round =>
      obtain ⟨k, hk, rfl, HP⟩ := hrel
      by_cases hlt : k < 7
      · have HLk := Lib.hid (HLW.out k (by omega))
        have HLn := Lib.hid (HLW.out (k + 1) (by omega))
        have hsk := HST.out k hlt
        rw [show ((10 + 2 * k : Nat) : Int) = 10 + 2 * (k : Int) from by omega] at hsk
        have HSk := Lib.hid hsk
        clear hsk
        have HWk := Lib.hid (WN.out k hlt)
        have d0 : decide ((k : Int) < 7) = true := by simp; omega
        clear HWE HLW HST WN
        go_wp2_with (refine wpList_index_ints rfl _ _ _ rfl _ _ Tryz.underlying197 Tryz.underlying3 Tryz.numSize (nums l) rfl _ _ rfl k rfl hlt (by rw [HNL.out]; exact hlt) ?_)
        have HB0 := Lib.hid HP.out.b
        refine WT.start 5 (S := fun w' : World => Blk w' g5 82 (bcells (walkI l k))) [false, false, false, false, false, false] 6 rfl rfl (by kernel_rfl) (HB0.out.ext (bdrew wr 1)) (fun hSn => ?_); obtain ⟨wS, hwS⟩ : ∃ x, (wr).drew = x := ⟨_, rfl⟩; have HE := Lib.hid (show Below (wr).heap.size (wr) wS from hwS ▸ bdrew wr 1); rw [hwS] at hSn ⊢; clear hwS
        refine WT.tv 0 rfl (fun w' hSw => run_load_arr _ _ rfl _ rfl _ _ hSw _ _ Tryz.underlying82 (Tryz.blockFits HLk.out)) ?_; simp only [setL]
        refine WT.tk 1 ?_; simp only [setL]
        refine WT.tk 3 ?_; simp only [setL]
        refine WT.only 2 _ rfl (by kernel_rfl) rfl (fun K hK => ?_)
        go_simp; refine (numberAt_any k (by omega) _).mono ?_; rintro e wa ⟨rfl, rfl⟩; go_simp
        have hSn := hSn; refine hK _ _ hSn ?_; clear hK; clear K; simp only [setL]
        refine WT.only 4 _ rfl (by kernel_rfl) rfl (fun K hK => ?_)
        go_simp; refine (nwith_any (walkI l k) HLk.out _ _ _ _ HWk.out.1 HWk.out.2 _).mono ?_; rintro e wa ⟨rfl, hba⟩; go_simp
        rw [HSk.out]
        have HE := Lib.hid (bt HE.out hba)
        have HPa := Lib.hid (HP.out.ext HE.out)
        have hSn := HPa.out.b; refine hK _ _ hSn ?_; clear hK; clear K; simp only [setL]
        refine WT.last _ rfl (by kernel_rfl) rfl (fun K hK => ?_)
        refine ow_store _ _ _ rfl _ _ rfl rfl _ _ hSn (Tryz.blockFits HLn.out) (by rw [bcells_size, bcells_size, HLn.out, HLk.out]) (oneCell_bcells _) ?_
        apply Stop.go; intro wb Hob Hbb
        have HPb := Lib.hid (HPa.out.put Hob.out Hbb.out HLn.out)
        refine hK _ _ ?_; clear hK; clear K; simp only [setL]; refine WT.done (by kernel_rfl) ?_
        clear HPa HP HB0 HE hSn Hob Hbb
        go_wp2_with fail
        go_roundw
        case rel => exact ⟨k + 1, by omega, by go_num, HPb⟩
        case measure => simp [intOf]; omega
      · obtain rfl : k = 7 := by omega
        have HL7 := Lib.hid (HLW.out 7 (by omega))
        have d0 : decide ((7 : Int) < 7) = false := by simp
        clear HLW HST WN
        go_wp2_with (refine wpList_alloc_row rfl _ rfl _ Tryz.b32Zero ?_)
        apply Stop.go; intro wa Hga Hba
        have HPa := Lib.hid (HP.out.ext Hga.out.1)
        have B7 := Lib.hid HPa.out.b
        have HS0 := Lib.hid (show w.heap.size ≤ wr.heap.size from HP.out.bel.size)
        have HN5 := Lib.hid (show g2 < wr.heap.size from HP.out.res.lt)
        generalize wr.heap.size = g8 at *
        clear HP Hga
        go_wp2_with fail
        refine WT.start 2 (S := fun w' : World => Blk w' g8 121 (bcells (zeros 32))) [false, false, false] 3 rfl rfl (by kernel_rfl) (Hba.out.ext (bdrew wa 1)) (fun hSn => ?_); obtain ⟨wS, hwS⟩ : ∃ x, (wa).drew = x := ⟨_, rfl⟩; have HE := Lib.hid (show Below (wa).heap.size (wa) wS from hwS ▸ bdrew wa 1); rw [hwS] at hSn ⊢; clear hwS
        refine WT.tv 0 rfl (fun w' hSw => exec_slice_all _ _ rfl 32 _ Tryz.underlying121 Tryz.byteSize g8 rfl (by decide)) ?_; simp only [setL]
        refine WT.tv 1 rfl (fun w' hSw => exec_slice_all _ _ rfl 256 _ Tryz.underlying82 Tryz.byteSize g5 rfl (by decide)) ?_; simp only [setL]
        refine WT.last _ rfl (by kernel_rfl) rfl (fun K hK => ?_)
        refine ow_copy _ _ _ _ rfl _ Tryz.underlying26 Tryz.byteSize g8 0 32 32 (zeros 32) _ rfl hSn (by rw [HzL.out]; omega) _ 256 256 (walkI l 7) rfl HL7.out (RB.of_blk0 (B7.out.ext HE.out)) ?_
        apply Stop.go; intro wb Hob Hbb
        have HCb := Lib.hid (show Blk wb g8 121 (bcells (putI l)) by
          have h := Hbb.out
          rw [HWE.out, splice_all _ _ (by rw [HPL.out, HzL.out])] at h
          exact h)
        have HRb := Lib.hid ((HPa.out.res.ext HE.out).only Hob.out (by have := HN5.out; omega))
        have HEb := Lib.hid (bonly (bt HPa.out.bel HE.out) Hob.out HS0.out)
        have HG2 := Lib.hid (show w.heap.size ≤ g2 from Nat.le_trans HPa.out.lo.1 (Nat.le_of_lt HPa.out.lo.2.1))
        refine hK _ _ ?_; clear hK; clear K; simp only [setL]; refine WT.done (by kernel_rfl) ?_
        clear HPa B7 Hob Hbb HE hSn Hba HWE HL7
        go_wp2_with (first | refine wpList_load_arr rfl _ _ rfl _ rfl _ _ HCb.out _ _ Tryz.underlying121 (Tryz.b32Fits HPL.out) ?_ | refine wpList_store_arr rfl _ _ _ rfl _ _ rfl rfl _ _ HRb.out (Tryz.b32Fits HPL.out) (by simp only [bcells_size, HPL.out, HzL.out]) (oneCell_bcells _) ?_)
        apply Stop.go; intro wc Hoc Hbc
        go_wp2_with ((with_reducible show bodyPost _ _ _ _ _ _); refine bodyPost_cell_tmp rfl _ rfl _ _ Hbc.out _ _ Tryz.underlying121 (Tryz.b32Fits HPL.out) rfl _ rfl ?_)
        apply Stop.go
        rw [HB1.out, Hm.out]
        exact ⟨⟨rfl, rfl⟩, bonly HEb.out Hoc.out HG2.out⟩

end Go.Proofs.YtkakihbfhmiabaaGreat

/-
  The contracts of inode's Get and Clean.
-/
namespace Go.Proofs.YtkakihbfhmiabaaGreat
open Go.RowKit
set_option maxRecDepth 10000

set_option maxHeartbeats 3200000 in
theorem getI_any (b : List UInt8) (hb : b.length = 32) (w : World) :
    Calls Tryz.prog 109 #[.agg (bcells b)] w fun e w' => e = .returned (.agg (icells (getI b))) ∧ Below w.heap.size w w' := by
  have HbL := Lib.hid hb
  have Hz2 : Hid ((zeros 256).length = 256) := Lib.hid (zeros_len _)
  obtain ⟨L, HLd⟩ : ∃ L, Hid (b ++ zeros 224 = L) := ⟨_, Lib.hid rfl⟩
  have HLl := Lib.hid (show L.length = 256 by rw [← HLd.out, List.length_append, hb, zeros_len])
  have HLo := Lib.hid (show layL (zeros 256) 0 b = L by rw [← HLd.out, ofL_32 b hb])
  have HN := Lib.hid (show ∀ o W : Nat, 1 ≤ W → W ≤ 4 → o + W ≤ 32 → getN L (o : Nat) (W : Nat) 4 = leV b o W from fun o W h1 h4 h => by rw [← HLd.out]; exact getN_pad b _ hb o W h1 h4 h)
  have g0 : getN L 0 1 4 = leV b 0 1 := HN.out 0 1 (by omega) (by omega) (by omega)
  have g1 : getN L 2 2 4 = leV b 2 2 := HN.out 2 2 (by omega) (by omega) (by omega)
  have g2 : getN L 4 4 4 = leV b 4 4 := HN.out 4 4 (by omega) (by omega) (by omega)
  have g3 : getN L 8 2 4 = leV b 8 2 := HN.out 8 2 (by omega) (by omega) (by omega)
  have g4 : getN L 22 2 4 = leV b 22 2 := HN.out 22 2 (by omega) (by omega) (by omega)
  have G0 := Lib.hid g0
  have G1 := Lib.hid g1
  have G2 := Lib.hid g2
  have G3 := Lib.hid g3
  have G4 := Lib.hid g4
  clear g0 g1 g2 g3 g4
  obtain ⟨z, HZd⟩ : ∃ z : Int, Hid (((leV b 22 2 : Nat) : Int) = z) := ⟨_, Lib.hid rfl⟩
  have HV := Lib.hid (show #[Value.int .i64 ((leV b 0 1 : Nat) : Int), .int .i64 ((leV b 2 2 : Nat) : Int), .int .i64 ((leV b 4 4 : Nat) : Int), .int .i64 ((leV b 8 2 : Nat) : Int), .int .i64 0, .int .i64 0, .int .i64 0, .int .i64 0, .int .i64 0, .int .i64 0, .int .i64 ((leV b 22 2 : Nat) : Int)] = icells (gotK b 0 z) by rw [← HZd.out]; rfl)
  have HF := Lib.hid (show gotK b 6 z = getI b by rw [← HZd.out]; rfl)
  go_enter Tryz.func109, Tryz.ntmps109
  go_wp2_with (refine wpList_box_row rfl _ _ rfl _ rfl ?_)
  apply Stop.go; intro w1 Hg1 Hb1
  go_wp2_with (refine wpList_alloc_row rfl _ rfl _ Tryz.inoZero ?_)
  apply Stop.go; intro w2 Hg2 Hb2
  have z1 := Lib.hid Hg1.out.2
  have z2 := Lib.hid Hg2.out.2
  have Hl2 := Lib.hid (Hb1.out.below Hg2.out.1 (by rw [z1.out]; omega))
  have E2 := Lib.hid (bt Hg1.out.1 Hg2.out.1)
  go_wp2_with (refine wpList_slice_arr_all rfl _ _ rfl _ _ Tryz.underlying121 Tryz.byteSize _ rfl (by omega) ?_)
  refine (nof_any _ _ _ b HbL.out _ (RB.of_blk0 Hl2.out)).mono ?_; rintro e w3 ⟨rfl, hb3⟩
  rw [HLo.out]
  have HR3 := Lib.hid (Hb2.out.ext hb3)
  have E3 := Lib.hid (bt E2.out hb3)
  have HOw := Lib.hid (show w.heap.size < w1.heap.size ∧ w1.heap.size < w3.heap.size by have := z1.out; have := z2.out; have := hb3.size; omega)
  clear hb3 Hl2 E2 Hb1 Hb2 Hg1 Hg2 z1 z2
  go_wp2_with (refine wpList_alloc_row rfl _ rfl _ Tryz.blockZero ?_)
  apply Stop.go; intro w4 Hg4 Hb4
  go_wp2_with (refine wpList_store_arr rfl _ _ _ rfl _ _ rfl rfl _ _ Hb4.out (Tryz.blockFits HLl.out) (by rw [bcells_size, bcells_size, HLl.out, Hz2.out]) (oneCell_bcells _) ?_)
  apply Stop.go; intro w5 Ho5 Hb5
  have HR5 := Lib.hid ((HR3.out.ext Hg4.out.1).only Ho5.out (by have := HOw.out; omega))
  have E5 := Lib.hid (bonly (bt E3.out Hg4.out.1) Ho5.out (by have := HOw.out; omega))
  generalize w1.heap.size = r2 at *
  have HO := Lib.hid (show w3.heap.size < w5.heap.size from Hb5.out.lt)
  generalize w3.heap.size = g3 at *
  clear Hg4 Hb4 Ho5 HR3 E3
  go_upto_region 2 with fail
  go_cut [4] from 8 to 20 (fun v wx => ∃ G, v = .pointer (some ⟨G, 0, none⟩) ∧ Blk wx G 59 (icells (gotK b 0 z)) ∧ w5.heap.size ≤ G ∧ Below w5.heap.size w5 wx)
  case first =>
    refine WH.start (S := fun w' : World => Blk w' g3 82 (bcells L)) [false, false, false, false, false, false, false, false, false, false, false, false, false, false] 14 rfl rfl (by kernel_rfl) (Hb5.out.ext (bdrew w5 1)) (fun hSn => ?_); obtain ⟨wS, hwS⟩ : ∃ x, (w5).drew = x := ⟨_, rfl⟩; have HE := Lib.hid (show Below (w5).heap.size (w5) wS from hwS ▸ bdrew w5 1); rw [hwS] at hSn ⊢; clear hwS
    refine WH.tv 0 rfl (fun w' hSw => run_load_arr _ _ rfl _ rfl _ _ (hSw) _ _ (Tryz.underlying82) (Tryz.blockFits HLl.out)) ?_; simp only [setL]
    refine WH.tv 2 rfl (fun w' hSw => run_load_arr _ _ rfl _ rfl _ _ (hSw) _ _ (Tryz.underlying82) (Tryz.blockFits HLl.out)) ?_; simp only [setL]
    refine WH.tv 4 rfl (fun w' hSw => run_load_arr _ _ rfl _ rfl _ _ (hSw) _ _ (Tryz.underlying82) (Tryz.blockFits HLl.out)) ?_; simp only [setL]
    refine WH.tv 6 rfl (fun w' hSw => run_load_arr _ _ rfl _ rfl _ _ (hSw) _ _ (Tryz.underlying82) (Tryz.blockFits HLl.out)) ?_; simp only [setL]
    refine WH.tv 8 rfl (fun w' hSw => run_load_arr _ _ rfl _ rfl _ _ (hSw) _ _ (Tryz.underlying82) (Tryz.blockFits HLl.out)) ?_; simp only [setL]
    refine WH.two 1 12 _ _ rfl rfl (by kernel_rfl) rfl rfl (fun K hK => ?_) (fun K hK => ?_)
    focus (
      go_simp; refine (nat_any L HLl.out _ _ _).mono ?_; rintro e v1 ⟨rfl, hba⟩; go_simp
      rw [G0.out]
      have HE := Lib.hid (bt HE.out hba)
      have hSn := hSn.ext hba; refine hK _ _ hSn ?_; clear hK; clear K; simp only [setL]
      clear hba
      refine WH.two 3 12 _ _ rfl rfl (by kernel_rfl) rfl rfl (fun K hK => ?_) (fun K hK => ?_)
      focus (
        go_simp; refine (nat_any L HLl.out _ _ _).mono ?_; rintro e v2 ⟨rfl, hba⟩; go_simp
        rw [G1.out]
        have HE := Lib.hid (bt HE.out hba)
        have hSn := hSn.ext hba; refine hK _ _ hSn ?_; clear hK; clear K; simp only [setL]
        clear hba
        refine WH.two 5 12 _ _ rfl rfl (by kernel_rfl) rfl rfl (fun K hK => ?_) (fun K hK => ?_)
        focus (
          go_simp; refine (nat_any L HLl.out _ _ _).mono ?_; rintro e v3 ⟨rfl, hba⟩; go_simp
          rw [G2.out]
          have HE := Lib.hid (bt HE.out hba)
          have hSn := hSn.ext hba; refine hK _ _ hSn ?_; clear hK; clear K; simp only [setL]
          clear hba
          refine WH.two 7 12 _ _ rfl rfl (by kernel_rfl) rfl rfl (fun K hK => ?_) (fun K hK => ?_)
          focus (
            go_simp; refine (nat_any L HLl.out _ _ _).mono ?_; rintro e v4 ⟨rfl, hba⟩; go_simp
            rw [G3.out]
            have HE := Lib.hid (bt HE.out hba)
            have hSn := hSn.ext hba; refine hK _ _ hSn ?_; clear hK; clear K; simp only [setL]
            clear hba
            refine WH.two 9 12 _ _ rfl rfl (by kernel_rfl) rfl rfl (fun K hK => ?_) (fun K hK => ?_)
            focus (
              go_simp; refine (numberAt_any 6 (by omega) _).mono ?_; rintro e v5 ⟨rfl, rfl⟩; go_simp
              have hSn := hSn; refine hK _ _ hSn ?_; clear hK; clear K; simp only [setL]
              refine WH.two 10 12 _ _ rfl rfl (by kernel_rfl) rfl rfl (fun K hK => ?_) (fun K hK => ?_)
              focus (
                go_simp; refine (nat_any L HLl.out _ _ _).mono ?_; rintro e v6 ⟨rfl, hba⟩; go_simp
                rw [G4.out]
                have HE := Lib.hid (bt HE.out hba)
                have hSn := hSn.ext hba; refine hK _ _ hSn ?_; clear hK; clear K; simp only [setL]
                clear hba
                refine WH.tk 11 ?_; simp only [setL]
                refine WH.only 12 _ rfl (by kernel_rfl) rfl (fun K hK => ?_)
                have HZ := Lib.hid HE.out.size; refine ow_alloc _ rfl _ Tryz.inoZero ?_; apply Stop.go; intro v7 HgN HA; have HE := Lib.hid (bt HE.out HgN.out.1); have hSn := hSn.ext HgN.out.1; refine hK _ _ hSn ?_; clear hK; clear K; simp only [setL]; clear HgN
                refine WH.only 13 _ rfl (by kernel_rfl) rfl (fun K hK => ?_)
                refine ow_store _ _ _ rfl _ (icells (gotK b 0 z)) rfl (congrArg Value.agg HV.out) _ _ HA.out Tryz.inoSize rfl (oneCell_icells _) ?_; apply Stop.go; intro w9 Ho9 HxG; have HE := Lib.hid (bonly HE.out Ho9.out HZ.out); have hSn := hSn.only Ho9.out (by have := HZ.out; have := HO.out; omega); refine hK _ _ hSn ?_; clear hK; clear K; simp only [setL]; refine WH.done (by kernel_rfl) ?_; go_wp2_with fail; go_meet; exact ⟨_, rfl, HxG.out, HZ.out, HE.out⟩)
              focus (
                have HZ := Lib.hid HE.out.size; refine ow_alloc _ rfl _ Tryz.inoZero ?_; apply Stop.go; intro v8 HgN HA; have HE := Lib.hid (bt HE.out HgN.out.1); have hSn := hSn.ext HgN.out.1; refine hK _ _ hSn ?_; clear hK; clear K; simp only [setL]; clear HgN
                refine WH.only 10 _ rfl (by kernel_rfl) rfl (fun K hK => ?_); go_simp; refine (nat_any L HLl.out _ _ _).mono ?_; rintro e v9 ⟨rfl, hba⟩; go_simp
                rw [G4.out]
                have HE := Lib.hid (bt HE.out hba)
                have HA := Lib.hid (HA.out.ext hba)
                have hSn := hSn.ext hba; refine hK _ _ hSn ?_; clear hK; clear K; simp only [setL]
                clear hba
                refine WH.tk 11 ?_; simp only [setL]
                refine WH.only 13 _ rfl (by kernel_rfl) rfl (fun K hK => ?_)
                refine ow_store _ _ _ rfl _ (icells (gotK b 0 z)) rfl (congrArg Value.agg HV.out) _ _ HA.out Tryz.inoSize rfl (oneCell_icells _) ?_; apply Stop.go; intro w9 Ho9 HxG; have HE := Lib.hid (bonly HE.out Ho9.out HZ.out); have hSn := hSn.only Ho9.out (by have := HZ.out; have := HO.out; omega); refine hK _ _ hSn ?_; clear hK; clear K; simp only [setL]; refine WH.done (by kernel_rfl) ?_; go_wp2_with fail; go_meet; exact ⟨_, rfl, HxG.out, HZ.out, HE.out⟩))
            focus (
              have HZ := Lib.hid HE.out.size; refine ow_alloc _ rfl _ Tryz.inoZero ?_; apply Stop.go; intro v10 HgN HA; have HE := Lib.hid (bt HE.out HgN.out.1); have hSn := hSn.ext HgN.out.1; refine hK _ _ hSn ?_; clear hK; clear K; simp only [setL]; clear HgN
              refine WH.only 9 _ rfl (by kernel_rfl) rfl (fun K hK => ?_); go_simp; refine (numberAt_any 6 (by omega) _).mono ?_; rintro e v11 ⟨rfl, rfl⟩; go_simp
              have hSn := hSn; refine hK _ _ hSn ?_; clear hK; clear K; simp only [setL]
              refine WH.only 10 _ rfl (by kernel_rfl) rfl (fun K hK => ?_); go_simp; refine (nat_any L HLl.out _ _ _).mono ?_; rintro e v12 ⟨rfl, hba⟩; go_simp
              rw [G4.out]
              have HE := Lib.hid (bt HE.out hba)
              have HA := Lib.hid (HA.out.ext hba)
              have hSn := hSn.ext hba; refine hK _ _ hSn ?_; clear hK; clear K; simp only [setL]
              clear hba
              refine WH.tk 11 ?_; simp only [setL]
              refine WH.only 13 _ rfl (by kernel_rfl) rfl (fun K hK => ?_)
              refine ow_store _ _ _ rfl _ (icells (gotK b 0 z)) rfl (congrArg Value.agg HV.out) _ _ HA.out Tryz.inoSize rfl (oneCell_icells _) ?_; apply Stop.go; intro w9 Ho9 HxG; have HE := Lib.hid (bonly HE.out Ho9.out HZ.out); have hSn := hSn.only Ho9.out (by have := HZ.out; have := HO.out; omega); refine hK _ _ hSn ?_; clear hK; clear K; simp only [setL]; refine WH.done (by kernel_rfl) ?_; go_wp2_with fail; go_meet; exact ⟨_, rfl, HxG.out, HZ.out, HE.out⟩))
          focus (
            have HZ := Lib.hid HE.out.size; refine ow_alloc _ rfl _ Tryz.inoZero ?_; apply Stop.go; intro v13 HgN HA; have HE := Lib.hid (bt HE.out HgN.out.1); have hSn := hSn.ext HgN.out.1; refine hK _ _ hSn ?_; clear hK; clear K; simp only [setL]; clear HgN
            refine WH.only 7 _ rfl (by kernel_rfl) rfl (fun K hK => ?_); go_simp; refine (nat_any L HLl.out _ _ _).mono ?_; rintro e v14 ⟨rfl, hba⟩; go_simp
            rw [G3.out]
            have HE := Lib.hid (bt HE.out hba)
            have HA := Lib.hid (HA.out.ext hba)
            have hSn := hSn.ext hba; refine hK _ _ hSn ?_; clear hK; clear K; simp only [setL]
            clear hba
            refine WH.only 9 _ rfl (by kernel_rfl) rfl (fun K hK => ?_); go_simp; refine (numberAt_any 6 (by omega) _).mono ?_; rintro e v15 ⟨rfl, rfl⟩; go_simp
            have hSn := hSn; refine hK _ _ hSn ?_; clear hK; clear K; simp only [setL]
            refine WH.only 10 _ rfl (by kernel_rfl) rfl (fun K hK => ?_); go_simp; refine (nat_any L HLl.out _ _ _).mono ?_; rintro e v16 ⟨rfl, hba⟩; go_simp
            rw [G4.out]
            have HE := Lib.hid (bt HE.out hba)
            have HA := Lib.hid (HA.out.ext hba)
            have hSn := hSn.ext hba; refine hK _ _ hSn ?_; clear hK; clear K; simp only [setL]
            clear hba
            refine WH.tk 11 ?_; simp only [setL]
            refine WH.only 13 _ rfl (by kernel_rfl) rfl (fun K hK => ?_)
            refine ow_store _ _ _ rfl _ (icells (gotK b 0 z)) rfl (congrArg Value.agg HV.out) _ _ HA.out Tryz.inoSize rfl (oneCell_icells _) ?_; apply Stop.go; intro w9 Ho9 HxG; have HE := Lib.hid (bonly HE.out Ho9.out HZ.out); have hSn := hSn.only Ho9.out (by have := HZ.out; have := HO.out; omega); refine hK _ _ hSn ?_; clear hK; clear K; simp only [setL]; refine WH.done (by kernel_rfl) ?_; go_wp2_with fail; go_meet; exact ⟨_, rfl, HxG.out, HZ.out, HE.out⟩))
        focus (
          have HZ := Lib.hid HE.out.size; refine ow_alloc _ rfl _ Tryz.inoZero ?_; apply Stop.go; intro v17 HgN HA; have HE := Lib.hid (bt HE.out HgN.out.1); have hSn := hSn.ext HgN.out.1; refine hK _ _ hSn ?_; clear hK; clear K; simp only [setL]; clear HgN
          refine WH.only 5 _ rfl (by kernel_rfl) rfl (fun K hK => ?_); go_simp; refine (nat_any L HLl.out _ _ _).mono ?_; rintro e v18 ⟨rfl, hba⟩; go_simp
          rw [G2.out]
          have HE := Lib.hid (bt HE.out hba)
          have HA := Lib.hid (HA.out.ext hba)
          have hSn := hSn.ext hba; refine hK _ _ hSn ?_; clear hK; clear K; simp only [setL]
          clear hba
          refine WH.only 7 _ rfl (by kernel_rfl) rfl (fun K hK => ?_); go_simp; refine (nat_any L HLl.out _ _ _).mono ?_; rintro e v19 ⟨rfl, hba⟩; go_simp
          rw [G3.out]
          have HE := Lib.hid (bt HE.out hba)
          have HA := Lib.hid (HA.out.ext hba)
          have hSn := hSn.ext hba; refine hK _ _ hSn ?_; clear hK; clear K; simp only [setL]
          clear hba
          refine WH.only 9 _ rfl (by kernel_rfl) rfl (fun K hK => ?_); go_simp; refine (numberAt_any 6 (by omega) _).mono ?_; rintro e v20 ⟨rfl, rfl⟩; go_simp
          have hSn := hSn; refine hK _ _ hSn ?_; clear hK; clear K; simp only [setL]
          refine WH.only 10 _ rfl (by kernel_rfl) rfl (fun K hK => ?_); go_simp; refine (nat_any L HLl.out _ _ _).mono ?_; rintro e v21 ⟨rfl, hba⟩; go_simp
          rw [G4.out]
          have HE := Lib.hid (bt HE.out hba)
          have HA := Lib.hid (HA.out.ext hba)
          have hSn := hSn.ext hba; refine hK _ _ hSn ?_; clear hK; clear K; simp only [setL]
          clear hba
          refine WH.tk 11 ?_; simp only [setL]
          refine WH.only 13 _ rfl (by kernel_rfl) rfl (fun K hK => ?_)
          refine ow_store _ _ _ rfl _ (icells (gotK b 0 z)) rfl (congrArg Value.agg HV.out) _ _ HA.out Tryz.inoSize rfl (oneCell_icells _) ?_; apply Stop.go; intro w9 Ho9 HxG; have HE := Lib.hid (bonly HE.out Ho9.out HZ.out); have hSn := hSn.only Ho9.out (by have := HZ.out; have := HO.out; omega); refine hK _ _ hSn ?_; clear hK; clear K; simp only [setL]; refine WH.done (by kernel_rfl) ?_; go_wp2_with fail; go_meet; exact ⟨_, rfl, HxG.out, HZ.out, HE.out⟩))
      focus (
        have HZ := Lib.hid HE.out.size; refine ow_alloc _ rfl _ Tryz.inoZero ?_; apply Stop.go; intro v22 HgN HA; have HE := Lib.hid (bt HE.out HgN.out.1); have hSn := hSn.ext HgN.out.1; refine hK _ _ hSn ?_; clear hK; clear K; simp only [setL]; clear HgN
        refine WH.only 3 _ rfl (by kernel_rfl) rfl (fun K hK => ?_); go_simp; refine (nat_any L HLl.out _ _ _).mono ?_; rintro e v23 ⟨rfl, hba⟩; go_simp
        rw [G1.out]
        have HE := Lib.hid (bt HE.out hba)
        have HA := Lib.hid (HA.out.ext hba)
        have hSn := hSn.ext hba; refine hK _ _ hSn ?_; clear hK; clear K; simp only [setL]
        clear hba
        refine WH.only 5 _ rfl (by kernel_rfl) rfl (fun K hK => ?_); go_simp; refine (nat_any L HLl.out _ _ _).mono ?_; rintro e v24 ⟨rfl, hba⟩; go_simp
        rw [G2.out]
        have HE := Lib.hid (bt HE.out hba)
        have HA := Lib.hid (HA.out.ext hba)
        have hSn := hSn.ext hba; refine hK _ _ hSn ?_; clear hK; clear K; simp only [setL]
        clear hba
        refine WH.only 7 _ rfl (by kernel_rfl) rfl (fun K hK => ?_); go_simp; refine (nat_any L HLl.out _ _ _).mono ?_; rintro e v25 ⟨rfl, hba⟩; go_simp
        rw [G3.out]
        have HE := Lib.hid (bt HE.out hba)
        have HA := Lib.hid (HA.out.ext hba)
        have hSn := hSn.ext hba; refine hK _ _ hSn ?_; clear hK; clear K; simp only [setL]
        clear hba
        refine WH.only 9 _ rfl (by kernel_rfl) rfl (fun K hK => ?_); go_simp; refine (numberAt_any 6 (by omega) _).mono ?_; rintro e v26 ⟨rfl, rfl⟩; go_simp
        have hSn := hSn; refine hK _ _ hSn ?_; clear hK; clear K; simp only [setL]
        refine WH.only 10 _ rfl (by kernel_rfl) rfl (fun K hK => ?_); go_simp; refine (nat_any L HLl.out _ _ _).mono ?_; rintro e v27 ⟨rfl, hba⟩; go_simp
        rw [G4.out]
        have HE := Lib.hid (bt HE.out hba)
        have HA := Lib.hid (HA.out.ext hba)
        have hSn := hSn.ext hba; refine hK _ _ hSn ?_; clear hK; clear K; simp only [setL]
        clear hba
        refine WH.tk 11 ?_; simp only [setL]
        refine WH.only 13 _ rfl (by kernel_rfl) rfl (fun K hK => ?_)
        refine ow_store _ _ _ rfl _ (icells (gotK b 0 z)) rfl (congrArg Value.agg HV.out) _ _ HA.out Tryz.inoSize rfl (oneCell_icells _) ?_; apply Stop.go; intro w9 Ho9 HxG; have HE := Lib.hid (bonly HE.out Ho9.out HZ.out); have hSn := hSn.only Ho9.out (by have := HZ.out; have := HO.out; omega); refine hK _ _ hSn ?_; clear hK; clear K; simp only [setL]; refine WH.done (by kernel_rfl) ?_; go_wp2_with fail; go_meet; exact ⟨_, rfl, HxG.out, HZ.out, HE.out⟩))
    focus (
      have HZ := Lib.hid HE.out.size; refine ow_alloc _ rfl _ Tryz.inoZero ?_; apply Stop.go; intro v28 HgN HA; have HE := Lib.hid (bt HE.out HgN.out.1); have hSn := hSn.ext HgN.out.1; refine hK _ _ hSn ?_; clear hK; clear K; simp only [setL]; clear HgN
      refine WH.only 1 _ rfl (by kernel_rfl) rfl (fun K hK => ?_); go_simp; refine (nat_any L HLl.out _ _ _).mono ?_; rintro e v29 ⟨rfl, hba⟩; go_simp
      rw [G0.out]
      have HE := Lib.hid (bt HE.out hba)
      have HA := Lib.hid (HA.out.ext hba)
      have hSn := hSn.ext hba; refine hK _ _ hSn ?_; clear hK; clear K; simp only [setL]
      clear hba
      refine WH.only 3 _ rfl (by kernel_rfl) rfl (fun K hK => ?_); go_simp; refine (nat_any L HLl.out _ _ _).mono ?_; rintro e v30 ⟨rfl, hba⟩; go_simp
      rw [G1.out]
      have HE := Lib.hid (bt HE.out hba)
      have HA := Lib.hid (HA.out.ext hba)
      have hSn := hSn.ext hba; refine hK _ _ hSn ?_; clear hK; clear K; simp only [setL]
      clear hba
      refine WH.only 5 _ rfl (by kernel_rfl) rfl (fun K hK => ?_); go_simp; refine (nat_any L HLl.out _ _ _).mono ?_; rintro e v31 ⟨rfl, hba⟩; go_simp
      rw [G2.out]
      have HE := Lib.hid (bt HE.out hba)
      have HA := Lib.hid (HA.out.ext hba)
      have hSn := hSn.ext hba; refine hK _ _ hSn ?_; clear hK; clear K; simp only [setL]
      clear hba
      refine WH.only 7 _ rfl (by kernel_rfl) rfl (fun K hK => ?_); go_simp; refine (nat_any L HLl.out _ _ _).mono ?_; rintro e v32 ⟨rfl, hba⟩; go_simp
      rw [G3.out]
      have HE := Lib.hid (bt HE.out hba)
      have HA := Lib.hid (HA.out.ext hba)
      have hSn := hSn.ext hba; refine hK _ _ hSn ?_; clear hK; clear K; simp only [setL]
      clear hba
      refine WH.only 9 _ rfl (by kernel_rfl) rfl (fun K hK => ?_); go_simp; refine (numberAt_any 6 (by omega) _).mono ?_; rintro e v33 ⟨rfl, rfl⟩; go_simp
      have hSn := hSn; refine hK _ _ hSn ?_; clear hK; clear K; simp only [setL]
      refine WH.only 10 _ rfl (by kernel_rfl) rfl (fun K hK => ?_); go_simp; refine (nat_any L HLl.out _ _ _).mono ?_; rintro e v34 ⟨rfl, hba⟩; go_simp
      rw [G4.out]
      have HE := Lib.hid (bt HE.out hba)
      have HA := Lib.hid (HA.out.ext hba)
      have hSn := hSn.ext hba; refine hK _ _ hSn ?_; clear hK; clear K; simp only [setL]
      clear hba
      refine WH.tk 11 ?_; simp only [setL]
      refine WH.only 13 _ rfl (by kernel_rfl) rfl (fun K hK => ?_)
      refine ow_store _ _ _ rfl _ (icells (gotK b 0 z)) rfl (congrArg Value.agg HV.out) _ _ HA.out Tryz.inoSize rfl (oneCell_icells _) ?_; apply Stop.go; intro w9 Ho9 HxG; have HE := Lib.hid (bonly HE.out Ho9.out HZ.out); have hSn := hSn.only Ho9.out (by have := HZ.out; have := HO.out; omega); refine hK _ _ hSn ?_; clear hK; clear K; simp only [setL]; refine WH.done (by kernel_rfl) ?_; go_wp2_with fail; go_meet; exact ⟨_, rfl, HxG.out, HZ.out, HE.out⟩)
  case rest =>
  obtain ⟨G, rfl, hx, hge, hd⟩ := hcut
  have HE := Lib.hid hd
  have HX := Lib.hid hx
  have HGe := Lib.hid hge
  generalize wc = w6 at *
  have HB6 := Lib.hid (Hb5.out.ext HE.out)
  have HR6 := Lib.hid (HR5.out.ext HE.out)
  have E6 := Lib.hid (bt E5.out HE.out)
  have HNG := Lib.hid (show r2 < G ∧ g3 < G ∧ w.heap.size < r2 ∧ r2 < g3 by have := HGe.out; have := HO.out; have := HOw.out; omega)
  clear hx hge hd HE G0 G1 G2 G3 G4 HV HR5 Hb5 E5 HGe HO HOw
  go_wp2_with fail
  go_loopw [5, 20] (fun _ i wr => ∃ k : Nat, k ≤ 6 ∧ i = .int .i64 k ∧ Hid (Blk wr G 59 (icells (gotK b k z))) ∧ Hid (Blk wr g3 82 (bcells L)) ∧ Hid (Blk wr r2 59 (icells freeI)) ∧ Hid (Below w.heap.size w wr)) (fun _ i _ => 6 - (intOf i).toNat)
  case atStart => exact ⟨0, Nat.zero_le _, rfl, HX, HB6, HR6, E6⟩
  case round =>
    obtain ⟨k, hk, rfl, HXk, HBk, HRk, Ek⟩ := hrel
    by_cases hlt : k < 6
    · have hg := HN.out (10 + 2 * k) 2 (by omega) (by omega) (by omega)
      rw [show ((10 + 2 * k : Nat) : Int) = 10 + 2 * (k : Int) from by omega] at hg
      have hg' : getN L (10 + 2 * (k : Int)) 2 4 = leV b (10 + 2 * k) 2 := hg
      have HG := Lib.hid hg'
      have HS := Lib.hid (gotK_set b z k hlt)
      have d0 : decide ((k : Int) < 6) = true := by simp; omega
      have p0 : 0 ≤ (k : Int) := by omega
      have p1 : (k : Int) < 6 := by omega
      clear hg hg' HN
      go_wp2_with fail
      refine WH.start (S := fun w' : World => Blk w' g3 82 (bcells L)) [false, false, false, false, false, false, false, false] 8 rfl rfl (by kernel_rfl) (HBk.out.ext (bdrew wr 1)) (fun hSn => ?_); obtain ⟨wS, hwS⟩ : ∃ x, (wr).drew = x := ⟨_, rfl⟩; have HE := Lib.hid (show Below (wr).heap.size (wr) wS from hwS ▸ bdrew wr 1); rw [hwS] at hSn ⊢; clear hwS
      refine WH.tk 0 ?_; simp only [setL]
      refine WH.tv 1 rfl (fun w' hSw => run_load_arr _ _ rfl _ rfl _ _ (hSw) _ _ (Tryz.underlying82) (Tryz.blockFits HLl.out)) ?_; simp only [setL]
      refine WH.tk 2 ?_; simp only [setL]
      refine WH.tk 5 ?_; simp only [setL]
      refine WH.only 3 _ rfl (by kernel_rfl) rfl (fun K hK => ?_)
      go_simp; refine (numberAt_any k (by omega) _).mono ?_; rintro e wa ⟨rfl, rfl⟩; go_simp
      have hSn := hSn; refine hK _ _ hSn ?_; clear hK; clear K; simp only [setL]
      refine WH.only 4 _ rfl (by kernel_rfl) rfl (fun K hK => ?_)
      go_simp; refine (nat_any L HLl.out _ _ _).mono ?_; rintro e wa ⟨rfl, hba⟩; go_simp
      rw [HG.out]
      have HE := Lib.hid (bt HE.out hba)
      have hSn := hSn.ext hba; refine hK _ _ hSn ?_; clear hK; clear K; simp only [setL]
      refine WH.tk 6 ?_; simp only [setL]
      refine WH.only 7 _ rfl (by kernel_rfl) rfl (fun K hK => ?_)
      refine ow_store_cell _ _ _ rfl Tryz.numSize G (4 + k) rfl (.int .i64 ((leV b (10 + 2 * k) 2 : Nat) : Int)) rfl rfl rfl _ _ (HXk.out.ext HE.out) (by rw [icells_size, gotK_len]; omega) ?_
      apply Stop.go; intro wb Hob Hbb
      have hbb := Hbb.out
      rw [icells_set, HS.out] at hbb
      have HXn := Lib.hid hbb
      have HRn := Lib.hid ((HRk.out.ext HE.out).only Hob.out (by have := HNG.out; omega))
      have HBn := Lib.hid (hSn.only Hob.out (by have := HNG.out; omega))
      have En := Lib.hid (bonly (bt Ek.out HE.out) Hob.out (by have := HNG.out; omega))
      have hSn := HBn.out; refine hK _ _ hSn ?_; clear hK; clear K; simp only [setL]
      refine WH.done (by kernel_rfl) ?_
      clear hbb Hbb Hob HE hSn HXk HBk HRk Ek hba
      go_wp2_with fail
      go_roundw
      case rel => exact ⟨k + 1, by omega, by go_num, HXn, HBn, HRn, En⟩
      case measure => simp [intOf]; omega
    · obtain rfl : k = 6 := by omega
      have d0 : decide ((6 : Int) < 6) = false := by simp
      rw [HF.out] at HXk
      go_wp2_with (first | refine wpList_load_blk rfl _ _ rfl _ rfl _ _ HXk.out _ Tryz.underlying59 rfl (Tryz.inoFits (getI_len b)) ?_ | refine wpList_store_arr rfl _ _ _ rfl _ _ rfl rfl _ _ HRk.out (Tryz.inoFits (getI_len b)) (by rw [icells_size, icells_size, getI_len]; rfl) (oneCell_icells _) ?_)
      apply Stop.go; intro wc Hoc Hbc
      go_wp2_with ((with_reducible show bodyPost _ _ _ _ _ _); refine bodyPost_struct rfl _ rfl _ _ Hbc.out _ Tryz.underlying59 rfl (Tryz.inoFits (getI_len b)) rfl ?_)
      apply Stop.go
      exact bonly Ek.out Hoc.out (by have := HNG.out; omega)

/-- What Clean tells. -/
def cleanV (b : List UInt8) : List Int := (cleanI b).getD freeI
theorem cleanV_len (b : List UInt8) : (cleanV b).length = 11 := by
  unfold cleanV cleanI
  split
  · exact getI_len b
  · rfl
theorem cleanI_cases (b : List UInt8) : (mayI (getI b) = false → cleanI b = none) ∧ (mayI (getI b) = true → (putI (getI b) == b) = false → cleanI b = none) ∧ (mayI (getI b) = true → (putI (getI b) == b) = true → cleanI b = some (getI b)) := by
  unfold cleanI
  refine ⟨fun h => if_neg (by simp [h]), fun _ h2 => if_neg (by simpa using fun _ => by simpa using h2), fun h1 h2 => if_pos ⟨h1, by simpa using h2⟩⟩

set_option maxHeartbeats 3200000 in
theorem cleanI_any (b : List UInt8) (hb : b.length = 32) (w : World) :
    Calls Tryz.prog 72 #[.agg (bcells b)] w fun e w' => e = .returned (.tuple #[.agg (icells (cleanV b)), .bool (cleanI b).isSome]) ∧ Below w.heap.size w w' := by
  have HbL := Lib.hid hb
  have HzL : Hid ((zeros 32).length = 32) := Lib.hid (zeros_len _)
  obtain ⟨x, HX⟩ : ∃ x, Hid (getI b = x) := ⟨_, Lib.hid rfl⟩
  have HxL := Lib.hid (show x.length = 11 by rw [← HX.out]; rfl)
  have HPL := Lib.hid (outI_len HxL.out)
  have HC := cleanI_cases b
  rw [HX.out] at HC
  have HC := Lib.hid HC
  go_enter Tryz.func72, Tryz.ntmps72
  go_wp2_with (refine wpList_box_row rfl _ _ rfl _ rfl ?_)
  apply Stop.go; intro w1 Hg1 Hb1
  go_wp2_with (refine wpList_alloc_row rfl _ rfl _ Tryz.inoZero ?_)
  apply Stop.go; intro w2 Hg2 Hb2
  have z1 := Lib.hid Hg1.out.2
  have z2 := Lib.hid Hg2.out.2
  have Hl2 := Lib.hid (Hb1.out.below Hg2.out.1 (by rw [z1.out]; omega))
  have E2 := Lib.hid (bt Hg1.out.1 Hg2.out.1)
  go_wp2_with (refine wpList_load_arr rfl _ _ rfl _ rfl _ _ Hl2.out _ _ Tryz.underlying121 (Tryz.b32Fits HbL.out) ?_)
  refine (getI_any b HbL.out _).mono ?_; rintro e w3 ⟨rfl, hb3⟩
  rw [HX.out]
  have HB3 := Lib.hid (Hl2.out.ext hb3)
  have HR3 := Lib.hid (Hb2.out.ext hb3)
  have E3 := Lib.hid (bt E2.out hb3)
  have HO3 := Lib.hid (show w.heap.size < w1.heap.size ∧ w1.heap.size < w3.heap.size by have := z1.out; have := z2.out; have := hb3.size; omega)
  generalize w1.heap.size = r2 at *
  clear hb3 Hl2 E2 Hb1 Hb2 Hg1 Hg2 z1 z2
  go_wp2_with (refine wpList_alloc_row rfl _ rfl _ Tryz.inoZero ?_)
  apply Stop.go; intro w4 Hg4 Hb4
  go_wp2_with (refine wpList_store_arr rfl _ _ _ rfl _ _ rfl rfl _ _ Hb4.out (Tryz.inoFits HxL.out) (by rw [icells_size, icells_size, HxL.out]; rfl) (oneCell_icells _) ?_)
  apply Stop.go; intro w5 Ho5 Hb5
  have HB5 := Lib.hid ((HB3.out.ext Hg4.out.1).only Ho5.out (by have := HO3.out; omega))
  have HR5 := Lib.hid ((HR3.out.ext Hg4.out.1).only Ho5.out (by have := HO3.out; omega))
  have E5 := Lib.hid (bonly (bt E3.out Hg4.out.1) Ho5.out (by have := HO3.out; omega))
  have HO5 := Lib.hid (show w.heap.size < r2 ∧ r2 < w3.heap.size ∧ w3.heap.size < w5.heap.size from ⟨HO3.out.1, HO3.out.2, Hb5.out.lt⟩)
  generalize w3.heap.size = g4 at *
  clear Hg4 Hb4 Ho5 HB3 HR3 E3 HO3
  go_wp2_with (refine wpList_load_blk rfl _ _ rfl _ rfl _ _ Hb5.out _ Tryz.underlying59 rfl (Tryz.inoFits HxL.out) ?_)
  refine (putI_any x HxL.out _).mono ?_; rintro e w6 ⟨rfl, hb6⟩
  have HX6 := Lib.hid (Hb5.out.ext hb6)
  have HB6 := Lib.hid (HB5.out.ext hb6)
  have HR6 := Lib.hid (HR5.out.ext hb6)
  have E6 := Lib.hid (bt E5.out hb6)
  have HO6 := Lib.hid (show w.heap.size < r2 ∧ r2 < g4 ∧ g4 < w6.heap.size by have := HO5.out; have := hb6.size; omega)
  obtain ⟨m, Hm⟩ : ∃ m, Hid (mayI x = m) := ⟨_, Lib.hid rfl⟩
  have HU := Lib.hid (show outI x = if m then putI x else zeros 32 by unfold outI; rw [Hm.out])
  rw [Hm.out]
  obtain ⟨X, HXd⟩ : ∃ X, Hid (outI x = X) := ⟨_, Lib.hid rfl⟩
  rw [HXd.out] at HPL HU ⊢
  clear hb6 Hb5 HB5 HR5 E5 HO5
  go_wp2_with (refine wpList_alloc_row rfl _ rfl _ Tryz.b32Zero ?_)
  apply Stop.go; intro w7 Hg7 Hb7
  go_wp2_with (refine wpList_store_arr rfl _ _ _ rfl _ _ rfl rfl _ _ Hb7.out (Tryz.b32Fits HPL.out) (by simp only [bcells_size, HPL.out, HzL.out]) (oneCell_bcells _) ?_)
  apply Stop.go; intro w8 Ho8 Hb8
  have HX8 := Lib.hid ((HX6.out.ext Hg7.out.1).only Ho8.out (by have := HO6.out; omega))
  have HB8 := Lib.hid ((HB6.out.ext Hg7.out.1).only Ho8.out (by have := HO6.out; omega))
  have HR8 := Lib.hid ((HR6.out.ext Hg7.out.1).only Ho8.out (by have := HO6.out; omega))
  have E8 := Lib.hid (bonly (bt E6.out Hg7.out.1) Ho8.out (by have := HO6.out; omega))
  have HO8 := Lib.hid (show w.heap.size ≤ r2 by have := HO6.out; omega)
  generalize w6.heap.size = g7 at *
  clear Hg7 Hb7 Ho8 HX6 HB6 HR6 E6 HO6
  cases m
  · have H0 := Lib.hid (HC.out.1 Hm.out)
    rw [okArg_false]
    go_wp2_with (first | refine wpList_store_arr rfl _ _ _ rfl _ (icells freeI) rfl rfl _ _ HR8.out Tryz.inoSize rfl (oneCell_icells _) ?_)
    apply Stop.go; intro wc Hoc Hbc
    go_wp2_with ((with_reducible show bodyPost _ _ _ _ _ _); refine bodyPost_struct_tmp rfl _ rfl _ _ Hbc.out _ Tryz.underlying59 rfl Tryz.inoSize rfl _ rfl ?_)
    apply Stop.go
    rw [cleanV, H0.out]
    exact ⟨⟨rfl, rfl⟩, bonly E8.out Hoc.out HO8.out⟩
  · rw [okArg_true]
    obtain ⟨r, Hr⟩ : ∃ r, Hid ((X == b) = r) := ⟨_, Lib.hid rfl⟩
    have HXp : Hid (X = putI x) := HU
    have Hn := Lib.hid (show (!(X == b)) = !r by rw [Hr.out])
    cases r
    · have H0 := Lib.hid (HC.out.2.1 Hm.out (by rw [← HXp.out]; exact Hr.out))
      go_wp2_with (first | refine wpList_load_arr rfl _ _ rfl _ rfl _ _ Hb8.out _ _ Tryz.underlying121 (Tryz.b32Fits HPL.out) ?_ | refine wpList_load_arr rfl _ _ rfl _ rfl _ _ HB8.out _ _ Tryz.underlying121 (Tryz.b32Fits HbL.out) ?_ | refine wpList_neq_arr rfl _ _ _ _ rfl (by kernel_rfl) _ _ Tryz.underlying121 Tryz.underlying5 Tryz.byteSize _ _ rfl rfl HPL.out HbL.out _ Hn.out ?_ | refine wpList_store_arr rfl _ _ _ rfl _ (icells freeI) rfl rfl _ _ HR8.out Tryz.inoSize rfl (oneCell_icells _) ?_)
      apply Stop.go; intro wc Hoc Hbc
      go_wp2_with ((with_reducible show bodyPost _ _ _ _ _ _); refine bodyPost_struct_tmp rfl _ rfl _ _ Hbc.out _ Tryz.underlying59 rfl Tryz.inoSize rfl _ rfl ?_)
      apply Stop.go
      rw [cleanV, H0.out]
      exact ⟨⟨rfl, rfl⟩, bonly E8.out Hoc.out HO8.out⟩
    · have H0 := Lib.hid (HC.out.2.2 Hm.out (by rw [← HXp.out]; exact Hr.out))
      go_wp2_with (first | refine wpList_load_arr rfl _ _ rfl _ rfl _ _ Hb8.out _ _ Tryz.underlying121 (Tryz.b32Fits HPL.out) ?_ | refine wpList_load_arr rfl _ _ rfl _ rfl _ _ HB8.out _ _ Tryz.underlying121 (Tryz.b32Fits HbL.out) ?_ | refine wpList_neq_arr rfl _ _ _ _ rfl (by kernel_rfl) _ _ Tryz.underlying121 Tryz.underlying5 Tryz.byteSize _ _ rfl rfl HPL.out HbL.out _ Hn.out ?_ | refine wpList_load_blk rfl _ _ rfl _ rfl _ _ HX8.out _ Tryz.underlying59 rfl (Tryz.inoFits HxL.out) ?_ | refine wpList_store_arr rfl _ _ _ rfl _ _ rfl rfl _ _ HR8.out (Tryz.inoFits HxL.out) (by rw [icells_size, icells_size, HxL.out]; rfl) (oneCell_icells _) ?_)
      apply Stop.go; intro wc Hoc Hbc
      go_wp2_with ((with_reducible show bodyPost _ _ _ _ _ _); refine bodyPost_struct_tmp rfl _ rfl _ _ Hbc.out _ Tryz.underlying59 rfl (Tryz.inoFits HxL.out) rfl _ rfl ?_)
      apply Stop.go
      rw [cleanV, H0.out]
      exact ⟨⟨rfl, rfl⟩, bonly E8.out Hoc.out HO8.out⟩

end Go.Proofs.YtkakihbfhmiabaaGreat

/-
  Contracts of package table: isPlace, placeAt, Raw, Get, isFree.
-/
namespace Go.Proofs.YtkakihbfhmiabaaGreat
open Go.RowKit

set_option maxHeartbeats 400000 in
theorem tplace_any (k : Int) (w : World) : Calls Tryz.prog 71 #[.int .i64 k] w fun e w' => e = .returned (.bool (placeB k)) ∧ w = w' := by
  by_cases h : 0 ≤ k
  · go_enter Tryz.func71, Tryz.ntmps71
    go_wp2
    go_ret
    simp [h, placeB]
  · go_enter Tryz.func71, Tryz.ntmps71
    go_wp2
    go_ret
    simp [placeB]
    omega

theorem placeAt_any (q : Nat) (hq : q < 8) (w : World) : Calls Tryz.prog 111 #[.int .i64 q] w fun e w' => e = .returned (.int .i64 ((32 * q : Nat) : Int)) ∧ w = w' := by
  go_enter Tryz.func111, Tryz.ntmps111
  go_wp2
  go_ret
  simp
  omega

set_option maxHeartbeats 1600000 in
theorem traw_any (b : List UInt8) (hb : b.length = 256) (k : Int) (w : World) :
    Calls Tryz.prog 73 #[.agg (bcells b), .int .i64 k] w fun e w' => e = .returned (.agg (bcells (rawT b k))) ∧ Below w.heap.size w w' := by
  have HbL := Lib.hid hb
  have HzL : Hid ((zeros 32).length = 32) := Lib.hid (zeros_len _)
  have HRL := Lib.hid (rawT_len hb k)
  go_enter Tryz.func73, Tryz.ntmps73
  go_wp2_with (refine wpList_box_row rfl _ _ rfl _ rfl ?_)
  apply Stop.go; intro w1 Hg1 Hb1
  go_wp2_with (refine wpList_alloc_row rfl _ rfl _ Tryz.b32Zero ?_)
  apply Stop.go; intro w2 Hg2 Hb2
  go_wp2_with (refine wpList_alloc_row rfl _ rfl _ Tryz.b32Zero ?_)
  apply Stop.go; intro w3 Hg3 Hb3
  have HB3 := Lib.hid ((Hb1.out.ext Hg2.out.1).ext Hg3.out.1)
  have HR3 := Lib.hid (Hb2.out.ext Hg3.out.1)
  have E3 := Lib.hid (bt (bt Hg1.out.1 Hg2.out.1) Hg3.out.1)
  have z3 := Lib.hid (show w.heap.size < w1.heap.size ∧ w1.heap.size < w2.heap.size by have := Hg1.out.2; have := Hg2.out.2; omega)
  generalize w1.heap.size = g1 at *
  generalize w2.heap.size = g2 at *
  clear Hb1 Hb2 Hg1 Hg2 Hg3 hb
  go_wp2_with fail
  refine (tplace_any k _).mono ?_; rintro e w4 ⟨rfl, rfl⟩
  cases hp : placeB k
  · have H0 := Lib.hid (rawT_no b hp)
    clear hp
    go_wp2_with (first | refine wpList_load_arr rfl _ _ rfl _ rfl _ _ Hb3.out _ _ Tryz.underlying121 (Tryz.b32Fits HzL.out) ?_ | refine wpList_store_arr rfl _ _ _ rfl _ _ rfl rfl _ _ HR3.out (Tryz.b32Fits HzL.out) rfl (oneCell_bcells _) ?_)
    apply Stop.go; intro w5 Ho5 Hb5
    go_wp2_with ((with_reducible show bodyPost _ _ _ _ _ _); refine bodyPost_cell rfl _ rfl _ _ Hb5.out _ _ Tryz.underlying121 (Tryz.b32Fits HzL.out) rfl ?_)
    apply Stop.go
    rw [H0.out]
    exact ⟨rfl, bonly E3.out Ho5.out (by have := z3.out; omega)⟩
  · obtain ⟨q, hq, rfl⟩ := placeB_true hp
    have HC := Lib.hid (rawT_copy HbL.out hq)
    obtain ⟨X, HX⟩ : ∃ X, Hid (rawT b (q : Int) = X) := ⟨_, Lib.hid rfl⟩
    rw [HX.out] at HC HRL
    clear hp
    go_wp2_with fail
    refine WH.start (S := fun w' : World => Blk w' w.heap.size 82 (bcells b)) [false, false, false, false, false] 5 rfl rfl (by kernel_rfl) (HB3.out.ext (bdrew w3 1)) (fun hSn => ?_); obtain ⟨wS, hwS⟩ : ∃ x, (w3).drew = x := ⟨_, rfl⟩; have HE := Lib.hid (show Below (w3).heap.size (w3) wS from hwS ▸ bdrew w3 1); rw [hwS] at hSn ⊢; clear hwS
    refine WH.tk 0 ?_; simp only [setL]
    refine WH.tk 1 ?_; simp only [setL]
    refine WH.only 2 _ rfl (by kernel_rfl) rfl (fun K hK => ?_)
    go_simp; refine (placeAt_any q hq _).mono ?_; rintro e wa ⟨rfl, rfl⟩; go_simp
    have hSn := hSn; refine hK _ _ hSn ?_; clear hK; clear K; simp only [setL]
    refine WH.tv 3 rfl (fun w' hSw => exec_slice_l _ _ _ rfl _ _ Tryz.underlying82 Tryz.byteSize _ rfl _ _ rfl (32 * q) (by omega) (by omega)) ?_; simp only [setL]
    refine WH.only 4 _ rfl (by kernel_rfl) rfl (fun K hK => ?_)
    refine ow_copy _ _ _ _ rfl _ Tryz.underlying26 Tryz.byteSize g2 0 32 32 (zeros 32) _ rfl (Hb3.out.ext HE.out) (by rw [HzL.out]; omega) _ _ _ ((b.drop (32 * q)).take (256 - 32 * q)) rfl (by rw [List.length_take, List.length_drop, HbL.out]; omega) (RB.of_blk_at (HB3.out.ext HE.out) (32 * q) (256 - 32 * q)) ?_
    apply Stop.go; intro wb Hob Hbb
    rw [HC.out] at Hbb
    have hSn := hSn.only Hob.out (by have := z3.out; omega); refine hK _ _ hSn ?_; clear hK; clear K; simp only [setL]
    refine WH.done (by kernel_rfl) ?_
    have HRb := Lib.hid ((HR3.out.ext HE.out).only Hob.out (by have := z3.out; omega))
    have Eb := Lib.hid (bonly (bt E3.out HE.out) Hob.out (by have := z3.out; omega))
    clear HR3 HB3 hSn HE Hob E3 HC
    go_wp2_with (first | refine wpList_load_arr rfl _ _ rfl _ rfl _ _ Hbb.out _ _ Tryz.underlying121 (Tryz.b32Fits HRL.out) ?_ | refine wpList_store_arr rfl _ _ _ rfl _ _ rfl rfl _ _ HRb.out (Tryz.b32Fits HRL.out) (by simp only [bcells_size, HRL.out, HzL.out]) (oneCell_bcells _) ?_)
    apply Stop.go; intro w5 Ho5 Hb5
    go_wp2_with ((with_reducible show bodyPost _ _ _ _ _ _); refine bodyPost_cell rfl _ rfl _ _ Hb5.out _ _ Tryz.underlying121 (Tryz.b32Fits HRL.out) rfl ?_)
    apply Stop.go
    rw [HX.out]
    exact ⟨rfl, bonly Eb.out Ho5.out (by have := z3.out; omega)⟩

set_option maxHeartbeats 1600000 in
theorem tget_any (b : List UInt8) (hb : b.length = 256) (k : Int) (w : World) :
    Calls Tryz.prog 46 #[.agg (bcells b), .int .i64 k] w fun e w' => e = .returned (.tuple #[.agg (icells (getTV b k)), .bool (getT b k).isSome]) ∧ Below w.heap.size w w' := by
  have HbL := Lib.hid hb
  have HRL := Lib.hid (rawT_len hb k)
  go_enter Tryz.func46, Tryz.ntmps46
  go_wp2_with (refine wpList_box_row rfl _ _ rfl _ rfl ?_)
  apply Stop.go; intro w1 Hg1 Hb1
  go_wp2_with (refine wpList_alloc_row rfl _ rfl _ Tryz.inoZero ?_)
  apply Stop.go; intro w2 Hg2 Hb2
  have HB2 := Lib.hid (Hb1.out.ext Hg2.out.1)
  have E2 := Lib.hid (bt Hg1.out.1 Hg2.out.1)
  have z2 := Lib.hid (show w.heap.size < w1.heap.size by have := Hg1.out.2; omega)
  generalize w1.heap.size = g1 at *
  clear Hb1 Hg1 Hg2 hb
  go_wp2_with fail
  refine (tplace_any k _).mono ?_; rintro e w3 ⟨rfl, rfl⟩
  cases hp : placeB k
  · have H0 := Lib.hid (show getTV b k = freeI ∧ getT b k = none by unfold getTV; rw [getT_no b hp]; exact ⟨rfl, rfl⟩)
    clear hp
    go_wp2_with (first | refine wpList_store_arr rfl _ _ _ rfl _ (icells freeI) rfl rfl _ _ Hb2.out Tryz.inoSize rfl (oneCell_icells _) ?_)
    apply Stop.go; intro wc Hoc Hbc
    go_wp2_with ((with_reducible show bodyPost _ _ _ _ _ _); refine bodyPost_struct_tmp rfl _ rfl _ _ Hbc.out _ Tryz.underlying59 rfl Tryz.inoSize rfl _ rfl ?_)
    apply Stop.go
    rw [H0.out.1]
    exact ⟨⟨rfl, H0.out.2⟩, bonly E2.out Hoc.out (by have := z2.out; omega)⟩
  · have H0 := Lib.hid (show getTV b k = cleanV (rawT b k) ∧ (getT b k).isSome = (cleanI (rawT b k)).isSome by unfold getTV cleanV getT; rw [hp]; exact ⟨rfl, rfl⟩)
    clear hp
    go_wp2_with (refine wpList_load_arr rfl _ _ rfl _ rfl _ _ HB2.out _ _ Tryz.underlying82 (Tryz.blockFits HbL.out) ?_)
    refine (traw_any b HbL.out k _).mono ?_; rintro e w4 ⟨rfl, hb4⟩
    have HR4 := Lib.hid (Hb2.out.ext hb4)
    have E4 := Lib.hid (bt E2.out hb4)
    clear hb4 HB2 Hb2 E2
    go_wp2_with fail
    refine (cleanI_any _ HRL.out _).mono ?_; rintro e w5 ⟨rfl, hb5⟩
    have HR5 := Lib.hid (HR4.out.ext hb5)
    have E5 := Lib.hid (bt E4.out hb5)
    have HVL := Lib.hid (cleanV_len (rawT b k))
    clear hb5 HR4 E4
    go_wp2_with (first | refine wpList_store_arr rfl _ _ _ rfl _ _ rfl rfl _ _ HR5.out (Tryz.inoFits HVL.out) (by rw [icells_size, icells_size, HVL.out]; rfl) (oneCell_icells _) ?_)
    apply Stop.go; intro wc Hoc Hbc
    go_wp2_with ((with_reducible show bodyPost _ _ _ _ _ _); refine bodyPost_struct_tmp rfl _ rfl _ _ Hbc.out _ Tryz.underlying59 rfl (Tryz.inoFits HVL.out) rfl _ rfl ?_)
    apply Stop.go
    rw [H0.out.1, H0.out.2]
    exact ⟨⟨rfl, rfl⟩, bonly E5.out Hoc.out (by have := z2.out; omega)⟩


end Go.Proofs.YtkakihbfhmiabaaGreat
