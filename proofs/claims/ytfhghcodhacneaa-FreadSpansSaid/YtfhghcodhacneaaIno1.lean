/-
  Contracts of inode's isShort, areShort, numberAt, Numbers, mayBe, Check and Blocks; '==' of two inodes.
-/
import Derived.Test.YtfhghcodhacneaaRows
import Derived.Test.YtfhghcodhacneaaArrI
import Derived.Test.YtfhghcodhacneaaEqA
import Derived.Test.YtfhghcodhacneaaPatO
import Derived.Test.YtfhghcodhacneaaGrC
import Derived.Test.YtfhghcodhacneaaArr
namespace Go.Proofs.Ytfhghcodhacneaa
open Go.RowKit
set_option maxRecDepth 10000

theorem Try.inoSize : (Try.prog.info? 42).map (·.size) = some 11 := by kernel_rfl
theorem Try.inoZero : (Try.prog.info? 42).map (·.zero) = some (some (.agg (icells freeI))) := by kernel_rfl
theorem Try.numSize : (Try.prog.info? 3).map (·.size) = some 1 := by kernel_rfl
theorem Try.inoFits {l : List Int} (h : l.length = 11) : (Try.prog.info? 42).map (·.size) = some (icells l).size := by rw [icells_size, h]; exact Try.inoSize
theorem Try.sevenSize : (Try.prog.info? 96).map (·.size) = some 7 := by kernel_rfl
theorem Try.sevenZero : (Try.prog.info? 96).map (·.zero) = some (some (.agg (icells [0, 0, 0, 0, 0, 0, 0]))) := by kernel_rfl
theorem Try.sevenFits {l : List Int} (h : l.length = 7) : (Try.prog.info? 96).map (·.size) = some (icells l).size := by rw [icells_size, h]; exact Try.sevenSize
theorem Try.b32Size : (Try.prog.info? 80).map (·.size) = some 32 := by kernel_rfl
theorem Try.b32Zero : (Try.prog.info? 80).map (·.zero) = some (some (.agg (bcells (zeros 32)))) := by kernel_rfl
theorem Try.b32Fits {l : List UInt8} (h : l.length = 32) : (Try.prog.info? 80).map (·.size) = some (bcells l).size := by rw [bcells_size, h]; exact Try.b32Size
theorem freeI_len : freeI.length = 11 := rfl

set_option maxHeartbeats 1600000 in
theorem run_eql_ino (l m : List Int) (hl : l.length = 11) (hm : m.length = 11) (w : World) : (binOp .eql 42 (.agg (icells l)) (.agg (icells m))).run Try.prog w = .ok (.bool (l == m)) w := by
  obtain ⟨a0, a1, a2, a3, a4, a5, a6, a7, a8, a9, a10, rfl⟩ := list_eleven hl
  obtain ⟨b0, b1, b2, b3, b4, b5, b6, b7, b8, b9, b10, rfl⟩ := list_eleven hm
  have hA := fun d (w : World) => run_equalIn_ints (P := Try.prog) w d 40 3 6 Try.underlying40 Try.underlying3 (sizeOf_of Try.numSize) [a4, a5, a6, a7, a8, a9] [b4, b5, b6, b7, b8, b9] rfl rfl
  unfold icells at hA ⊢
  simp only [List.map_cons, List.map_nil] at hA ⊢
  go_simp
  by_cases h0 : a0 = b0
  case neg => simp [h0]
  by_cases h1 : a1 = b1
  case neg => simp [h1]
  by_cases h2 : a2 = b2
  case neg => simp [h2]
  by_cases h3 : a3 = b3
  case neg => simp [h3]
  by_cases h4 : a4 = b4
  case neg => simp [h4]
  by_cases h5 : a5 = b5
  case neg => simp [h5]
  by_cases h6 : a6 = b6
  case neg => simp [h6]
  by_cases h7 : a7 = b7
  case neg => simp [h7]
  by_cases h8 : a8 = b8
  case neg => simp [h8]
  by_cases h9 : a9 = b9
  case neg => simp [h9]
  by_cases h10 : a10 = b10
  case neg => simp [h0, h1, h2, h3, h10]
  simp [h0, h1, h2, h3, h4, h5, h6, h7, h8, h9, h10]
theorem run_neq_ino (l m : List Int) (hl : l.length = 11) (hm : m.length = 11) (w : World) : (binOp .neq 42 (.agg (icells l)) (.agg (icells m))).run Try.prog w = .ok (.bool (!(l == m))) w := by
  have h := run_eql_ino l m hl hm w
  rw [run_eql_struct] at h
  rw [run_neq_struct]
  revert h
  generalize (Op.equalIn 10000 42 (.agg (icells l)) (.agg (icells m))).run Try.prog w = r
  intro h
  cases r with
  | ok b w' =>
    simp only [Result.andThen_ok, Result.ok.injEq, Value.bool.injEq] at h ⊢
    exact ⟨by rw [h.1], h.2⟩
  | halt x w' => simp [Result.andThen] at h

set_option maxHeartbeats 400000 in
theorem isShort_any (n : Int) (w : World) : Calls Try.prog 62 #[.int .i64 n] w fun e w' => e = .returned (.bool (shortB n)) ∧ w = w' := by
  by_cases h : 0 ≤ n
  · go_enter Try.func62, Try.ntmps62
    go_wp2
    go_ret
    simp [h, shortB]
  · go_enter Try.func62, Try.ntmps62
    go_wp2
    go_ret
    simp [shortB]
    omega

theorem numberAt_any (k : Nat) (hk : k ≤ 6) (w : World) : Calls Try.prog 54 #[.int .i64 k] w fun e w' => e = .returned (.int .i64 ((10 + 2 * k : Nat) : Int)) ∧ w = w' := by
  go_enter Try.func54, Try.ntmps54
  go_wp2
  go_ret
  simp
  omega


set_option maxHeartbeats 800000 in
theorem areShort_any (L : List Int) (hL : L.length = 7) (w : World) :
    Calls Try.prog 63 #[.agg (icells L)] w fun e w' => e = .returned (.bool (L.all shortB)) ∧ Below w.heap.size w w' := by
  have HL := Lib.hid hL
  go_enter Try.func63, Try.ntmps63
  go_wp2_with (refine wpList_box_row rfl _ _ rfl _ rfl ?_)
  apply Stop.go; intro w1 Hg1 Hb1
  go_wp2_with (refine wpList_load_blk rfl _ _ rfl _ rfl _ _ Hb1.out _ Try.underlying96 rfl (Try.sevenFits HL.out) ?_)
  go_loopw [6] (fun i wr => ∃ k : Nat, k ≤ 7 ∧ i = .int .i64 k ∧ wr = w1 ∧ Hid ((L.take k).all shortB = true)) (fun i _ => 7 - (intOf i).toNat)
  case atStart => exact ⟨0, Nat.zero_le _, rfl, rfl, Lib.hid rfl⟩
  case round =>
    obtain ⟨k, hk, rfl, rfl, HA⟩ := hrel
    by_cases hlt : k < 7
    · have e1 := take_succ_getI L k _ (fld_get L k (by rw [hL]; exact hlt))
      go_wp2_with (refine wpList_index_ints rfl _ _ _ rfl _ _ Try.underlying96 Try.underlying3 Try.numSize L rfl _ _ rfl k rfl hlt (by rw [HL.out]; exact hlt) ?_)
      refine (isShort_any _ _).mono ?_; rintro e w' ⟨rfl, rfl⟩
      obtain ⟨b, Hb⟩ : ∃ b, Hid (shortB (fld L k) = b) := ⟨_, Lib.hid rfl⟩
      rw [Hb.out]
      cases b
      · have HF := Lib.hid (show L.all shortB = false by
          rw [List.all_eq_false]
          exact ⟨fld L k, List.mem_of_getElem? (fld_get L k (by rw [hL]; exact hlt)), by rw [Hb.out]; simp⟩)
        clear e1
        go_wp2_with fail
        go_ret
        rw [HF.out]
        exact ⟨rfl, Hg1.out.1⟩
      · have HF := Lib.hid (show (L.take (k + 1)).all shortB = true by rw [e1, List.all_append, HA.out]; simp [Hb.out])
        clear e1
        go_wp2_with fail
        go_roundw
        case rel => exact ⟨k + 1, by omega, by go_num, by first | rfl | trivial, HF⟩
        case measure => simp [intOf]; omega
    · obtain rfl : k = 7 := by omega
      have HF := Lib.hid (show L.all shortB = true by rw [← HA.out, List.take_of_length_le (by omega)])
      go_wp2_with fail
      go_ret
      rw [HF.out]
      exact ⟨rfl, Hg1.out.1⟩

set_option maxHeartbeats 1600000 in
theorem numbers_any (l : List Int) (hl : l.length = 11) (w : World) :
    Calls Try.prog 56 #[.agg (icells l)] w fun e w' => e = .returned (.agg (icells (nums l))) ∧ Below w.heap.size w w' := by
  have HL := Lib.hid hl
  have HN := Lib.hid (nums_len hl)
  go_enter Try.func56, Try.ntmps56
  go_wp2_with (refine wpList_box_row rfl _ _ rfl _ rfl ?_)
  apply Stop.go; intro w1 Hg1 Hb1
  go_wp2_with (refine wpList_alloc_row rfl _ rfl _ Try.sevenZero ?_)
  apply Stop.go; intro w2 Hg2 Hb2
  go_wp2_with (refine wpList_alloc_row rfl _ rfl _ Try.sevenZero ?_)
  apply Stop.go; intro w3 Hg3 Hb3
  have z1 := Lib.hid Hg1.out.2
  have z2 := Lib.hid Hg2.out.2
  have z3 := Lib.hid Hg3.out.2
  have HX3 := Lib.hid ((Hb1.out.ext Hg2.out.1).ext Hg3.out.1)
  have HR3 := Lib.hid (Hb2.out.ext Hg3.out.1)
  have E3 := Lib.hid (bt (bt Hg1.out.1 Hg2.out.1) Hg3.out.1)
  have HO := Lib.hid (show w.heap.size < w1.heap.size ∧ w1.heap.size < w2.heap.size by rw [z1.out, z2.out, z1.out]; omega)
  generalize w1.heap.size = g2 at *
  generalize w2.heap.size = g3 at *
  clear Hg1 Hg2 Hg3 Hb1 Hb2 z1 z2 z3
  go_wp2_with fail
  refine WH.start (S := fun w' : World => Blk w' w.heap.size 42 (icells l)) [false, false, false, false] 4 rfl rfl (by kernel_rfl) (HX3.out.ext (bdrew w3 1)) (fun hSn => ?_); obtain ⟨wS, hwS⟩ : ∃ x, (w3).drew = x := ⟨_, rfl⟩; have HE := Lib.hid (show Below (w3).heap.size (w3) wS from hwS ▸ bdrew w3 1); rw [hwS] at hSn ⊢; clear hwS
  refine WH.tv 0 rfl (fun w' hSw => exec_slice_whole _ _ rfl 7 _ Try.underlying96 Try.numSize g3 0 rfl) ?_; simp only [setL]
  refine WH.tk 1 ?_; simp only [setL]
  refine WH.tv 2 rfl (fun w' hSw => exec_slice_whole _ _ rfl 6 _ Try.underlying40 Try.numSize w.heap.size 4 rfl) ?_; simp only [setL]
  refine WH.only 3 _ rfl (by kernel_rfl) rfl (fun K hK => ?_)
  have hl6 : ((l.drop 4).take 6).length = 6 := by rw [List.length_take, List.length_drop, hl]; rfl
  refine ow_copy_ints _ _ _ _ rfl _ Try.underlying99 Try.numSize g3 7 7 _ _ rfl (Hb3.out.ext HE.out) (Nat.le_refl _) ⟨w.heap.size, 4, none⟩ 6 6 ((l.drop 4).take 6) rfl hl6 (by omega) (by omega) (RC.of_blk_at hSn 4 6) ?_
  apply Stop.go; intro w4 Ho4 Hb4
  have hSn := hSn.only Ho4.out (by have := HO.out; omega); refine hK _ _ hSn ?_; clear hK; clear K; simp only [setL]
  refine WH.done (by kernel_rfl) ?_
  have c10 := hSn.fld 10 (by rw [hl]; omega)
  have HC4 := Lib.hid (show Blk w4 g3 96 (icells ((l.drop 4).take 6 ++ [0])) from Hb4.out)
  have HR4 := Lib.hid ((HR3.out.ext HE.out).only Ho4.out (by have := HO.out; omega))
  have E4 := Lib.hid (bonly (bt E3.out HE.out) Ho4.out (by have := HO.out; omega))
  have he : ((l.drop 4).take 6 ++ [0]).set 6 (fld l 10) = nums l := by
    obtain ⟨a0, a1, a2, a3, a4, a5, a6, a7, a8, a9, a10, rfl⟩ := list_eleven hl
    rfl
  have HI := Lib.hid he
  have hs7 : Hid (6 < (icells ((l.drop 4).take 6 ++ [0])).size) := Lib.hid (by rw [icells_size, List.length_append, hl6]; decide)
  clear Hb4 Ho4 hSn HE HX3 HR3 Hb3 E3 he hl hl6
  generalize (l.drop 4).take 6 ++ [0] = l7 at *
  go_wp2_with (first | refine wpList_store_cell rfl _ _ _ rfl Try.numSize g3 6 rfl (.int .i64 (fld l 10)) rfl rfl rfl _ _ HC4.out hs7.out ?_)
  apply Stop.go; intro w5 Ho5 Hb5
  have hb5 := Hb5.out
  rw [icells_set, HI.out] at hb5
  have HC5 := Lib.hid hb5
  have HR5 := Lib.hid (HR4.out.only Ho5.out (by have := HO.out; omega))
  have E5 := Lib.hid (bonly E4.out Ho5.out (by have := HO.out; omega))
  clear Hb5 hb5 Ho5 E4 HR4 HC4 c10
  go_wp2_with (first | refine wpList_load_blk rfl _ _ rfl _ rfl _ _ HC5.out _ Try.underlying96 rfl (Try.sevenFits HN.out) ?_ | refine wpList_store_arr rfl _ _ _ rfl _ _ rfl rfl _ _ HR5.out (Try.sevenFits HN.out) (by rw [icells_size, icells_size, HN.out]; rfl) (oneCell_icells _) ?_)
  apply Stop.go; intro w6 Ho6 Hb6
  go_wp2_with ((with_reducible show bodyPost _ _ _ _ _ _); refine bodyPost_cell rfl _ rfl _ _ Hb6.out _ _ Try.underlying96 (Try.sevenFits HN.out) rfl ?_)
  apply Stop.go
  exact bonly E5.out Ho6.out (by have := HO.out; omega)

theorem mayI_free {l : List Int} (h : fld l 0 = 0) : mayI l = (l == freeI) := by
  unfold mayI
  rw [if_pos h]
  exact Bool.eq_iff_iff.2 (by simp)
theorem mayI_used {l : List Int} (h : fld l 0 = 1 ∨ fld l 0 = 2) : mayI l = (shortB (fld l 1) && (shortB (fld l 3) && (sizeB (fld l 2) && (nums l).all shortB))) := by
  unfold mayI
  rw [if_neg (by omega), decide_eq_true h, Bool.true_and]
theorem mayI_other {l : List Int} (h0 : fld l 0 ≠ 0) (h1 : fld l 0 ≠ 1) (h2 : fld l 0 ≠ 2) : mayI l = false := by
  unfold mayI
  rw [if_neg h0, decide_eq_false (by omega), Bool.false_and]
set_option maxHeartbeats 1600000 in
theorem maybeI_any (l : List Int) (hl : l.length = 11) (w : World) :
    Calls Try.prog 60 #[.agg (icells l)] w fun e w' => e = .returned (.bool (mayI l)) ∧ Below w.heap.size w w' := by
  have HL := Lib.hid hl
  have HN := Lib.hid (nums_len hl)
  obtain ⟨k, hk⟩ : ∃ k, fld l 0 = k := ⟨_, rfl⟩
  obtain ⟨r, hr⟩ : ∃ r, mayI l = r := ⟨_, rfl⟩
  rw [hr]
  have HR := Lib.hid hr
  have HK := Lib.hid hk
  clear hr
  go_enter Try.func60, Try.ntmps60
  go_wp2_with (refine wpList_box_row rfl _ _ rfl _ rfl ?_)
  apply Stop.go; intro w1 Hg1 Hb1
  have c0 := Hb1.out.fld 0 (by rw [hl]; omega)
  have c1 := Hb1.out.fld 1 (by rw [hl]; omega)
  have c2 := Hb1.out.fld 2 (by rw [hl]; omega)
  have c3 := Hb1.out.fld 3 (by rw [hl]; omega)
  rw [hk] at c0
  clear hk
  by_cases h0 : k = 0
  · subst h0
    have HF := Lib.hid (show (l == freeI) = r by rw [← HR.out, mayI_free HK.out])
    go_wp2_with (first | refine wpList_load_blk rfl _ _ rfl _ rfl _ _ Hb1.out _ Try.underlying42 rfl (Try.inoFits HL.out) ?_ | (refine wpList_eql_agg rfl _ _ _ _ _ rfl (by kernel_rfl) (icells l) (icells freeI) rfl rfl _ (run_eql_ino l freeI HL.out freeI_len _) ?_))
    go_ret
    rw [HF.out]
    exact ⟨rfl, Hg1.out.1⟩
  by_cases h12 : k = 1 ∨ k = 2
  · obtain ⟨b1, B1⟩ : ∃ b, Hid (shortB (fld l 1) = b) := ⟨_, Lib.hid rfl⟩
    obtain ⟨b3, B3⟩ : ∃ b, Hid (shortB (fld l 3) = b) := ⟨_, Lib.hid rfl⟩
    obtain ⟨b4, B4⟩ : ∃ b, Hid ((nums l).all shortB = b) := ⟨_, Lib.hid rfl⟩
    have d0 : decide (k = 0) = false := decide_eq_false h0
    have HF := Lib.hid (show r = (b1 && (b3 && (decide (0 ≤ fld l 2) && (decide (fld l 2 ≤ 34304) && b4)))) by
      rw [← HR.out, mayI_used (by rw [HK.out]; exact h12), B1.out, B3.out, B4.out]
      unfold sizeB
      rw [Bool.decide_and, Bool.and_assoc])
    obtain ⟨z, HZ⟩ : ∃ z, Hid (fld l 2 = z) := ⟨_, Lib.hid rfl⟩
    rw [HZ.out] at c2 HF
    obtain ⟨q1, e1⟩ : ∃ q, decide (0 ≤ z) = q := ⟨_, rfl⟩
    obtain ⟨q2, e2⟩ : ∃ q, decide (z ≤ 34304) = q := ⟨_, rfl⟩
    rw [e1, e2] at HF
    rcases h12 with rfl | rfl
    all_goals
      go_wp2_with fail
      refine (isShort_any _ _).mono ?_; rintro e w' ⟨rfl, rfl⟩
      rw [B1.out]
      cases b1
      · go_wp2_with fail
        go_ret
        exact ⟨by rw [HF.out]; rfl, Hg1.out.1⟩
      go_wp2_with fail
      refine (isShort_any _ _).mono ?_; rintro e w' ⟨rfl, rfl⟩
      rw [B3.out]
      cases b3
      · go_wp2_with fail
        go_ret
        exact ⟨by rw [HF.out]; rfl, Hg1.out.1⟩
      cases q1
      · go_wp2_with fail
        go_ret
        exact ⟨by rw [HF.out]; rfl, Hg1.out.1⟩
      cases q2
      · go_wp2_with fail
        go_ret
        exact ⟨by rw [HF.out]; rfl, Hg1.out.1⟩
      go_wp2_with (refine wpList_load_blk rfl _ _ rfl _ rfl _ _ Hb1.out _ Try.underlying42 rfl (Try.inoFits HL.out) ?_)
      refine (numbers_any l HL.out _).mono ?_; rintro e w2 ⟨rfl, hb2⟩
      go_wp2_with fail
      refine (areShort_any (nums l) HN.out _).mono ?_; rintro e w3 ⟨rfl, hb3⟩
      rw [B4.out]
      go_wp2_with fail
      go_ret
      exact ⟨by rw [HF.out]; rfl, bt (bt Hg1.out.1 hb2) hb3⟩
  · have HF := Lib.hid (show r = false by rw [← HR.out, mayI_other (by rw [HK.out]; exact h0) (by rw [HK.out]; omega) (by rw [HK.out]; omega)])
    go_wp2_with fail
    go_ret
    rw [HF.out]
    exact ⟨rfl, Hg1.out.1⟩

set_option maxHeartbeats 800000 in
theorem checkI_any (l : List Int) (hl : l.length = 11) (w : World) :
    Calls Try.prog 55 #[.agg (icells l)] w fun e w' => e = .returned (.int .i64 (okArg (mayI l))) ∧ Below w.heap.size w w' := by
  have HL := Lib.hid hl
  go_enter Try.func55, Try.ntmps55
  go_wp2_with (refine wpList_box_row rfl _ _ rfl _ rfl ?_)
  apply Stop.go; intro w1 Hg1 Hb1
  go_wp2_with (refine wpList_load_blk rfl _ _ rfl _ rfl _ _ Hb1.out _ Try.underlying42 rfl (Try.inoFits HL.out) ?_)
  refine (maybeI_any l hl _).mono ?_; rintro e w2 ⟨rfl, hb2⟩
  have Hbel := Lib.hid (bt Hg1.out.1 hb2)
  obtain ⟨b, Hm⟩ : ∃ b, Hid (mayI l = b) := ⟨_, Lib.hid rfl⟩
  rw [Hm.out]
  clear hb2
  cases b
  all_goals
    go_wp2_with fail
    go_ret
    rw [Hm.out]
    exact ⟨rfl, Hbel.out⟩

end Go.Proofs.Ytfhghcodhacneaa
