/-
  Contracts of index's depth, many, isPlace, isDepth, isNumber, numberAt, Place, short, mayBe; '==' of two indexes.
-/
import Derived.Test.YtcdbligdcikphaaGreatRows
import Derived.Test.YtcdbligdcikphaaGreatIdxO
import Derived.Test.YtcdbligdcikphaaGreatGrA
import Derived.Test.YtcdbligdcikphaaGreatMix
import Derived.BigQuiet
namespace Go.Proofs.YtcdbligdcikphaaGreat
open Go.RowKit

theorem Tryz.int1Size : (Tryz.prog.info? 3).map (·.size) = some 1 := by kernel_rfl
theorem Tryz.ixSize : (Tryz.prog.info? 43).map (·.size) = some 33 := by kernel_rfl
theorem Tryz.ixZero : (Tryz.prog.info? 43).map (·.zero) = some (some (.agg (icells (0 :: zeroT)))) := by kernel_rfl
theorem Tryz.ixFits {d : Int} {t : List Int} (h : t.length = 32) : (Tryz.prog.info? 43).map (·.size) = some (icells (d :: t)).size := by rw [icells_size, List.length_cons, h]; exact Tryz.ixSize
theorem Tryz.toSize : (Tryz.prog.info? 41).map (·.size) = some 32 := by kernel_rfl
theorem Tryz.toFits {t : List Int} (h : t.length = 32) : (Tryz.prog.info? 41).map (·.size) = some (icells t).size := by rw [icells_size, h]; exact Tryz.toSize
theorem Tryz.ixBuilt0 : Tryz.prog.built 43 [] = some (icells (0 :: zeroT)) := by kernel_rfl
theorem Tryz.ixBuilt1 (d : Int) : Tryz.prog.built 43 [(0, .int .i64 d)] = some (icells (d :: zeroT)) := by kernel_rfl
theorem extract_to (d : Int) {t : List Int} (h : t.length = 32) : (icells (d :: t)).extract 1 33 = icells t := by
  apply Array.ext_getElem?
  intro i
  rw [Array.getElem?_extract, icells_size, List.length_cons, h, icells_get, icells_get]
  by_cases hi : i < 32
  · rw [if_pos (by omega), show 1 + i = i + 1 from Nat.add_comm 1 i, List.getElem?_cons_succ]
  · rw [if_neg (by omega), List.getElem?_eq_none (by omega)]
    rfl
theorem icells_zero (d : Int) (t : List Int) : (icells (d :: t))[0]? = some (.int .i64 d) := by
  rw [icells_get]
  rfl
set_option maxHeartbeats 1600000 in
theorem run_eql_ix (d e : Int) (t u : List Int) (ht : t.length = 32) (hu : u.length = 32) (w : World) : (binOp .eql 43 (.agg (icells (d :: t))) (.agg (icells (e :: u)))).run Tryz.prog w = .ok (.bool (d == e && t == u)) w := by
  have hA := fun d (w : World) => run_equalIn_ints (P := Tryz.prog) w d 41 3 32 Tryz.underlying41 Tryz.underlying3 (sizeOf_of Tryz.int1Size) t u ht hu
  have hE := run_equalIn_int (P := Tryz.prog) w 9998 3 .i64 .i64 d e Tryz.underlying3
  have x1 := extract_to d ht
  have x2 := extract_to e hu
  have z1 := icells_zero d t
  have z2 := icells_zero e u
  have s1 : (icells (d :: t)).size = 33 := by rw [icells_size, List.length_cons, ht]
  have s2 : (icells (e :: u)).size = 33 := by rw [icells_size, List.length_cons, hu]
  generalize icells (d :: t) = X at *
  generalize icells (e :: u) = Y at *
  go_simp
  rw [(Array.getElem?_eq_some_iff.1 z1).2, (Array.getElem?_eq_some_iff.1 z2).2, hE]
  by_cases h1 : d = e <;> by_cases h2 : t = u <;> simp [h1, h2]
theorem run_neq_ix (d e : Int) (t u : List Int) (ht : t.length = 32) (hu : u.length = 32) (w : World) : (binOp .neq 43 (.agg (icells (d :: t))) (.agg (icells (e :: u)))).run Tryz.prog w = .ok (.bool (!(d == e && t == u))) w := by
  have h := run_eql_ix d e t u ht hu w
  rw [run_eql_struct] at h
  rw [run_neq_struct]
  revert h
  generalize (Op.equalIn 10000 43 (.agg (icells (d :: t))) (.agg (icells (e :: u)))).run Tryz.prog w = r
  intro h
  cases r with
  | ok b w' =>
    simp only [Result.andThen_ok, Result.ok.injEq, Value.bool.injEq] at h ⊢
    exact ⟨by rw [h.1], h.2⟩
  | halt x w' => simp [Result.andThen] at h
set_option maxHeartbeats 1600000 in
theorem run_eql_rx (d e : Int) (t u : List Int) (ht : t.length = 32) (hu : u.length = 32) (w : World) : (binOp .eql 46 (.agg (icells (d :: t))) (.agg (icells (e :: u)))).run Tryz.prog w = .ok (.bool (d == e && t == u)) w := by
  have hA := fun d (w : World) => run_equalIn_ints (P := Tryz.prog) w d 41 3 32 Tryz.underlying41 Tryz.underlying3 (sizeOf_of Tryz.int1Size) t u ht hu
  have hE := run_equalIn_int (P := Tryz.prog) w 9998 3 .i64 .i64 d e Tryz.underlying3
  have x1 := extract_to d ht
  have x2 := extract_to e hu
  have z1 := icells_zero d t
  have z2 := icells_zero e u
  have s1 : (icells (d :: t)).size = 33 := by rw [icells_size, List.length_cons, ht]
  have s2 : (icells (e :: u)).size = 33 := by rw [icells_size, List.length_cons, hu]
  generalize icells (d :: t) = X at *
  generalize icells (e :: u) = Y at *
  go_simp
  rw [(Array.getElem?_eq_some_iff.1 z1).2, (Array.getElem?_eq_some_iff.1 z2).2, hE]
  by_cases h1 : d = e <;> by_cases h2 : t = u <;> simp [h1, h2]
theorem run_neq_rx (d e : Int) (t u : List Int) (ht : t.length = 32) (hu : u.length = 32) (w : World) : (binOp .neq 46 (.agg (icells (d :: t))) (.agg (icells (e :: u)))).run Tryz.prog w = .ok (.bool (!(d == e && t == u))) w := by
  have h := run_eql_rx d e t u ht hu w
  rw [run_eql_struct] at h
  rw [run_neq_struct]
  revert h
  generalize (Op.equalIn 10000 46 (.agg (icells (d :: t))) (.agg (icells (e :: u)))).run Tryz.prog w = r
  intro h
  cases r with
  | ok b w' =>
    simp only [Result.andThen_ok, Result.ok.injEq, Value.bool.injEq] at h ⊢
    exact ⟨by rw [h.1], h.2⟩
  | halt x w' => simp [Result.andThen] at h

set_option maxHeartbeats 400000 in
theorem isDepth_any (d : Int) (w : World) : Calls Tryz.prog 103 #[.int .i64 d] w fun e w' => e = .returned (.bool (inD d)) ∧ w = w' := by
  by_cases h : 0 ≤ d
  · go_enter Tryz.func103, Tryz.ntmps103
    go_wp2
    go_ret
    simp [h, inD]
  · go_enter Tryz.func103, Tryz.ntmps103
    go_wp2
    go_ret
    simp [inD]
    omega

set_option maxHeartbeats 400000 in
theorem isNumber_any (n : Int) (w : World) : Calls Tryz.prog 102 #[.int .i64 n] w fun e w' => e = .returned (.bool (shortB n)) ∧ w = w' := by
  by_cases h : 0 ≤ n
  · go_enter Tryz.func102, Tryz.ntmps102
    go_wp2
    go_ret
    simp [h, shortB]
  · go_enter Tryz.func102, Tryz.ntmps102
    go_wp2
    go_ret
    simp [shortB]
    omega

theorem xnumberAt_any (k : Nat) (hk : k ≤ 32) (w : World) : Calls Tryz.prog 65 #[.int .i64 k] w fun e w' => e = .returned (.int .i64 ((32 + 2 * k : Nat) : Int)) ∧ w = w' := by
  go_enter Tryz.func65, Tryz.ntmps65
  go_wp2
  go_ret
  simp
  omega

set_option maxHeartbeats 400000 in
theorem depth_any (d : Int) (t : List Int) (w : World) :
    Calls Tryz.prog 104 #[.agg (icells (d :: t))] w fun e w' => e = .returned (.int .i64 (dpN d : Nat)) ∧ Below w.heap.size w w' := by
  go_enter Tryz.func104, Tryz.ntmps104
  go_wp2_with (refine wpList_box_row rfl _ _ rfl _ rfl ?_)
  apply Stop.go; intro w1 Hg1 Hb1
  have c0 := dep_cell Hb1.out
  go_wp2
  all_goals
    go_ret
    refine ⟨congrArg (fun x => Ending.returned (.int .i64 x)) ?_, Hg1.out.1⟩
    unfold dpN
    omega

set_option maxHeartbeats 400000 in
theorem xmany_any (d : Int) (t : List Int) (ht : t.length = 32) (w : World) :
    Calls Tryz.prog 94 #[.agg (icells (d :: t))] w fun e w' => e = .returned (.int .i64 ((2 ^ dpN d : Nat) : Int)) ∧ Below w.heap.size w w' := by
  have HL := Lib.hid ht
  go_enter Tryz.func94, Tryz.ntmps94
  go_wp2_with (refine wpList_box_row rfl _ _ rfl _ rfl ?_)
  apply Stop.go; intro w1 Hg1 Hb1
  go_wp2_with (refine wpList_load_blk rfl _ _ rfl _ rfl _ _ Hb1.out _ Tryz.underlying43 rfl (Tryz.ixFits HL.out) ?_)
  refine (depth_any d t _).mono ?_; rintro e w2 ⟨rfl, hb2⟩
  have E2 := Lib.hid (bt Hg1.out.1 hb2)
  have h5 := dpN_le d
  obtain ⟨D, HD⟩ : ∃ D, Hid (dpN d = D) := ⟨_, Lib.hid rfl⟩
  rw [HD.out] at h5 ⊢
  clear hb2
  go_wp2_with fail
  go_ret
  refine ⟨congrArg (fun x => Ending.returned (.int .i64 x)) ?_, E2.out⟩
  have h32 := pow32 h5
  have e1 : ((2 : Int) ^ D) = ((2 ^ D : Nat) : Int) := by push_cast; rfl
  rw [HD.out, e1]
  generalize 2 ^ D = M at *
  unfold wrap64
  omega



set_option maxHeartbeats 800000 in
theorem short_any (d : Int) (t : List Int) (ht : t.length = 32) (w : World) :
    Calls Tryz.prog 67 #[.agg (icells (d :: t))] w fun e w' => e = .returned (.agg (icells (d :: shortT (dpN d) t))) ∧ Below w.heap.size w w' := by
  have HL := Lib.hid ht
  have HzL := Lib.hid zeroT_len
  have h5 := dpN_le d
  obtain ⟨D, HD⟩ : ∃ D, Hid (dpN d = D) := ⟨_, Lib.hid rfl⟩
  rw [HD.out] at h5 ⊢
  have h32 := pow32 h5
  have HSL : Hid ((shortT D t).length = 32) := Lib.hid (mapT_len _)
  obtain ⟨S, HSd⟩ : ∃ S, Hid (shortT D t = S) := ⟨_, Lib.hid rfl⟩
  have HS := Lib.hid (short_cells d ht h5 _ rfl)
  rw [HSd.out] at HSL HS ⊢
  clear h5
  obtain ⟨M, hM⟩ : ∃ M : Nat, 2 ^ D = M := ⟨_, rfl⟩
  rw [hM] at h32 HS
  have HM := Lib.hid hM
  clear hM
  by_cases hc : M = 32
  · subst hc
    have HT : Hid (t = S) := Lib.hid (by
      have h : d :: t = d :: S := HS.out
      injection h)
    have HU := HL
    rw [HT.out] at HU ⊢
    clear HT HS HL
    go_enter Tryz.func67, Tryz.ntmps67
    go_wp2_with (refine wpList_box_row rfl _ _ rfl _ rfl ?_)
    apply Stop.go; intro w1 Hg1 Hb1
    go_wp2_with (refine wpList_alloc_row rfl _ rfl _ Tryz.ixZero ?_)
    apply Stop.go; intro w2 Hg2 Hb2
    have HB2 := Lib.hid (Hb1.out.ext Hg2.out.1)
    have z1 := Hg1.out.2
    have Hz := Lib.hid (show w.heap.size ≤ w1.heap.size ∧ w.heap.size ≠ w1.heap.size by omega)
    have E2 := Lib.hid (bt Hg1.out.1 Hg2.out.1)
    clear z1
    generalize w1.heap.size = g2 at *
    go_wp2_with (refine wpList_load_blk rfl _ _ rfl _ rfl _ _ HB2.out _ Tryz.underlying43 rfl (Tryz.ixFits HU.out) ?_)
    refine (xmany_any d S HU.out _).mono ?_; rintro e w3 ⟨rfl, hb3⟩
    rw [HD.out, HM.out]
    have HB3 := Lib.hid (HB2.out.ext hb3)
    have HR3 := Lib.hid (Hb2.out.ext hb3)
    have E3 := Lib.hid (bt E2.out hb3)
    clear hb3
    go_wp2_with (refine wpList_clear_ints rfl _ _ _ rfl Tryz.underlying50 Tryz.intInfo w.heap.size 1 0 0 rfl _ _ HB3.out (Or.inl rfl) _ rfl ?_)
    apply Stop.go; intro w4 Ho4 Hb4
    have HB4 : Hid (Blk w4 w.heap.size 43 (icells (d :: S))) := Hb4
    have HR4 := Lib.hid (HR3.out.only Ho4.out (Ne.symm Hz.out.2))
    have E4 := Lib.hid (bonly E3.out Ho4.out (Nat.le_refl _))
    clear Hb4 Ho4 HR3 HB3 E3
    go_wp2_with (first | refine wpList_load_blk rfl _ _ rfl _ rfl _ _ HB4.out _ Tryz.underlying43 rfl (Tryz.ixFits HU.out) ?_ | refine wpList_store_arr rfl _ _ _ rfl _ _ rfl rfl _ _ HR4.out (Tryz.ixFits HU.out) (icells_same HzL.out HU.out) (oneCell_icells _) ?_)
    apply Stop.go; intro w5 Ho5 Hb5
    go_wp2_with ((with_reducible show bodyPost _ _ _ _ _ _); refine bodyPost_struct rfl _ rfl _ _ Hb5.out _ Tryz.underlying43 rfl (Tryz.ixFits HU.out) rfl ?_)
    apply Stop.go
    exact bonly E4.out Ho5.out Hz.out.1
  · obtain ⟨r, hr⟩ : ∃ r, 32 - M = r + 1 := ⟨31 - M, by omega⟩
    have HC : Hid ((if r + 1 = 0 then d :: t else (d :: t).take (1 + M) ++ List.replicate (r + 1) 0 ++ (d :: t).drop (1 + M + (r + 1))) = d :: S) := Lib.hid (by
      have h := HS.out
      rw [if_neg (show ¬ 32 = M by omega), hr] at h
      exact h)
    have hq : r + 1 = 0 ∨ 1 + M + (r + 1) ≤ (d :: t).length := by
      rw [List.length_cons, ht]
      omega
    have Hq := Lib.hid hq
    have HR := Lib.hid hr
    clear HS hq hc hr
    go_enter Tryz.func67, Tryz.ntmps67
    go_wp2_with (refine wpList_box_row rfl _ _ rfl _ rfl ?_)
    apply Stop.go; intro w1 Hg1 Hb1
    go_wp2_with (refine wpList_alloc_row rfl _ rfl _ Tryz.ixZero ?_)
    apply Stop.go; intro w2 Hg2 Hb2
    have HB2 := Lib.hid (Hb1.out.ext Hg2.out.1)
    have z1 := Hg1.out.2
    have Hz := Lib.hid (show w.heap.size ≤ w1.heap.size ∧ w.heap.size ≠ w1.heap.size by omega)
    have E2 := Lib.hid (bt Hg1.out.1 Hg2.out.1)
    clear z1
    generalize w1.heap.size = g2 at *
    go_wp2_with (refine wpList_load_blk rfl _ _ rfl _ rfl _ _ HB2.out _ Tryz.underlying43 rfl (Tryz.ixFits HL.out) ?_)
    refine (xmany_any d t ht _).mono ?_; rintro e w3 ⟨rfl, hb3⟩
    rw [HD.out, HM.out]
    have HB3 := Lib.hid (HB2.out.ext hb3)
    have HR3 := Lib.hid (Hb2.out.ext hb3)
    have E3 := Lib.hid (bt E2.out hb3)
    clear hb3
    go_wp2_with (first | refine wpList_cut_from_lt rfl _ _ _ rfl 32 _ Tryz.underlying41 Tryz.int1Size w.heap.size 1 rfl .i64 _ rfl M rfl r HR.out ?_ | (refine wpList_clear_ints rfl _ _ _ rfl Tryz.underlying50 Tryz.intInfo w.heap.size (1 + M) (r + 1) (r + 1) rfl _ _ HB3.out Hq.out _ HC.out ?_))
    apply Stop.go; intro w4 Ho4 Hb4
    have HB4 := Lib.hid Hb4.out
    have HR4 := Lib.hid (HR3.out.only Ho4.out (Ne.symm Hz.out.2))
    have E4 := Lib.hid (bonly E3.out Ho4.out (Nat.le_refl _))
    clear Hb4 Ho4 HR3 HB3 E3
    go_wp2_with (first | refine wpList_load_blk rfl _ _ rfl _ rfl _ _ HB4.out _ Tryz.underlying43 rfl (Tryz.ixFits HSL.out) ?_ | refine wpList_store_arr rfl _ _ _ rfl _ _ rfl rfl _ _ HR4.out (Tryz.ixFits HSL.out) (icells_same HzL.out HSL.out) (oneCell_icells _) ?_)
    apply Stop.go; intro w5 Ho5 Hb5
    go_wp2_with ((with_reducible show bodyPost _ _ _ _ _ _); refine bodyPost_struct rfl _ rfl _ _ Hb5.out _ Tryz.underlying43 rfl (Tryz.ixFits HSL.out) rfl ?_)
    apply Stop.go
    exact bonly E4.out Ho5.out Hz.out.1

theorem mayX_at {d : Int} {t : List Int} (ht : t.length = 32) : mayX d t = true ↔ (∀ i, i < 32 → shortB (fld t i) = true) ∧ inD d = true := by
  unfold mayX
  rw [Bool.and_eq_true, List.all_eq_true]
  refine and_congr ?_ Iff.rfl
  constructor
  · intro h i hi
    exact h _ (List.mem_of_getElem? (fld_get t i (by omega)))
  · intro h v hv
    obtain ⟨i, hi, rfl⟩ := List.getElem_of_mem hv
    have e := fld_get t i hi
    rw [List.getElem?_eq_getElem hi] at e
    injection e with e
    rw [e]
    exact h i (by omega)
set_option maxHeartbeats 800000 in
theorem xmay_any (d : Int) (t : List Int) (ht : t.length = 32) (w : World) :
    Calls Tryz.prog 93 #[.agg (icells (d :: t))] w fun e w' => e = .returned (.bool (mayX d t)) ∧ Below w.heap.size w w' := by
  have HL := Lib.hid ht
  go_enter Tryz.func93, Tryz.ntmps93
  go_wp2_with (refine wpList_box_row rfl _ _ rfl _ rfl ?_)
  apply Stop.go; intro w1 Hg1 Hb1
  go_wp2_with (refine wpList_load_ino rfl _ _ rfl _ 1 rfl _ _ _ Hb1.out (by rw [List.drop_succ_cons, List.drop_zero, List.take_length]) _ Tryz.underlying41 rfl (Tryz.toFits HL.out) ?_)
  go_loopw [7] (fun i wr => ∃ k : Nat, k ≤ 32 ∧ i = .int .i64 k ∧ wr = w1 ∧ Hid (∀ j, j < k → shortB (fld t j) = true)) (fun i _ => 32 - (intOf i).toNat)
  case atStart => exact ⟨0, Nat.zero_le _, rfl, rfl, Lib.hid fun j h => absurd h (Nat.not_lt_zero _)⟩
  case round =>
    obtain ⟨k, hk, rfl, rfl, HA⟩ := hrel
    by_cases hlt : k < 32
    · go_wp2_with (refine wpList_index_ints rfl _ _ _ rfl _ _ Tryz.underlying41 Tryz.underlying3 Tryz.int1Size t rfl _ _ rfl k rfl hlt (by rw [HL.out]; exact hlt) ?_)
      refine (isNumber_any _ _).mono ?_; rintro e w' ⟨rfl, rfl⟩
      obtain ⟨b, Hb⟩ : ∃ b, Hid (shortB (fld t k) = b) := ⟨_, Lib.hid rfl⟩
      rw [Hb.out]
      cases b
      · have HF := Lib.hid (show mayX d t = false by
          rw [Bool.eq_false_iff]
          intro h
          have := ((mayX_at HL.out).1 h).1 k hlt
          rw [Hb.out] at this
          cases this)
        go_wp2_with fail
        go_ret
        rw [HF.out]
        exact ⟨rfl, Hg1.out.1⟩
      · have HF := Lib.hid (show ∀ j, j < k + 1 → shortB (fld t j) = true from fun j hj => by
          by_cases e : j = k
          · rw [e]; exact Hb.out
          · exact HA.out j (by omega))
        go_wp2_with fail
        go_roundw
        case rel => exact ⟨k + 1, by omega, by go_num, by first | rfl | trivial, HF⟩
        case measure => simp [intOf]; omega
    · obtain rfl : k = 32 := by omega
      have HF := Lib.hid (show mayX d t = inD d by
        rw [Bool.eq_iff_iff, mayX_at HL.out]
        exact ⟨fun h => h.2, fun h => ⟨HA.out, h⟩⟩)
      have c0 := dep_cell Hb1.out
      go_wp2_with fail
      refine (isDepth_any d _).mono ?_; rintro e w' ⟨rfl, rfl⟩
      obtain ⟨b, Hb⟩ : ∃ b, Hid (inD d = b) := ⟨_, Lib.hid rfl⟩
      rw [Hb.out] at HF ⊢
      go_wp2_with fail
      go_ret
      rw [HF.out]
      exact ⟨rfl, Hg1.out.1⟩

end Go.Proofs.YtcdbligdcikphaaGreat
