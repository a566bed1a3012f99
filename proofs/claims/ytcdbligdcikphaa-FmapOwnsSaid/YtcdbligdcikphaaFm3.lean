/-
  Contracts of package fmap: Blocks, Beyond.
-/
import Derived.Test.YtcdbligdcikphaaFm2
import Derived.Test.YtcdbligdcikphaaRetI
import Derived.Test.YtcdbligdcikphaaIno1
namespace Go.Proofs.Ytcdbligdcikphaa
open Go.RowKit
set_option maxRecDepth 10000

set_option maxHeartbeats 3200000 in
theorem fblocks_any (l : Lay14) (f : Value) (T : Int → List UInt8) (hT : ∀ no, (T no).length = 256) (X : List Int) (hX : X.length = 11) (w : World) (hf : FV w l f T) :
    Calls Try.prog 8 #[.agg (vval l f), .agg (icells X)] w (RetL w (someF (allF l T X))) := by
  have HXL := Lib.hid hX
  have HF := Lib.hid hf
  have HA := Lib.hid (fun w h => fall_any l f T hT X hX w h)
  obtain ⟨al, HAL⟩ : ∃ al, Hid (allF l T X = al) := ⟨_, Lib.hid rfl⟩
  have HL := Lib.hid (show al.length = 134 by rw [← HAL.out]; exact allF_len)
  rw [HAL.out] at HA ⊢
  clear hX hT hf HAL
  go_enter Try.func8, Try.ntmps8
  go_wp2_with (refine wpList_box_row rfl _ _ rfl _ rfl ?_)
  apply Stop.go; intro w1 Hg1 Hb1
  go_wp2_with (refine wpList_box_row rfl _ _ rfl _ rfl ?_)
  apply Stop.go; intro w2 Hg2 Hb2
  have HV2 := Lib.hid (Hb1.out.ext Hg2.out.1)
  have E2 := Lib.hid (bt Hg1.out.1 Hg2.out.1)
  have HF2 := Lib.hid (HF.out.below E2.out)
  generalize w1.heap.size = g1 at *
  clear Hg1 Hb1 Hg2 HF
  go_wp2_with (first | refine wpList_load_blk rfl _ _ rfl _ rfl _ _ HV2.out _ Try.underlying32 rfl Try.viewSize ?_ | refine wpList_load_blk rfl _ _ rfl _ rfl _ _ Hb2.out _ Try.underlying25 rfl (Try.inoFits HXL.out) ?_)
  refine (HA.out _ HF2.out).mono ?_; rintro e w3 ⟨rfl, hb3⟩
  have E3 := Lib.hid (bt E2.out hb3)
  clear hb3 HA HF2 HV2 Hb2 E2
  go_wp2_with fail
  go_loopw [5, 11] (fun u z wr => ∃ k : Nat, k ≤ 134 ∧ z = .int .i64 k ∧ Hid (Below w3.heap.size w3 wr) ∧ Hid (OwnC wr w3.heap.size 3 u (ivals (someF (al.take k))))) (fun _ z _ => 134 - (intOf z).toNat)
  case atStart => exact ⟨0, Nat.zero_le _, rfl, Lib.hid (Below.refl _ _), Lib.hid (OwnC.nil_ _ _ _)⟩
  case round =>
    obtain ⟨k, hk, rfl, E, HO⟩ := hrel
    by_cases hlt : k < 134
    · have d1 : decide ((k : Int) < 134) = true := by simp; omega
      have Hk := Lib.hid hlt
      have HNx := Lib.hid (someF_next (t := al) (k := k) (by rw [HL.out]; exact hlt))
      have HLn := Lib.hid (show (someF (al.take k)).length ≤ k from Nat.le_trans (someF_len _) (by rw [List.length_take]; omega))
      have Z := Lib.hid E.out.size
      obtain ⟨x, Hx⟩ : ∃ x, Hid (fld al k = x) := ⟨_, Lib.hid rfl⟩
      rw [Hx.out] at HNx
      by_cases hx : x = 0
      · have HN := Lib.hid (show someF (al.take (k + 1)) = someF (al.take k) by rw [HNx.out, if_pos hx])
        have d2 : (x != 0) = false := by simpa using hx
        clear hx HNx
        go_wp2_with (refine wpList_index_ints rfl _ _ _ rfl 134 _ Try.underlying55 Try.underlying3 Try.int1Size al rfl .i64 _ rfl k rfl Hk.out (by rw [HL.out]; exact Hk.out) ?_; rw [Hx.out])
        go_roundw
        case rel => exact ⟨k + 1, by omega, by go_num, E, Lib.hid (by rw [HN.out]; exact HO.out)⟩
        case measure => simp [intOf]; omega
      · have HN := Lib.hid (show someF (al.take (k + 1)) = someF (al.take k) ++ [x] by rw [HNx.out, if_neg hx])
        have d2 : (x != 0) = true := by simpa using hx
        have hl1 : (ivals (someF (al.take k))).length + 1 ≤ maxLen := by rw [ivals_len]; unfold maxLen; have := HLn.out; omega
        have hl2 : ((ivals (someF (al.take k))).length + 1) * 8 ≤ 140737488355328 := by rw [ivals_len]; have := HLn.out; omega
        clear hx HNx
        go_wp2_with (first | (refine wpList_index_ints rfl _ _ _ rfl 134 _ Try.underlying55 Try.underlying3 Try.int1Size al rfl .i64 _ rfl k rfl Hk.out (by rw [HL.out]; exact Hk.out) ?_; rw [Hx.out]) | (at_builtin; refine wpList_append_one rfl _ _ _ _ rfl Try.underlying38 (.int .i64 0) 8 Try.intInfo rfl w3.heap.size _ _ rfl HO.out (.int .i64 x) rfl rfl Z.out hl1 hl2 ?_))
        apply Stop.go
        intro v' wb Hv' Ha'
        have HO3 := Lib.hid (show OwnC wb w3.heap.size 3 v' (ivals (someF (al.take (k + 1)))) by rw [HN.out, ← ivals_snoc]; exact Hv'.out)
        have E4 := Lib.hid (E.out.trans Ha'.out.below)
        clear Hv' Ha' HO E hl1 hl2 HLn Z
        go_wp2_with fail
        go_roundw
        case rel => exact ⟨k + 1, by omega, by go_num, E4, HO3⟩
        case measure => simp [intOf]; omega
    · obtain rfl : k = 134 := by omega
      rw [List.take_of_length_le (by rw [HL.out]; omega)] at HO
      go_wp2_with fail
      go_ret
      exact ⟨_, rfl, HO.out.low E3.out.size, bt E3.out E.out⟩

set_option maxHeartbeats 3200000 in
theorem fbeyond_any (l : Lay14) (f : Value) (T : Int → List UInt8) (hT : ∀ no, (T no).length = 256) (X : List Int) (hX : X.length = 11) (w : World) (hf : FV w l f T) :
    Calls Try.prog 11 #[.agg (vval l f), .agg (icells X)] w (RetL w (beyF l T X 134)) := by
  have HXL := Lib.hid hX
  have HF := Lib.hid hf
  have HA := Lib.hid (fun w h => fall_any l f T hT X hX w h)
  obtain ⟨S, HS⟩ : ∃ S, Hid (fld X 2 = S) := ⟨_, Lib.hid rfl⟩
  obtain ⟨B, HB⟩ : ∃ B, Hid (blocksI S = B) := ⟨_, Lib.hid rfl⟩
  have HBc := Lib.hid (fun w => blocks_any S w)
  rw [HB.out] at HBc
  have HNo := Lib.hid (fun k (h : ¬ (B ≤ ((k : Nat) : Int) ∧ atF l T X k ≠ 0)) => show beyF l T X (k + 1) = beyF l T X k by rw [beyF_next, HS.out, HB.out, if_neg h])
  have HYes := Lib.hid (fun k (h : B ≤ ((k : Nat) : Int) ∧ atF l T X k ≠ 0) => show beyF l T X (k + 1) = beyF l T X k ++ [(k : Int)] by rw [beyF_next, HS.out, HB.out, if_pos h])
  obtain ⟨al, HAL⟩ : ∃ al, Hid (allF l T X = al) := ⟨_, Lib.hid rfl⟩
  have HL := Lib.hid (show al.length = 134 by rw [← HAL.out]; exact allF_len)
  have HAt := Lib.hid (fun k (h : k < 134) => show atF l T X k = fld al k by rw [← HAL.out]; exact (allF_at h).symm)
  rw [HAL.out] at HA
  clear hX hT hf HAL HB
  go_enter Try.func11, Try.ntmps11
  go_wp2_with (refine wpList_box_row rfl _ _ rfl _ rfl ?_)
  apply Stop.go; intro w1 Hg1 Hb1
  go_wp2_with (refine wpList_box_row rfl _ _ rfl _ rfl ?_)
  apply Stop.go; intro w2 Hg2 Hb2
  have HV2 := Lib.hid (Hb1.out.ext Hg2.out.1)
  have E2 := Lib.hid (bt Hg1.out.1 Hg2.out.1)
  have HF2 := Lib.hid (HF.out.below E2.out)
  generalize w1.heap.size = g1 at *
  clear Hg1 Hb1 Hg2 HF
  have c2 : w2.cell? ⟨g1, 2, none⟩ = some (.int .i64 S) := by rw [← HS.out]; exact Hb2.out.fld 2 (by rw [HXL.out]; omega)
  clear HS
  go_wp2_with fail
  refine (HBc.out _).mono ?_; rintro e wx ⟨rfl, rfl⟩
  clear HBc c2
  go_wp2_with (first | refine wpList_load_blk rfl _ _ rfl _ rfl _ _ HV2.out _ Try.underlying32 rfl Try.viewSize ?_ | refine wpList_load_blk rfl _ _ rfl _ rfl _ _ Hb2.out _ Try.underlying25 rfl (Try.inoFits HXL.out) ?_)
  refine (HA.out _ HF2.out).mono ?_; rintro e w3 ⟨rfl, hb3⟩
  have E3 := Lib.hid (bt E2.out hb3)
  clear hb3 HA HF2 HV2 Hb2 E2
  go_wp2_with fail
  go_loopw [5, 15] (fun u z wr => ∃ k : Nat, k ≤ 134 ∧ z = .int .i64 k ∧ Hid (Below w3.heap.size w3 wr) ∧ Hid (OwnC wr w3.heap.size 3 u (ivals (beyF l T X k)))) (fun _ z _ => 134 - (intOf z).toNat)
  case atStart => exact ⟨0, Nat.zero_le _, rfl, Lib.hid (Below.refl _ _), Lib.hid (OwnC.nil_ _ _ _)⟩
  case round =>
    obtain ⟨k, hk, rfl, E, HO⟩ := hrel
    by_cases hlt : k < 134
    · have d1 : decide ((k : Int) < 134) = true := by simp; omega
      have Hk := Lib.hid hlt
      have HN0 := Lib.hid (HNo.out k)
      have HY0 := Lib.hid (HYes.out k)
      have HLn := Lib.hid (@beyF_len l T X k)
      have Z := Lib.hid E.out.size
      obtain ⟨x, Hx⟩ : ∃ x, Hid (fld al k = x) := ⟨_, Lib.hid rfl⟩
      rw [HAt.out k hlt, Hx.out] at HN0 HY0
      by_cases hB : B ≤ (k : Int)
      rotate_left
      · have d2 : decide (B ≤ (k : Int)) = false := decide_eq_false hB
        have HN := Lib.hid (HN0.out (by omega))
        clear hB HN0 HY0
        go_wp2_with (refine wpList_index_ints rfl _ _ _ rfl 134 _ Try.underlying55 Try.underlying3 Try.int1Size al rfl .i64 _ rfl k rfl Hk.out (by rw [HL.out]; exact Hk.out) ?_; rw [Hx.out])
        go_roundw
        case rel => exact ⟨k + 1, by omega, by go_num, E, Lib.hid (by rw [HN.out]; exact HO.out)⟩
        case measure => simp [intOf]; omega
      · have d2 : decide (B ≤ (k : Int)) = true := decide_eq_true hB
        have HN1 := Lib.hid (fun h : x = 0 => HN0.out (fun h' => h'.2 h))
        have HY1 := Lib.hid (fun h : x ≠ 0 => HY0.out ⟨hB, h⟩)
        clear hB HN0 HY0
        by_cases hx : x = 0
        · have HN := Lib.hid (HN1.out hx)
          have d3 : (x != 0) = false := by simpa using hx
          clear hx HN1 HY1
          go_wp2_with (refine wpList_index_ints rfl _ _ _ rfl 134 _ Try.underlying55 Try.underlying3 Try.int1Size al rfl .i64 _ rfl k rfl Hk.out (by rw [HL.out]; exact Hk.out) ?_; rw [Hx.out])
          go_roundw
          case rel => exact ⟨k + 1, by omega, by go_num, E, Lib.hid (by rw [HN.out]; exact HO.out)⟩
          case measure => simp [intOf]; omega
        · have HN := Lib.hid (HY1.out hx)
          have d3 : (x != 0) = true := by simpa using hx
          have hl1 : (ivals (beyF l T X k)).length + 1 ≤ maxLen := by rw [ivals_len]; unfold maxLen; have := HLn.out; omega
          have hl2 : ((ivals (beyF l T X k)).length + 1) * 8 ≤ 140737488355328 := by rw [ivals_len]; have := HLn.out; omega
          clear hx HN1 HY1
          go_wp2_with (first | (refine wpList_index_ints rfl _ _ _ rfl 134 _ Try.underlying55 Try.underlying3 Try.int1Size al rfl .i64 _ rfl k rfl Hk.out (by rw [HL.out]; exact Hk.out) ?_; rw [Hx.out]) | (at_builtin; refine wpList_append_one rfl _ _ _ _ rfl Try.underlying38 (.int .i64 0) 8 Try.intInfo rfl w3.heap.size _ _ rfl HO.out (.int .i64 (k : Int)) rfl rfl Z.out hl1 hl2 ?_))
          apply Stop.go
          intro v' wb Hv' Ha'
          have HO3 := Lib.hid (show OwnC wb w3.heap.size 3 v' (ivals (beyF l T X (k + 1))) by rw [HN.out, ← ivals_snoc]; exact Hv'.out)
          have E4 := Lib.hid (E.out.trans Ha'.out.below)
          clear Hv' Ha' HO E hl1 hl2 HLn Z
          go_wp2_with fail
          go_roundw
          case rel => exact ⟨k + 1, by omega, by go_num, E4, HO3⟩
          case measure => simp [intOf]; omega
    · obtain rfl : k = 134 := by omega
      go_wp2_with fail
      go_ret
      exact ⟨_, rfl, HO.out.low E3.out.size, bt E3.out E.out⟩

end Go.Proofs.Ytcdbligdcikphaa
