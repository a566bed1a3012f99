/-
  Contracts of package chart: Count, First, Set.
-/
import Derived.Test.YtcoefbgidfgblaaChart1
namespace Go.Proofs.Ytcoefbgidfgblaa
open Go.RowKit

theorem topN_le (n : Int) : topN n ≤ 2048 := by unfold topN; omega
theorem topN_eq (n : Int) : (n ≤ 2048 ∧ (topN n : Int) = max n 0) ∨ (2048 < n ∧ (topN n : Int) = 2048) := by unfold topN; omega

set_option maxHeartbeats 1600000 in
theorem count_any (L : List UInt8) (hL : L.length = 256) (n : Int) (w : World) :
    Calls Try.prog 17 #[.agg (bcells L), .int .i64 n] w fun e w' => e = .returned (.int .i64 ((setN (bitAt L) (topN n)).length : Nat)) ∧ Below w.heap.size w w' := by
  have HL := Lib.hid hL
  have hT := topN_le n
  have hN := topN_eq n
  generalize topN n = T at *
  clear hL
  rcases hN with ⟨hn, hTn⟩ | ⟨hn, hTn⟩
  all_goals
    have HT := Lib.hid hTn
    clear hTn
    go_enter Try.func17, Try.ntmps17
    go_wp2_with (refine wpList_box_row rfl _ _ rfl _ rfl ?_)
    apply Stop.go; intro w1 Hg1 Hb1
    go_wp2_with fail
    go_loopw [5, 9] (fun c i wr => ∃ k : Nat, k ≤ T ∧ i = .int .i64 k ∧ c = .int .i64 ((setN (bitAt L) k).length : Nat) ∧ ∃ m, wr = w1.drewN m) (fun _ i _ => T - (intOf i).toNat)
    case atStart => exact ⟨0, Nat.zero_le _, rfl, rfl, 0, rfl⟩
    case round =>
      obtain ⟨k, hk, rfl, rfl, m, hwr⟩ := hrel
      have Hwr := Lib.hid hwr
      clear hwr
      have hcl := setN_len (bitAt L) k
      have Hnx := Lib.hid (setN_next (bitAt L) k)
      obtain ⟨C, hC⟩ : ∃ C, (setN (bitAt L) k).length = C := ⟨_, rfl⟩
      rw [hC] at hcl ⊢
      have HC := Lib.hid hC
      clear hC
      by_cases hlt : k < T
      · have hkt : k < 2048 := by omega
        have d0 : decide ((k : Int) < n) = true := by have := HT.out; simp; omega
        have d1 : decide ((k : Int) < 2048) = true := by simp; omega
        obtain ⟨x, hx, hbit, -⟩ := byte_of_bit HL.out hkt
        have hkx := bit_neq x (k % 8) (by omega)
        rw [← hbit] at hkx
        have hxlt := x.toNat_lt
        have HM := Lib.hid (mask_q k hkt)
        generalize ((2 ^ (k % 8) : Nat) : Int) = M at *
        obtain ⟨q, hq⟩ : ∃ q, k / 8 = q := ⟨_, rfl⟩
        have hqw : IntKind.i64.wrap (q : Int) = q := IntWalk.i64_in _ (by omega)
        have hqq : (k : Int) / 8 = q := by omega
        have hqn : q < 256 := by omega
        have hql : (q : Int) < 256 := by omega
        rw [hq] at hx
        clear hq hbit
        have hc : wr.cell? ⟨w.heap.size, q, none⟩ = some (.int .u8 (x.toNat : Int)) := by rw [Hwr.out, ← show w1.cell? _ = (w1.drewN m).cell? _ from rfl, Hb1.out.cell, bcells_get, hx]; rfl
        cases hr : bitAt L k
        all_goals
          rw [hr] at hkx
          have Hr := Lib.hid hr
          clear hr
          go_wp2_with fail
          go_quiet ((go_at_call 24; exact Calls.quiet_of_same (HM.out _)))
          go_wp2_with fail
          go_roundw
          case rel =>
            refine ⟨k + 1, by omega, by go_num, ?_, m + nq, by rw [Hwr.out, World.drewN_drewN]⟩
            rw [Hnx.out, Hr.out, List.length_append, HC.out]
            rfl
          case measure => simp [intOf]; omega
      · have HkT := Lib.hid (show k = T by omega)
        first
        | (have d0 : decide ((k : Int) < n) = false := by have := HT.out; simp; omega
           go_wp2_with fail
           go_ret
           rw [← HC.out, Hwr.out, HkT.out]
           exact ⟨rfl, bt Hg1.out.1 (bdrew _ _)⟩)
        | (have d0 : decide ((k : Int) < 2048) = false := by have := HT.out; simp; omega
           go_wp2_with fail
           go_ret
           rw [← HC.out, Hwr.out, HkT.out]
           exact ⟨rfl, bt Hg1.out.1 (bdrew _ _)⟩)

theorem Try.intInfo : (Try.prog.info? 3).map (fun i => (i.zero, i.size, i.bytes)) = some (some (.int .i64 0), 1, 8) := by kernel_rfl
set_option maxHeartbeats 1600000 in
theorem cset_any (L : List UInt8) (hL : L.length = 256) (n : Int) (w : World) :
    Calls Try.prog 20 #[.agg (bcells L), .int .i64 n] w fun e w' => ∃ v, e = .returned v ∧ OwnC w' w.heap.size 3 v (ivals (setI (bitAt L) (topN n))) ∧ Below w.heap.size w w' := by
  have HL := Lib.hid hL
  have hT := topN_le n
  have hN := topN_eq n
  generalize topN n = T at *
  clear hL
  rcases hN with ⟨hn, hTn⟩ | ⟨hn, hTn⟩
  all_goals
    have HT := Lib.hid hTn
    clear hTn
    go_enter Try.func20, Try.ntmps20
    go_wp2_with (refine wpList_box_row rfl _ _ rfl _ rfl ?_)
    apply Stop.go; intro w1 Hg1 Hb1
    go_wp2_with fail
    go_loopw [5, 9] (fun u i wr => ∃ k : Nat, k ≤ T ∧ i = .int .i64 k ∧ OwnC wr w1.heap.size 3 u (ivals (setI (bitAt L) k)) ∧ Below w1.heap.size w1 wr) (fun _ i _ => T - (intOf i).toNat)
    case atStart => exact ⟨0, Nat.zero_le _, rfl, OwnC.nil_ _ _ _, Below.refl _ _⟩
    case round =>
      obtain ⟨k, hk, rfl, hu, hbw⟩ := hrel
      have Hu := Lib.hid hu
      have Hbw := Lib.hid hbw
      clear hu hbw
      by_cases hlt : k < T
      · have hkt : k < 2048 := by omega
        have d0 : decide ((k : Int) < n) = true := by have := HT.out; simp; omega
        have d1 : decide ((k : Int) < 2048) = true := by simp; omega
        obtain ⟨x, hx, hbit, -⟩ := byte_of_bit HL.out hkt
        have hkx := bit_neq x (k % 8) (by omega)
        rw [← hbit] at hkx
        have hxlt := x.toNat_lt
        have HM := Lib.hid (mask_q k hkt)
        generalize ((2 ^ (k % 8) : Nat) : Int) = M at *
        obtain ⟨q, hq⟩ : ∃ q, k / 8 = q := ⟨_, rfl⟩
        have hqw : IntKind.i64.wrap (q : Int) = q := IntWalk.i64_in _ (by omega)
        have hqq : (k : Int) / 8 = q := by omega
        have hqn : q < 256 := by omega
        have hql : (q : Int) < 256 := by omega
        rw [hq] at hx
        clear hq hbit
        have hc : wr.cell? ⟨w.heap.size, q, none⟩ = some (.int .u8 (x.toNat : Int)) := by rw [(Hb1.out.ext Hbw.out).cell, bcells_get, hx]; rfl
        cases hr : bitAt L k
        · rw [hr] at hkx
          have Hnx := Lib.hid (setI_off _ _ hr)
          clear hr
          go_wp2_with fail
          go_quiet ((go_at_call 24; exact Calls.quiet_of_same (HM.out _)))
          go_wp2_with fail
          go_roundw
          case rel => exact ⟨k + 1, by omega, by go_num, by rw [Hnx.out]; exact Hu.out.ext (bdrew _ _), bt Hbw.out (bdrew _ _)⟩
          case measure => simp [intOf]; omega
        · rw [hr] at hkx
          have Hnx := Lib.hid (setI_on _ _ hr)
          have hlen := setN_len (bitAt L) k
          have hl1 : (ivals (setI (bitAt L) k)).length + 1 ≤ maxLen := by rw [ivals_len, setI_len]; unfold maxLen; omega
          have hl2 : ((ivals (setI (bitAt L) k)).length + 1) * 8 ≤ 140737488355328 := by rw [ivals_len, setI_len]; omega
          clear hr
          go_wp2_with fail
          go_quiet ((go_at_call 24; exact Calls.quiet_of_same (HM.out _)))
          have D := Lib.hid (bdrew wr nq)
          have Hu2 := Lib.hid (Hu.out.ext D.out)
          have Hbw2 := Lib.hid (bt Hbw.out D.out)
          generalize wr.drewN nq = w2 at *
          go_wp2_with (at_builtin; refine wpList_append_one rfl _ _ _ _ rfl Try.underlying39 (.int .i64 0) 8 Try.intInfo rfl w1.heap.size _ _ rfl Hu2.out (.int .i64 k) rfl rfl Hbw2.out.size hl1 hl2 ?_)
          apply Stop.go
          intro v' w3 Hv' Ha'
          go_wp2_with fail
          go_roundw
          case rel => exact ⟨k + 1, by omega, by go_num, by rw [Hnx.out, ← ivals_snoc]; exact Hv'.out, Hbw2.out.trans Ha'.out.below⟩
          case measure => simp [intOf]; omega
      · have HkT := Lib.hid (show k = T by omega)
        first
        | (have d0 : decide ((k : Int) < n) = false := by have := HT.out; simp; omega
           go_wp2_with fail
           go_ret
           rw [← HkT.out]
           exact ⟨_, rfl, Hu.out.low Hg1.out.1.size, bt Hg1.out.1 Hbw.out⟩)
        | (have d0 : decide ((k : Int) < 2048) = false := by have := HT.out; simp; omega
           go_wp2_with fail
           go_ret
           rw [← HkT.out]
           exact ⟨_, rfl, Hu.out.low Hg1.out.1.size, bt Hg1.out.1 Hbw.out⟩)

set_option maxHeartbeats 1600000 in
theorem first_any (L : List UInt8) (hL : L.length = 256) (fr n : Int) (hfr : fr < 9223372036854775808) (w : World) :
    Calls Try.prog 15 #[.agg (bcells L), .int .i64 fr, .int .i64 n] w fun e w' =>
      e = .returned (.tuple #[.int .i64 ((firstO (bitAt L) fr (topN n)).getD 0 : Nat), .bool (firstO (bitAt L) fr (topN n)).isSome]) ∧ Below w.heap.size w w' := by
  have HL := Lib.hid hL
  have hT := topN_le n
  have hN := topN_eq n
  generalize topN n = T at *
  clear hL
  rcases hN with ⟨hn, hTn⟩ | ⟨hn, hTn⟩
  all_goals
    have HT := Lib.hid hTn
    clear hTn
    by_cases hf0 : 0 ≤ fr
  all_goals
    go_enter Try.func15, Try.ntmps15
    go_wp2_with (refine wpList_box_row rfl _ _ rfl _ rfl ?_)
    apply Stop.go; intro w1 Hg1 Hb1
    go_wp2_with fail
    go_loopw [8] (fun i wr => ∃ k : Nat, (k ≤ T ∨ (k : Int) = fr) ∧ fr ≤ k ∧ i = .int .i64 k ∧ (∀ j : Nat, fr ≤ j → j < k → bitAt L j = true) ∧ ∃ m, wr = w1.drewN m) (fun i _ => T - (intOf i).toNat)
    case atStart =>
      first
      | exact ⟨0, Or.inl (Nat.zero_le _), by omega, rfl, fun j _ h => absurd h (Nat.not_lt_zero _), 0, rfl⟩
      | exact ⟨fr.toNat, Or.inr (by omega), by omega, by congr 1; omega, fun j h1 h2 => by omega, 0, rfl⟩
    case round =>
      obtain ⟨k, hk, hfk, rfl, hall, m, hwr⟩ := hrel
      have Hwr := Lib.hid hwr
      have Hall := Lib.hid hall
      have Hfk := Lib.hid hfk
      have Hk := Lib.hid hk
      clear hwr hall hfk hk
      by_cases hlt : k < T
      · have hkt : k < 2048 := by omega
        have d0 : decide ((k : Int) < n) = true := by have := HT.out; simp; omega
        have d1 : decide ((k : Int) < 2048) = true := by simp; omega
        obtain ⟨x, hx, hbit, -⟩ := byte_of_bit HL.out hkt
        have hkx := bit_eql x (k % 8) (by omega)
        rw [← hbit] at hkx
        have hxlt := x.toNat_lt
        have HM := Lib.hid (mask_q k hkt)
        generalize ((2 ^ (k % 8) : Nat) : Int) = M at *
        obtain ⟨q, hq⟩ : ∃ q, k / 8 = q := ⟨_, rfl⟩
        have hqw : IntKind.i64.wrap (q : Int) = q := IntWalk.i64_in _ (by omega)
        have hqq : (k : Int) / 8 = q := by omega
        have hqn : q < 256 := by omega
        have hql : (q : Int) < 256 := by omega
        rw [hq] at hx
        clear hq hbit
        have hc : wr.cell? ⟨w.heap.size, q, none⟩ = some (.int .u8 (x.toNat : Int)) := by rw [Hwr.out, ← show w1.cell? _ = (w1.drewN m).cell? _ from rfl, Hb1.out.cell, bcells_get, hx]; rfl
        cases hr : bitAt L k
        · rw [hr] at hkx
          have Hr := Lib.hid (firstO_some _ fr T k hlt Hfk.out hr Hall.out)
          clear hr
          have hkx : (bits BinOp.and IntKind.u8 (x.toNat : Int) M == 0) = true := hkx
          go_wp2_with fail
          go_quiet ((go_at_call 24; exact Calls.quiet_of_same (HM.out _)))
          go_wp2_with fail
          go_ret2
          rw [Hr.out, Hwr.out, World.drewN_drewN]
          exact ⟨rfl, bt Hg1.out.1 (bdrew _ _)⟩
        · rw [hr] at hkx
          have Hr := Lib.hid hr
          clear hr
          have hkx : (bits BinOp.and IntKind.u8 (x.toNat : Int) M == 0) = false := hkx
          go_wp2_with fail
          go_quiet ((go_at_call 24; exact Calls.quiet_of_same (HM.out _)))
          go_wp2_with fail
          go_roundw
          case rel =>
            refine ⟨k + 1, Or.inl (by omega), by have := Hfk.out; omega, by go_num, fun j h1 h2 => ?_, m + nq, by rw [Hwr.out, World.drewN_drewN]⟩
            by_cases hjk : j = k
            · rw [hjk]; exact Hr.out
            · exact Hall.out j h1 (by omega)
          case measure => simp [intOf]; omega
      · have Hr := Lib.hid (firstO_none (bitAt L) fr T fun j h1 h2 => Hall.out j h1 (by omega))
        first
        | (have d0 : decide ((k : Int) < n) = false := by have := HT.out; simp; omega
           go_wp2_with fail
           go_ret2
           rw [Hr.out, Hwr.out]
           exact ⟨rfl, bt Hg1.out.1 (bdrew _ _)⟩)
        | (have d0 : decide ((k : Int) < 2048) = false := by have := HT.out; simp; omega
           go_wp2_with fail
           go_ret2
           rw [Hr.out, Hwr.out]
           exact ⟨rfl, bt Hg1.out.1 (bdrew _ _)⟩)

end Go.Proofs.Ytcoefbgidfgblaa
