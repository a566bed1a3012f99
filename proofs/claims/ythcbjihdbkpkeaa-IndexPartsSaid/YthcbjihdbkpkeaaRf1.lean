/-
  Contracts of the document's answer 19: Pow, Deep, Is, Fine, Places, Buckets.
-/
import Derived.Test.YthcbjihdbkpkeaaIx4
import Derived.Test.YthcbjihdbkpkeaaIn9
namespace Go.Proofs.Ythcbjihdbkpkeaa
open Go.RowKit

theorem Try.rxSize : (Try.prog.info? 24).map (·.size) = some 33 := by kernel_rfl
theorem Try.rxZero : (Try.prog.info? 24).map (·.zero) = some (some (.agg (icells (0 :: zeroT)))) := by kernel_rfl
theorem Try.rxFits {d : Int} {t : List Int} (h : t.length = 32) : (Try.prog.info? 24).map (·.size) = some (icells (d :: t)).size := by rw [icells_size, List.length_cons, h]; exact Try.rxSize
theorem Try.rxBuilt0 : Try.prog.built 24 [] = some (icells (0 :: zeroT)) := by kernel_rfl
theorem Try.rxBuilt1 (d : Int) : Try.prog.built 24 [(0, .int .i64 d)] = some (icells (d :: zeroT)) := by kernel_rfl

set_option maxHeartbeats 400000 in
theorem rpow_any (n : Nat) (hn : n ≤ 5) (w : World) : Calls Try.prog 42 #[.int .i64 n] w fun e w' => e = .returned (.int .i64 ((2 ^ n : Nat) : Int)) ∧ w = w' := by
  obtain ⟨R, HR⟩ : ∃ R, Hid (2 ^ n = R) := ⟨_, Lib.hid rfl⟩
  rw [HR.out]
  go_enter Try.func42, Try.ntmps42
  go_wp2
  go_loop [3, 4] (fun v i => ∃ k : Nat, k ≤ n ∧ i = .int .i64 k ∧ v = .int .i64 ((2 ^ k : Nat) : Int)) (fun _ i => n - (intOf i).toNat)
  case atStart => exact ⟨0, Nat.zero_le _, rfl, rfl⟩
  case round =>
    obtain ⟨k, hk, rfl, rfl⟩ := hrel
    by_cases hlt : k < n
    · have d1 : decide ((k : Int) < n) = true := by simp; omega
      have d2 : decide (k < n) = true := by simp; omega
      have hp := pow32 (show k ≤ 5 by omega)
      have HP := Lib.hid (Nat.pow_succ 2 k)
      generalize 2 ^ k = K at *
      go_wp2
      go_round
      case rel => exact ⟨k + 1, by omega, by go_num, by rw [HP.out]; go_num⟩
      case measure => simp [intOf]; omega
    · obtain rfl : k = n := by omega
      have d1 : decide ((k : Int) < k) = false := by simp
      rw [HR.out]
      go_wp2
      go_ret
      exact ⟨rfl, rfl⟩

set_option maxHeartbeats 400000 in
theorem rdeep_any (d : Int) (t : List Int) (w : World) :
    Calls Try.prog 18 #[.agg (icells (d :: t))] w fun e w' => e = .returned (.int .i64 (dpN d : Nat)) ∧ Below w.heap.size w w' := by
  obtain ⟨D, HD⟩ : ∃ D, Hid (dpN d = D) := ⟨_, Lib.hid rfl⟩
  have HDD := Lib.hid (show D = (max 0 (min d 5)).toNat by rw [← HD.out]; rfl)
  rw [HD.out]
  go_enter Try.func18, Try.ntmps18
  go_wp2_with (refine wpList_box_row rfl _ _ rfl _ rfl ?_)
  apply Stop.go; intro w1 Hg1 Hb1
  have c0 := dep_cell Hb1.out
  go_wp2
  all_goals
    go_ret
    refine ⟨congrArg (fun x => Ending.returned (.int .i64 x)) ?_, Hg1.out.1⟩
    rw [HDD.out]
    omega

set_option maxHeartbeats 400000 in
theorem rfine_any (n : Int) (w : World) : Calls Try.prog 35 #[.int .i64 n] w fun e w' => e = .returned (.bool (shortB n)) ∧ w = w' := by
  by_cases h : 0 ≤ n
  · go_enter Try.func35, Try.ntmps35
    go_wp2
    go_ret
    simp [h, shortB]
  · go_enter Try.func35, Try.ntmps35
    go_wp2
    go_ret
    simp [shortB]
    omega

theorem exec_rem_nat {P : Program} {o : Oper} {a : Act} {w : World} (t t' : TypeId) (x y : Operand) (ho : o.op = .binOp .rem t x y t') (i M : Nat) (hx : a.eval x = .int .i64 i) (hy : a.eval y = .int .i64 M) (hM : 0 < M) (hi : i < 9223372036854775808) : (execOp a.eval o).run P w = .ok (.value (.int .i64 ((i % M : Nat) : Int))) w := by
  have m1 : (M : Int) ≠ 0 := by omega
  have i1 : Int.tmod (i : Int) (M : Int) = ((i % M : Nat) : Int) := by rw [Int.tmod_eq_emod_of_nonneg (by omega)]; rfl
  have i2 : IntKind.i64.wrap ((i % M : Nat) : Int) = ((i % M : Nat) : Int) := IntWalk.i64_in _ (by have := Nat.mod_le i M; omega)
  unfold execOp
  simp only [ho, hx, hy]
  go_simp
  omega
set_option maxHeartbeats 800000 in
theorem rxis_any (i p b : Nat) (hi : i < 32) (hp : p < 32) (hb : b ≤ 5) (w : World) :
    Calls Try.prog 46 #[.int .i64 i, .int .i64 p, .int .i64 b] w (RetQ (.bool (isB b i p)) w) := by
  have HP := Lib.hid (fun (w : World) => rpow_any b hb w)
  obtain ⟨M, hM⟩ : ∃ M, 2 ^ b = M := ⟨_, rfl⟩
  have hM0 : 0 < M := by rw [← hM]; exact Nat.two_pow_pos b
  have HI := Lib.hid (show isB b i p = (i % M == p % M) by rw [← hM]; rfl)
  rw [hM] at HP
  rw [HI.out]
  obtain ⟨x, hx⟩ : ∃ x, i % M = x := ⟨_, rfl⟩
  obtain ⟨y, hy⟩ : ∃ y, p % M = y := ⟨_, rfl⟩
  have HX := Lib.hid hx
  have HY := Lib.hid hy
  have d1 : ((x : Int) == (y : Int)) = (x == y) := by rw [Bool.eq_iff_iff]; simp; omega
  obtain ⟨q, hq⟩ : ∃ q, (x == y) = q := ⟨_, rfl⟩
  rw [hq] at d1
  rw [hx, hy, hq]
  clear hM hx hy hq
  go_enter Try.func46, Try.ntmps46
  go_wp2_with fail
  refine WH.start (S := (fun w' : World => ∃ m, w' = w.drewN m)) [false, false, false, false, false, false, false, false, false, false] 10 rfl rfl (by kernel_rfl) ⟨1, rfl⟩ (fun hSn => ?_); obtain ⟨wS, hwS⟩ : ∃ x, (w).drew = x := ⟨_, rfl⟩; have HE := Lib.hid (show Below (w).heap.size (w) wS from hwS ▸ bdrew w 1); rw [hwS] at hSn ⊢; clear hwS
  refine WH.tk 0 ?_; simp only [setL]
  refine WH.tk 1 ?_; simp only [setL]
  refine WH.tk 4 ?_; simp only [setL]
  refine WH.tk 5 ?_; simp only [setL]
  refine WH.only 2 _ rfl (by kernel_rfl) rfl (fun K hK => ?_)
  go_simp; refine (HP.out _).mono ?_; rintro e wa ⟨rfl, rfl⟩; go_simp
  have hSn := hSn; refine hK _ _ hSn ?_; clear hK; clear K; simp only [setL]
  refine WH.tv 3 rfl (fun w' hSw => exec_rem_nat _ _ _ _ rfl i M rfl rfl hM0 (by omega)) ?_; simp only [setL]
  rw [HX.out]
  refine WH.only 6 _ rfl (by kernel_rfl) rfl (fun K hK => ?_)
  go_simp; refine (HP.out _).mono ?_; rintro e wa ⟨rfl, rfl⟩; go_simp
  have hSn := hSn; refine hK _ _ hSn ?_; clear hK; clear K; simp only [setL]
  refine WH.tv 7 rfl (fun w' hSw => exec_rem_nat _ _ _ _ rfl p M rfl rfl hM0 (by omega)) ?_; simp only [setL]
  rw [HY.out]
  refine WH.tk 8 ?_; simp only [setL]
  refine WH.tk 9 ?_; simp only [setL]
  refine WH.done (by kernel_rfl) ?_
  go_wp2_with fail
  go_ret
  exact ⟨rfl, hSn⟩

end Go.Proofs.Ythcbjihdbkpkeaa
