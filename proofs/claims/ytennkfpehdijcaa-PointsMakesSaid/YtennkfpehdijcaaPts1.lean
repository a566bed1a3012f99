/-
  Contracts of package points: isPlace, isNumber, numberAt, Get, Patch.
-/
import Derived.Test.YtennkfpehdijcaaPtsA
import Derived.Test.YtennkfpehdijcaaNum2
import Derived.Test.YtennkfpehdijcaaPatO
import Derived.Test.YtennkfpehdijcaaPat1
namespace Go.Proofs.Ytennkfpehdijcaa
open Go.RowKit

set_option maxHeartbeats 400000 in
theorem qplace_any (k : Int) (w : World) : Calls Try.prog 27 #[.int .i64 k] w fun e w' => e = .returned (.bool (placeQ k)) ∧ w = w' := by
  by_cases h : 0 ≤ k
  · go_enter Try.func27, Try.ntmps27
    go_wp2
    go_ret
    simp [h, placeQ]
  · go_enter Try.func27, Try.ntmps27
    go_wp2
    go_ret
    simp [placeQ]
    omega

set_option maxHeartbeats 400000 in
theorem qshort_any (n : Int) (w : World) : Calls Try.prog 29 #[.int .i64 n] w fun e w' => e = .returned (.bool (shortB n)) ∧ w = w' := by
  by_cases h : 0 ≤ n
  · go_enter Try.func29, Try.ntmps29
    go_wp2
    go_ret
    simp [h, shortB]
  · go_enter Try.func29, Try.ntmps29
    go_wp2
    go_ret
    simp [shortB]
    omega

theorem qat_any (k : Nat) (hk : k < 128) (w : World) : Calls Try.prog 25 #[.int .i64 k] w fun e w' => e = .returned (.int .i64 ((2 * k : Nat) : Int)) ∧ w = w' := by
  go_enter Try.func25, Try.ntmps25
  go_wp2
  go_ret
  simp
  omega

set_option maxHeartbeats 800000 in
theorem qget_any (b : List UInt8) (hb : b.length = 256) (k : Int) (w : World) :
    Calls Try.prog 10 #[.agg (bcells b), .int .i64 k] w fun e w' => e = .returned (.int .i64 (getQ b k)) ∧ Below w.heap.size w w' := by
  have HbL := Lib.hid hb
  go_enter Try.func10, Try.ntmps10
  go_wp2_with (refine wpList_box_row rfl _ _ rfl _ rfl ?_)
  apply Stop.go; intro w1 Hg1 Hb1
  go_wp2_with fail
  refine (qplace_any k _).mono ?_; rintro e w2 ⟨rfl, rfl⟩
  cases hp : placeQ k
  · have H0 := Lib.hid (getQ_no b hp)
    clear hp
    go_wp2_with fail
    go_ret
    rw [H0.out]
    exact ⟨rfl, Hg1.out.1⟩
  · obtain ⟨q, hq, rfl⟩ := placeQ_true hp
    have H0 := Lib.hid (show getQ b (q : Int) = ((getN b ((2 * q : Nat) : Int) 2 4 : Nat) : Int) by rw [getQ_nat b hq, getN_nm hb hq])
    clear hp hb
    go_wp2_with fail
    refine WH.start (S := fun w' : World => Blk w' w.heap.size 23 (bcells b)) [false, false, false, false, false] 5 rfl rfl (by kernel_rfl) (Hb1.out.ext (bdrew w1 1)) (fun hSn => ?_); obtain ⟨wS, hwS⟩ : ∃ x, (w1).drew = x := ⟨_, rfl⟩; have HE := Lib.hid (show Below (w1).heap.size (w1) wS from hwS ▸ bdrew w1 1); rw [hwS] at hSn ⊢; clear hwS
    refine WH.tv 0 rfl (fun w' hSw => exec_load_blk _ _ rfl _ rfl _ _ (hSw) _ (Try.underlying23) rfl (Try.blockFits HbL.out)) ?_; simp only [setL]
    refine WH.tk 1 ?_; simp only [setL]
    refine WH.only 2 _ rfl (by kernel_rfl) rfl (fun K hK => ?_)
    go_simp; refine (qat_any q hq _).mono ?_; rintro e wa ⟨rfl, rfl⟩; go_simp
    have hSn := hSn; refine hK _ _ hSn ?_; clear hK; clear K; simp only [setL]
    refine WH.only 3 _ rfl (by kernel_rfl) rfl (fun K hK => ?_)
    go_simp; refine (nat_any b HbL.out ((2 * q : Nat) : Int) 2 _).mono ?_; rintro e wb ⟨rfl, hbb⟩; go_simp
    have HE := Lib.hid (bt HE.out hbb)
    have hSn := hSn.ext hbb; refine hK _ _ hSn ?_; clear hK; clear K; simp only [setL]
    refine WH.tk 4 ?_; simp only [setL]
    refine WH.done (by kernel_rfl) ?_
    go_wp2_with fail
    go_ret
    rw [H0.out]
    exact ⟨rfl, bt Hg1.out.1 HE.out⟩

set_option maxHeartbeats 1600000 in
theorem qpatch_any (k x : Int) (w : World) :
    Calls Try.prog 17 #[.int .i64 k, .int .i64 x] w (RetPT w (patQ k x) (patE k x)) := by
  have HPN : Hid (∀ w' : World, PV w' ⟨0, []⟩ none 0 0) := Lib.hid fun w' => ⟨by decide, by decide, rfl, Nat.le_refl _, by unfold maxLen; omega, RB.nil_ _ _⟩
  go_enter Try.func17, Try.ntmps17
  go_wp2_with (refine wpList_alloc_row rfl _ rfl _ Try.patchZero ?_)
  apply Stop.go; intro w1 Hg1 Hb1
  have E1 := Lib.hid Hg1.out.1
  have z1 := Lib.hid Hg1.out.2
  clear Hg1
  go_wp2_with fail
  refine (qplace_any k _).mono ?_; rintro e w2 ⟨rfl, rfl⟩
  cases hp : placeQ k
  · have H0 := Lib.hid (patQ_no hp x)
    clear hp
    go_wp2_with (first | refine wpList_store_arr rfl _ _ _ rfl _ #[.int .i64 0, .slice none 0 0] rfl rfl _ _ Hb1.out Try.patchSize rfl (by simp [Value.oneCell']) ?_)
    apply Stop.go; intro wc Hoc Hbc
    go_wp2_with ((with_reducible show bodyPost _ _ _ _ _ _); refine bodyPost_struct_tmp rfl _ rfl _ _ Hbc.out _ Try.underlying39 rfl Try.patchSize rfl _ rfl ?_)
    apply Stop.go
    rw [H0.out.1, H0.out.2]
    exact ⟨none, 0, 0, rfl, HPN.out _, bonly E1.out Hoc.out (Nat.le_refl _)⟩
  · have Hp := Lib.hid hp
    obtain ⟨q, hq, rfl⟩ := placeQ_true hp
    clear hp
    go_wp2_with fail
    refine (qshort_any x _).mono ?_; rintro e w2 ⟨rfl, rfl⟩
    cases hx : shortB x
    · have H0 := Lib.hid (patQ_not Hp.out hx)
      clear hx
      go_wp2_with (first | refine wpList_store_arr rfl _ _ _ rfl _ #[.int .i64 0, .slice none 0 0] rfl rfl _ _ Hb1.out Try.patchSize rfl (by simp [Value.oneCell']) ?_)
      apply Stop.go; intro wc Hoc Hbc
      go_wp2_with ((with_reducible show bodyPost _ _ _ _ _ _); refine bodyPost_struct_tmp rfl _ rfl _ _ Hbc.out _ Try.underlying39 rfl Try.patchSize rfl _ rfl ?_)
      apply Stop.go
      rw [H0.out.1, H0.out.2]
      exact ⟨none, 0, 0, rfl, HPN.out _, bonly E1.out Hoc.out (Nat.le_refl _)⟩
    · have H0 := Lib.hid (patQ_yes Hp.out hx)
      obtain ⟨hx0, hx1⟩ := short_iff.1 hx
      obtain ⟨v, rfl⟩ := Int.eq_ofNat_of_zero_le hx0
      have hv : v < 65536 := by omega
      have Hpl := Lib.hid (show putL (zeros 2) 0 2 v = leBytes 2 v by unfold putL; rw [if_pos (by decide)]; exact splice_all _ _ (by rw [leBytes_len, zeros_len]; rfl))
      have Hf : fitsB ((2 : Nat) : Int) 0 2 8 = true := by decide
      have hw : IntKind.u64.wrap (v : Int) = (v : Int) := IntWalk.u64_in _ (by omega)
      clear hx hx0 hx1
      go_wp2_with (refine wpList_make_bytes rfl _ _ _ _ rfl Try.underlying26 Try.byteInfo _ _ _ _ 2 rfl rfl rfl rfl (by omega) ?_)
      apply Stop.go; intro w3 Hg3 Hb3
      have HR3 := Lib.hid (Hb1.out.ext Hg3.out.1)
      have E3 := Lib.hid (bt E1.out Hg3.out.1)
      have HZ3 := Lib.hid (RB.of_blk0 Hb3.out)
      have z3 := Lib.hid (show w.heap.size < w3.heap.size from HR3.out.lt)
      clear Hg3 Hb3 Hb1 E1
      go_wp2_with fail
      refine (nput_any _ 2 2 (zeros 2) (zeros_len 2) (by omega) 0 2 v (by omega) _ HZ3.out).mono ?_; rintro e w4 ⟨A4, n4, c4, rfl, hl4, hc4, hm4, hr4, hb4⟩
      rw [Hpl.out] at hl4 hr4
      obtain rfl : n4 = 2 := by rw [← hl4, leBytes_len]
      have HR4 := Lib.hid (HR3.out.ext hb4)
      have E4 := Lib.hid (bt E3.out hb4)
      have HD4 := Lib.hid hr4
      have HC4 := Lib.hid (And.intro hc4 hm4)
      clear hl4 hc4 hm4 hr4 hb4 HR3 E3 HZ3
      go_wp2_with fail
      refine (qat_any q hq _).mono ?_; rintro e w5 ⟨rfl, rfl⟩
      go_wp2_with (first | refine wpList_store_arr rfl _ _ _ rfl _ #[.int .i64 ((2 * q : Nat) : Int), .slice A4 2 c4] rfl rfl _ _ HR4.out Try.patchSize rfl (by simp [Value.oneCell']) ?_)
      apply Stop.go; intro wc Hoc Hbc
      go_wp2_with ((with_reducible show bodyPost _ _ _ _ _ _); refine bodyPost_struct_tmp rfl _ rfl _ _ Hbc.out _ Try.underlying39 rfl Try.patchSize rfl _ rfl ?_)
      apply Stop.go
      rw [H0.out.1, H0.out.2]
      refine ⟨A4, 2, c4, ?_, ⟨by show _ ≤ 2 * (q : Int); omega, by show 2 * (q : Int) < _; omega, leBytes_len _ _, HC4.out.1, HC4.out.2, ?_⟩, bonly E4.out Hoc.out (Nat.le_refl _)⟩
      · show Ending.returned (.tuple #[.agg #[.int .i64 ((2 * q : Nat) : Int), _], _]) = Ending.returned (.tuple #[.agg #[.int .i64 (2 * (q : Int)), _], _])
        rw [show ((2 * q : Nat) : Int) = 2 * (q : Int) from by omega]
      · exact HD4.out.only_other HR4.out (by simp) Hoc.out

end Go.Proofs.Ytennkfpehdijcaa
