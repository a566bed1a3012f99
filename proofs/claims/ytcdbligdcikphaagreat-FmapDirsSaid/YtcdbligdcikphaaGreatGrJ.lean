/-
  Texts of this claim joined: Rf1, Rf2, Rf4, Rf5.
-/
import Derived.Test.YtcdbligdcikphaaGreatGrF
import Derived.Test.YtcdbligdcikphaaGreatIn9

/-
  Contracts of the document's answer 19: Pow, Deep, Is, Fine, Places, Buckets.
-/
namespace Go.Proofs.YtcdbligdcikphaaGreat
open Go.RowKit

theorem Tryz.rxSize : (Tryz.prog.info? 46).map (·.size) = some 33 := by kernel_rfl
theorem Tryz.rxZero : (Tryz.prog.info? 46).map (·.zero) = some (some (.agg (icells (0 :: zeroT)))) := by kernel_rfl
theorem Tryz.rxFits {d : Int} {t : List Int} (h : t.length = 32) : (Tryz.prog.info? 46).map (·.size) = some (icells (d :: t)).size := by rw [icells_size, List.length_cons, h]; exact Tryz.rxSize
theorem Tryz.rxBuilt0 : Tryz.prog.built 46 [] = some (icells (0 :: zeroT)) := by kernel_rfl
theorem Tryz.rxBuilt1 (d : Int) : Tryz.prog.built 46 [(0, .int .i64 d)] = some (icells (d :: zeroT)) := by kernel_rfl

set_option maxHeartbeats 400000 in
theorem rpow_any (n : Nat) (hn : n ≤ 5) (w : World) : Calls Tryz.prog 70 #[.int .i64 n] w fun e w' => e = .returned (.int .i64 ((2 ^ n : Nat) : Int)) ∧ w = w' := by
  obtain ⟨R, HR⟩ : ∃ R, Hid (2 ^ n = R) := ⟨_, Lib.hid rfl⟩
  rw [HR.out]
  go_enter Tryz.func70, Tryz.ntmps70
  go_wp2
  go_loop [3, 4] (fun v i => ∃ k : Nat, k ≤ n ∧ i = .int .i64 k ∧ v = .int .i64 ((2 ^ k : Nat) : Int)) (fun _ i => n - (intOf i).toNat)
  case atStart => exact ⟨0, Nat.zero_le _, rfl, rfl⟩
  case round =>
    obtain ⟨k, hk, rfl, rfl⟩ := hrel
    by_cases hlt : k < n
    · have d1 : decide ((k : Int) < n) = true := by simp; omega
      have d2 : decide (k < n) = true := by simp; omega
      have hp := pow32 (show k ≤ 5 by omega)
      have HP := Lib.hid (Nat.pow_succ 2 k)
      generalize 2 ^ k = K at *
      go_wp2
      go_round
      case rel => exact ⟨k + 1, by omega, by go_num, by rw [HP.out]; go_num⟩
      case measure => simp [intOf]; omega
    · obtain rfl : k = n := by omega
      have d1 : decide ((k : Int) < k) = false := by simp
      rw [HR.out]
      go_wp2
      go_ret
      exact ⟨rfl, rfl⟩

set_option maxHeartbeats 400000 in
theorem rdeep_any (d : Int) (t : List Int) (w : World) :
    Calls Tryz.prog 73 #[.agg (icells (d :: t))] w fun e w' => e = .returned (.int .i64 (dpN d : Nat)) ∧ Below w.heap.size w w' := by
  obtain ⟨D, HD⟩ : ∃ D, Hid (dpN d = D) := ⟨_, Lib.hid rfl⟩
  have HDD := Lib.hid (show D = (max 0 (min d 5)).toNat by rw [← HD.out]; rfl)
  rw [HD.out]
  go_enter Tryz.func73, Tryz.ntmps73
  go_wp2_with (refine wpList_box_row rfl _ _ rfl _ rfl ?_)
  apply Stop.go; intro w1 Hg1 Hb1
  have c0 := dep_cell Hb1.out
  go_wp2
  all_goals
    go_ret
    refine ⟨congrArg (fun x => Ending.returned (.int .i64 x)) ?_, Hg1.out.1⟩
    rw [HDD.out]
    omega

set_option maxHeartbeats 400000 in
theorem rfine_any (n : Int) (w : World) : Calls Tryz.prog 95 #[.int .i64 n] w fun e w' => e = .returned (.bool (shortB n)) ∧ w = w' := by
  by_cases h : 0 ≤ n
  · go_enter Tryz.func95, Tryz.ntmps95
    go_wp2
    go_ret
    simp [h, shortB]
  · go_enter Tryz.func95, Tryz.ntmps95
    go_wp2
    go_ret
    simp [shortB]
    omega


end Go.Proofs.YtcdbligdcikphaaGreat

/-
  Contracts of the document's answer 19: Places, Buckets. Written by wip/tools/gen19/rf2.py.
-/
namespace Go.Proofs.YtcdbligdcikphaaGreat
open Go.RowKit


set_option maxHeartbeats 1600000 in
theorem rbuckets_any (d : Int) (t : List Int) (ht : t.length = 32) (w : World) :
    Calls Tryz.prog 34 #[.agg (icells (d :: t))] w fun e w' => ∃ v, e = .returned v ∧ OwnC w' w.heap.size 3 v (ivals (buckK t (2 ^ dpN d))) ∧ Below w.heap.size w w' := by
  have HL := Lib.hid ht
  have h5 := dpN_le d
  have h32 := pow32 h5
  have HDp := Lib.hid (fun (w : World) => rdeep_any d t w)
  have HPow := Lib.hid (fun (w : World) => rpow_any (dpN d) h5 w)
  obtain ⟨D, hD⟩ : ∃ D, dpN d = D := ⟨_, rfl⟩
  rw [hD] at HDp HPow h32 ⊢
  obtain ⟨M, hM⟩ : ∃ M, 2 ^ D = M := ⟨_, rfl⟩
  rw [hM] at HPow h32 ⊢
  clear h5 hD hM
  go_enter Tryz.func34, Tryz.ntmps34
  go_wp2_with (refine wpList_box_row rfl _ _ rfl _ rfl ?_)
  apply Stop.go; intro w1 Hg1 Hb1
  have Hz := Lib.hid (show w.heap.size < w1.heap.size from Hb1.out.lt)
  go_wp2_with fail
  go_loopw [3, 4] (fun u i wr => ∃ k : Nat, k ≤ M ∧ i = .int .i64 k ∧ OwnC wr w1.heap.size 3 u (ivals (buckK t k)) ∧ Below w1.heap.size w1 wr) (fun _ i _ => M - (intOf i).toNat)
  case atStart => exact ⟨0, Nat.zero_le _, rfl, OwnC.nil_ _ _ _, Below.refl _ _⟩
  case round =>
    obtain ⟨k, hk, rfl, hu, hbw⟩ := hrel
    have Hu0 := Lib.hid hu
    have Hbw0 := Lib.hid hbw
    have HB0 := Lib.hid (Hb1.out.ext hbw)
    clear hu hbw
    go_wp2_with (refine wpList_load_blk rfl _ _ rfl _ rfl _ _ HB0.out _ Tryz.underlying46 rfl (Tryz.rxFits HL.out) ?_)
    refine (HDp.out _).mono ?_; rintro e wa ⟨rfl, hba⟩
    have Hu := Lib.hid (Hu0.out.ext hba)
    have Hbw := Lib.hid (bt Hbw0.out hba)
    have HBk := Lib.hid (HB0.out.ext hba)
    clear hba HB0 Hu0 Hbw0
    go_wp2_with fail
    refine (HPow.out _).mono ?_; rintro e wx ⟨rfl, rfl⟩
    by_cases hlt : k < M
    · have d0 : decide ((k : Int) < M) = true := by simp; omega
      have d1 : decide (k < M) = true := by simp; omega
      have k0 : 0 ≤ (k : Int) := by omega
      have k1 : (k : Int) < 32 := by omega
      have ck := int_cell HBk.out k (by rw [HL.out]; omega)
      have HS := Lib.hid (buckK_succ t k)
      have hlen := buckK_len t k
      have hl1 : (ivals (buckK t k)).length + 1 ≤ maxLen := by rw [ivals_len]; unfold maxLen; omega
      have hl2 : ((ivals (buckK t k)).length + 1) * 8 ≤ 140737488355328 := by rw [ivals_len]; omega
      obtain ⟨x, hx⟩ : ∃ x, fld t k = x := ⟨_, rfl⟩
      rw [hx] at HS ck
      clear hx
      by_cases h0 : x = 0
      · have HN := Lib.hid (show buckK t (k + 1) = buckK t k by rw [HS.out, if_pos h0])
        subst h0
        have d2 : ((0 : Int) != 0) = false := by decide
        clear HS
        go_wp2_with fail
        go_roundw
        case rel => exact ⟨k + 1, by omega, by go_num, by rw [HN.out]; exact Hu.out, Hbw.out⟩
        case measure => simp [intOf]; omega
      · have d2 : (x != 0) = true := by simpa using h0
        obtain ⟨q, hq⟩ : ∃ q, (buckK t k).contains x = q := ⟨_, rfl⟩
        have HS2 := Lib.hid (show buckK t (k + 1) = if q then buckK t k else buckK t k ++ [x] by rw [HS.out, if_neg h0, hq])
        obtain ⟨A, c, rfl, hc1, hc2, hrc⟩ := Hu.out.ints
        have HIn := Lib.hid (rin9_any A _ c (buckK t k) rfl (by unfold maxLen; omega) x _ hrc)
        rw [hq] at HIn
        clear HS h0 hrc hq
        go_wp2_with fail
        refine (HIn.out).mono ?_; rintro e wx ⟨rfl, rfl⟩
        cases q
        · have HN := Lib.hid (show buckK t (k + 1) = buckK t k ++ [x] by rw [HS2.out]; rfl)
          clear HS2 HIn
          go_wp2_with (at_builtin; refine wpList_append_one rfl _ _ _ _ rfl Tryz.underlying50 (.int .i64 0) 8 Tryz.intInfo rfl w1.heap.size _ _ rfl Hu.out (.int .i64 x) rfl rfl Hbw.out.size hl1 hl2 ?_)
          apply Stop.go
          intro v' w4 Hv' Ha'
          go_wp2_with fail
          go_roundw
          case rel => exact ⟨k + 1, by omega, by go_num, by rw [HN.out, ← ivals_snoc]; exact Hv'.out, Hbw.out.trans Ha'.out.below⟩
          case measure => simp [intOf]; omega
        · have HN := Lib.hid (show buckK t (k + 1) = buckK t k by rw [HS2.out]; rfl)
          clear HS2 HIn
          go_wp2_with fail
          go_roundw
          case rel => exact ⟨k + 1, by omega, by go_num, by rw [HN.out]; exact Hu.out, Hbw.out⟩
          case measure => simp [intOf]; omega
    · obtain rfl : k = M := by omega
      have d0 : decide ((k : Int) < k) = false := by simp
      go_wp2_with fail
      go_ret
      exact ⟨_, rfl, Hu.out.low (Nat.le_of_lt Hz.out), bt Hg1.out.1 Hbw.out⟩

end Go.Proofs.YtcdbligdcikphaaGreat

/-
  The contract of the document's answer 19: Class.
-/
namespace Go.Proofs.YtcdbligdcikphaaGreat
open Go.RowKit

/-- Of the first k places: have just those of the class the block? -/
def wbK (t : List Int) (v : Int) (F b k : Nat) : Bool := (List.range k).all fun i => (fld t i == v) == isB b i F
theorem wbK_succ (t : List Int) (v : Int) (F b k : Nat) : wbK t v F b (k + 1) = (wbK t v F b k && ((fld t k == v) == isB b k F)) := by
  unfold wbK
  rw [List.range_succ, List.all_append]
  simp

/-- The first place, once it is passed. -/
def fFst (F k : Nat) : Int := if F < k then (F : Int) else -1
theorem fFst_lo {F k : Nat} (h : ¬ F < k) : fFst F k = -1 := if_neg h
theorem fFst_hi {F k : Nat} (h : F < k) : fFst F k = F := if_pos h


end Go.Proofs.YtcdbligdcikphaaGreat

/-
  Contracts of the document's answer 19: Fix, Right.
-/
namespace Go.Proofs.YtcdbligdcikphaaGreat
open Go.RowKit

/-- The document's way: what is kept of the first k places, and noughts. -/
def docF (D : Nat) (t : List Int) (k i : Nat) : Int := if i < k then (if keepB D t i then fld t i else 0) else 0
def docK (D : Nat) (t : List Int) (k : Nat) : List Int := mapT (docF D t k)
theorem docK_len (D : Nat) (t : List Int) (k : Nat) : (docK D t k).length = 32 := mapT_len _
theorem docK_zero (D : Nat) (t : List Int) : docK D t 0 = zeroT := by
  unfold docK zeroT docF
  simp
theorem docK_end (D : Nat) (t : List Int) : docK D t (2 ^ D) = xfixT D t := by
  refine ext32 (mapT_len _) (xfixT_len _ _) fun i hi => ?_
  unfold docK
  rw [mapT_at _ i hi, xfixT_at D t i hi]
  rfl
theorem docK_skip {D : Nat} {t : List Int} {k : Nat} (h : fld t k = 0 ∨ keepB D t k = false) : docK D t (k + 1) = docK D t k := by
  refine ext32 (mapT_len _) (mapT_len _) fun i hi => ?_
  unfold docK
  rw [mapT_at _ i hi, mapT_at _ i hi]
  unfold docF
  by_cases e : i = k
  · subst e
    rw [if_pos (show i < i + 1 by omega), if_neg (show ¬ i < i by omega)]
    rcases h with h | h
    · rw [h]; simp
    · rw [h]; rfl
  · simp only [show i < k + 1 ↔ i < k by omega]
theorem docK_put {D : Nat} {t : List Int} {k : Nat} (hk : k < 32) (h : keepB D t k = true) : (docK D t k).set k (fld t k) = docK D t (k + 1) := by
  refine mapT_set _ _ k _ hk fun i _ => ?_
  unfold docF
  by_cases e : i = k
  · subst e
    rw [if_pos (show i < i + 1 by omega), if_pos h, if_pos rfl]
  · simp only [show i < k + 1 ↔ i < k by omega, if_neg e]
/-- Of the first k places: has none the block of place i? -/
def fstK (t : List Int) (i k : Nat) : Bool := (List.range k).all fun j => !(fld t j == fld t i)
theorem fstK_succ (t : List Int) (i k : Nat) : fstK t i (k + 1) = (fstK t i k && (fld t k != fld t i)) := by
  unfold fstK
  rw [List.range_succ, List.all_append]
  simp [bne]



end Go.Proofs.YtcdbligdcikphaaGreat
