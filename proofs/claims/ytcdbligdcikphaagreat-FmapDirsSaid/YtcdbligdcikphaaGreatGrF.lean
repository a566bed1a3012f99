/-
  Texts of this claim joined: Ix2, Ix3, Ix4.
-/
import Derived.Test.YtcdbligdcikphaaGreatIx1
import Derived.Test.YtcdbligdcikphaaGreatGrC
import Derived.Test.YtcdbligdcikphaaGreatHeldT
import Derived.Deep.CutRange

/-
  Contracts of index's Places, Set, isAlike, Bits.
-/
namespace Go.Proofs.YtcdbligdcikphaaGreat
open Go.RowKit

/-- Places as numbers. -/
def icast (l : List Nat) : List Int := l.map fun i : Nat => ((i : Nat) : Int)
theorem icast_len (l : List Nat) : (icast l).length = l.length := by simp [icast]
theorem icast_snoc (l : List Nat) (i : Nat) : icast (l ++ [i]) = icast l ++ [(i : Int)] := by simp [icast]
theorem icast_get (l : List Nat) (k : Nat) (h : k < l.length) : (icast l)[k]'(by rw [icast_len]; exact h) = ((l[k] : Nat) : Int) := by simp [icast]
/-- Those below k. -/
def clsK (p b k : Nat) : List Nat := (List.range k).filter (fun i => isB b i p)
theorem clsK_succ (p b k : Nat) : clsK p b (k + 1) = if isB b k p then clsK p b k ++ [k] else clsK p b k := by
  unfold clsK
  rw [List.range_succ, List.filter_append]
  cases h : isB b k p <;> simp [h]
theorem clsK_len (p b k : Nat) : (clsK p b k).length ≤ k := by
  unfold clsK
  exact Nat.le_trans (List.length_filter_le _ _) (by rw [List.length_range]; exact Nat.le_refl _)
theorem u32_nat (k : Nat) (h : k < 4294967296) : IntKind.u32.wrap (k : Int) = k := by
  simp [IntKind.wrap, IntKind.bits, IntKind.signed]
  omega





end Go.Proofs.YtcdbligdcikphaaGreat

/-
  Contracts of slices.Index and slices.Contains (of numbers), and of index's isFirst, isWhole, Buckets.
-/
namespace Go.Proofs.YtcdbligdcikphaaGreat
open Go.RowKit

set_option maxHeartbeats 800000 in
theorem sidx_any (A : Option Addr) (n cap : Nat) (l : List Int) (hn : l.length = n) (hm : n ≤ maxLen) (x : Int) (w : World) (hr : RC w A (ivals l)) :
    Calls Tryz.prog 105 #[.slice A n cap, .int .i64 x] w fun e w' => (∃ z : Int, e = .returned (.int .i64 z) ∧ decide (0 ≤ z) = l.contains x) ∧ w = w' := by
  unfold maxLen at hm
  have Hn := Lib.hid hn
  have Hr := Lib.hid hr
  obtain ⟨b, hb⟩ : ∃ b, l.contains x = b := ⟨_, rfl⟩
  rw [hb]
  have Hb := Lib.hid hb
  clear hn hr hb
  go_enter Tryz.func105, Tryz.ntmps105
  go_wp2_with fail
  go_loop [8] (fun i => ∃ k : Nat, k ≤ n ∧ i = .int .i64 k ∧ ∀ j (h : j < l.length), j < k → l[j] ≠ x) (fun i => n - (intOf i).toNat)
  case atStart => exact ⟨0, Nat.zero_le _, rfl, fun j _ h => absurd h (Nat.not_lt_zero _)⟩
  case round =>
    obtain ⟨k, hk, rfl, hno⟩ := hrel
    have Hno := Lib.hid hno
    clear hno
    by_cases hlt : k < n
    · have d1 : decide ((k : Int) < n) = true := by simpa using hlt
      have d2 : decide (k < n) = true := by simpa using hlt
      have hkl : k < l.length := by rw [Hn.out]; exact hlt
      obtain ⟨ad, rfl, hc⟩ := Hr.out.int k hkl
      by_cases g1 : l[k] = x
      · have Ha := Lib.hid (show l.contains x = true by rw [← g1]; simp)
        have e1 : (x == l[k]) = true := by simpa using g1.symm
        clear g1
        go_wp2_with fail
        go_ret
        rw [← Hb.out, Ha.out]
        exact ⟨⟨_, rfl, by simp⟩, rfl⟩
      · have e1 : (x == l[k]) = false := by simpa using Ne.symm g1
        have Ha := Lib.hid g1
        clear g1
        go_wp2_with fail
        refine ⟨⟨k + 1, by omega, by go_num, fun j hj hjk => ?_⟩, by simp [intOf]; omega⟩
        by_cases h : j = k
        · subst h
          exact Ha.out
        · exact Hno.out j hj (by omega)
    · have d1 : decide ((k : Int) < n) = false := by simpa using hlt
      have d2 : decide (k < n) = false := by simpa using hlt
      have Ha := Lib.hid (show l.contains x = false by
        rw [Bool.eq_false_iff]
        intro h
        obtain ⟨j, hj, e⟩ := List.getElem_of_mem (List.contains_iff_mem.1 h)
        exact Hno.out j hj (by have := Hn.out; omega) e)
      go_wp2_with fail
      go_ret
      rw [← Hb.out, Ha.out]
      exact ⟨⟨_, rfl, by decide⟩, rfl⟩

set_option maxHeartbeats 800000 in
theorem scont_any (A : Option Addr) (n cap : Nat) (l : List Int) (hn : l.length = n) (hm : n ≤ maxLen) (x : Int) (b : Bool) (hb : l.contains x = b) (w : World) (hr : RC w A (ivals l)) :
    Calls Tryz.prog 96 #[.slice A n cap, .int .i64 x] w fun e w' => e = .returned (.bool b) ∧ w = w' := by
  have Hr := Lib.hid hr
  subst hb
  clear hr
  go_enter Tryz.func96, Tryz.ntmps96
  go_wp2_with fail
  refine (sidx_any A n cap l hn hm x _ Hr.out).mono ?_; rintro e wx ⟨⟨z, rfl, hz⟩, rfl⟩
  have Hz := Lib.hid hz
  clear hz
  go_wp2_with fail
  go_ret
  rw [← Hz.out]
  exact ⟨rfl, rfl⟩



set_option maxHeartbeats 1600000 in
theorem xbuckets_any (d : Int) (t : List Int) (ht : t.length = 32) (w : World) :
    Calls Tryz.prog 72 #[.agg (icells (d :: t))] w fun e w' => ∃ v, e = .returned v ∧ OwnC w' w.heap.size 3 v (ivals (buckK t (2 ^ dpN d))) ∧ Below w.heap.size w w' := by
  have HL := Lib.hid ht
  have h32 := pow32 (dpN_le d)
  have HM0 := Lib.hid (fun (w : World) => xmany_any d t ht w)
  obtain ⟨M, hM⟩ : ∃ M, 2 ^ dpN d = M := ⟨_, rfl⟩
  rw [hM] at h32 HM0 ⊢
  clear hM
  go_enter Tryz.func72, Tryz.ntmps72
  go_wp2_with (refine wpList_box_row rfl _ _ rfl _ rfl ?_)
  apply Stop.go; intro w1 Hg1 Hb1
  go_wp2_with (refine wpList_load_blk rfl _ _ rfl _ rfl _ _ Hb1.out _ Tryz.underlying43 rfl (Tryz.ixFits HL.out) ?_)
  refine (HM0.out _).mono ?_; rintro e w2 ⟨rfl, hb2⟩
  have E2 := Lib.hid (bt Hg1.out.1 hb2)
  have HB2 := Lib.hid (Hb1.out.ext hb2)
  have Hz := Lib.hid (show w.heap.size < w2.heap.size from HB2.out.lt)
  clear hb2 Hb1 Hg1
  go_wp2_with fail
  go_loopw [3, 8] (fun u i wr => ∃ k : Nat, k ≤ M ∧ i = .int .i64 k ∧ OwnC wr w2.heap.size 3 u (ivals (buckK t k)) ∧ Below w2.heap.size w2 wr) (fun _ i _ => M - (intOf i).toNat)
  case atStart => exact ⟨0, Nat.zero_le _, rfl, OwnC.nil_ _ _ _, Below.refl _ _⟩
  case round =>
    obtain ⟨k, hk, rfl, hu, hbw⟩ := hrel
    have Hu := Lib.hid hu
    have Hbw := Lib.hid hbw
    clear hu hbw
    by_cases hlt : k < M
    · have d0 : decide ((k : Int) < M) = true := by simp; omega
      have d1 : decide (k < M) = true := by simp; omega
      have k0 : 0 ≤ (k : Int) := by omega
      have k1 : (k : Int) < 32 := by omega
      have HBk := Lib.hid (HB2.out.ext Hbw.out)
      have ck := int_cell HBk.out k (by rw [HL.out]; omega)
      have HS := Lib.hid (buckK_succ t k)
      have hlen := buckK_len t k
      have hl1 : (ivals (buckK t k)).length + 1 ≤ maxLen := by rw [ivals_len]; unfold maxLen; omega
      have hl2 : ((ivals (buckK t k)).length + 1) * 8 ≤ 140737488355328 := by rw [ivals_len]; omega
      obtain ⟨x, hx⟩ : ∃ x, fld t k = x := ⟨_, rfl⟩
      rw [hx] at HS ck
      clear hx
      by_cases h0 : x = 0
      · have HN := Lib.hid (show buckK t (k + 1) = buckK t k by rw [HS.out, if_pos h0])
        subst h0
        have d2 : ((0 : Int) != 0) = false := by decide
        clear HS
        go_wp2_with fail
        go_roundw
        case rel => exact ⟨k + 1, by omega, by go_num, by rw [HN.out]; exact Hu.out, Hbw.out⟩
        case measure => simp [intOf]; omega
      · have d2 : (x != 0) = true := by simpa using h0
        obtain ⟨q, Hq⟩ : ∃ q, Hid ((buckK t k).contains x = q) := ⟨_, Lib.hid rfl⟩
        have HS2 := Lib.hid (show buckK t (k + 1) = if q then buckK t k else buckK t k ++ [x] by rw [HS.out, if_neg h0, Hq.out])
        obtain ⟨A, c, rfl, hc1, hc2, hrc⟩ := Hu.out.ints
        have Hrc := Lib.hid hrc
        clear HS h0 hrc
        go_wp2_with fail
        refine (scont_any A _ c (buckK t k) rfl (by unfold maxLen; omega) x q Hq.out _ Hrc.out).mono ?_; rintro e wx ⟨rfl, rfl⟩
        cases q
        · have HN := Lib.hid (show buckK t (k + 1) = buckK t k ++ [x] by rw [HS2.out]; rfl)
          clear HS2
          go_wp2_with (at_builtin; refine wpList_append_one rfl _ _ _ _ rfl Tryz.underlying50 (.int .i64 0) 8 Tryz.intInfo rfl w2.heap.size _ _ rfl Hu.out (.int .i64 x) rfl rfl Hbw.out.size hl1 hl2 ?_)
          apply Stop.go
          intro v' w4 Hv' Ha'
          go_wp2_with fail
          go_roundw
          case rel => exact ⟨k + 1, by omega, by go_num, by rw [HN.out, ← ivals_snoc]; exact Hv'.out, Hbw.out.trans Ha'.out.below⟩
          case measure => simp [intOf]; omega
        · have HN := Lib.hid (show buckK t (k + 1) = buckK t k by rw [HS2.out]; rfl)
          clear HS2
          go_wp2_with fail
          go_roundw
          case rel => exact ⟨k + 1, by omega, by go_num, by rw [HN.out]; exact Hu.out, Hbw.out⟩
          case measure => simp [intOf]; omega
    · obtain rfl : k = M := by omega
      have d0 : decide ((k : Int) < k) = false := by simp
      go_wp2_with fail
      go_ret
      exact ⟨_, rfl, Hu.out.low (Nat.le_of_lt Hz.out), bt E2.out Hbw.out⟩

end Go.Proofs.YtcdbligdcikphaaGreat

/-
  Contracts of index's Double, Fix, Right.
-/
namespace Go.Proofs.YtcdbligdcikphaaGreat
open Go.RowKit




end Go.Proofs.YtcdbligdcikphaaGreat
