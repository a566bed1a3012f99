/-
  Texts of this claim joined: Ix2, Ix3, Ix4, Ix5, Ix6.
-/
import Derived.Test.YtkakihbfhmiabaaGreatGrAO
import Derived.Test.YtkakihbfhmiabaaGreatGrAC
import Derived.Test.YtkakihbfhmiabaaGreatGrAS
import Derived.Deep.CutRange
import Derived.Test.YtkakihbfhmiabaaGreatGrBC

/-
  Contracts of index's Places, Set, isAlike, Bits.
-/
namespace Go.Proofs.YtkakihbfhmiabaaGreat
open Go.RowKit

/-- Places as numbers. -/
def icast (l : List Nat) : List Int := l.map fun i : Nat => ((i : Nat) : Int)
theorem icast_len (l : List Nat) : (icast l).length = l.length := by simp [icast]
theorem icast_snoc (l : List Nat) (i : Nat) : icast (l ++ [i]) = icast l ++ [(i : Int)] := by simp [icast]
theorem icast_get (l : List Nat) (k : Nat) (h : k < l.length) : (icast l)[k]'(by rw [icast_len]; exact h) = ((l[k] : Nat) : Int) := by simp [icast]
/-- Those below k. -/
def clsK (p b k : Nat) : List Nat := (List.range k).filter (fun i => isB b i p)
theorem clsK_succ (p b k : Nat) : clsK p b (k + 1) = if isB b k p then clsK p b k ++ [k] else clsK p b k := by
  unfold clsK
  rw [List.range_succ, List.filter_append]
  cases h : isB b k p <;> simp [h]
theorem clsK_len (p b k : Nat) : (clsK p b k).length ≤ k := by
  unfold clsK
  exact Nat.le_trans (List.length_filter_le _ _) (by rw [List.length_range]; exact Nat.le_refl _)
theorem u32_nat (k : Nat) (h : k < 4294967296) : IntKind.u32.wrap (k : Int) = k := by
  simp [IntKind.wrap, IntKind.bits, IntKind.signed]
  omega





end Go.Proofs.YtkakihbfhmiabaaGreat

/-
  Contracts of slices.Index and slices.Contains (of numbers), and of index's isFirst, isWhole, Buckets.
-/
namespace Go.Proofs.YtkakihbfhmiabaaGreat
open Go.RowKit

set_option maxHeartbeats 800000 in
theorem sidx_any (A : Option Addr) (n cap : Nat) (l : List Int) (hn : l.length = n) (hm : n ≤ maxLen) (x : Int) (w : World) (hr : RC w A (ivals l)) :
    Calls Tryz.prog 213 #[.slice A n cap, .int .i64 x] w fun e w' => (∃ z : Int, e = .returned (.int .i64 z) ∧ decide (0 ≤ z) = l.contains x) ∧ w = w' := by
  unfold maxLen at hm
  have Hn := Lib.hid hn
  have Hr := Lib.hid hr
  obtain ⟨b, hb⟩ : ∃ b, l.contains x = b := ⟨_, rfl⟩
  rw [hb]
  have Hb := Lib.hid hb
  clear hn hr hb
  go_enter Tryz.func213, Tryz.ntmps213
  go_wp2_with fail
  go_loop [8] (fun i => ∃ k : Nat, k ≤ n ∧ i = .int .i64 k ∧ ∀ j (h : j < l.length), j < k → l[j] ≠ x) (fun i => n - (intOf i).toNat)
  case atStart => exact ⟨0, Nat.zero_le _, rfl, fun j _ h => absurd h (Nat.not_lt_zero _)⟩
  case round =>
    obtain ⟨k, hk, rfl, hno⟩ := hrel
    have Hno := Lib.hid hno
    clear hno
    by_cases hlt : k < n
    · have d1 : decide ((k : Int) < n) = true := by simpa using hlt
      have d2 : decide (k < n) = true := by simpa using hlt
      have hkl : k < l.length := by rw [Hn.out]; exact hlt
      obtain ⟨ad, rfl, hc⟩ := Hr.out.int k hkl
      by_cases g1 : l[k] = x
      · have Ha := Lib.hid (show l.contains x = true by rw [← g1]; simp)
        have e1 : (x == l[k]) = true := by simpa using g1.symm
        clear g1
        go_wp2_with fail
        go_ret
        rw [← Hb.out, Ha.out]
        exact ⟨⟨_, rfl, by simp⟩, rfl⟩
      · have e1 : (x == l[k]) = false := by simpa using Ne.symm g1
        have Ha := Lib.hid g1
        clear g1
        go_wp2_with fail
        refine ⟨⟨k + 1, by omega, by go_num, fun j hj hjk => ?_⟩, by simp [intOf]; omega⟩
        by_cases h : j = k
        · subst h
          exact Ha.out
        · exact Hno.out j hj (by omega)
    · have d1 : decide ((k : Int) < n) = false := by simpa using hlt
      have d2 : decide (k < n) = false := by simpa using hlt
      have Ha := Lib.hid (show l.contains x = false by
        rw [Bool.eq_false_iff]
        intro h
        obtain ⟨j, hj, e⟩ := List.getElem_of_mem (List.contains_iff_mem.1 h)
        exact Hno.out j hj (by have := Hn.out; omega) e)
      go_wp2_with fail
      go_ret
      rw [← Hb.out, Ha.out]
      exact ⟨⟨_, rfl, by decide⟩, rfl⟩

set_option maxHeartbeats 800000 in
theorem scont_any (A : Option Addr) (n cap : Nat) (l : List Int) (hn : l.length = n) (hm : n ≤ maxLen) (x : Int) (b : Bool) (hb : l.contains x = b) (w : World) (hr : RC w A (ivals l)) :
    Calls Tryz.prog 209 #[.slice A n cap, .int .i64 x] w fun e w' => e = .returned (.bool b) ∧ w = w' := by
  have Hr := Lib.hid hr
  subst hb
  clear hr
  go_enter Tryz.func209, Tryz.ntmps209
  go_wp2_with fail
  refine (sidx_any A n cap l hn hm x _ Hr.out).mono ?_; rintro e wx ⟨⟨z, rfl, hz⟩, rfl⟩
  have Hz := Lib.hid hz
  clear hz
  go_wp2_with fail
  go_ret
  rw [← Hz.out]
  exact ⟨rfl, rfl⟩



set_option maxHeartbeats 1600000 in
theorem xbuckets_any (d : Int) (t : List Int) (ht : t.length = 32) (w : World) :
    Calls Tryz.prog 200 #[.agg (icells (d :: t))] w fun e w' => ∃ v, e = .returned v ∧ OwnC w' w.heap.size 3 v (ivals (buckK t (2 ^ dpN d))) ∧ Below w.heap.size w w' := by
  have HL := Lib.hid ht
  have h32 := pow32 (dpN_le d)
  have HM0 := Lib.hid (fun (w : World) => xmany_any d t ht w)
  obtain ⟨M, hM⟩ : ∃ M, 2 ^ dpN d = M := ⟨_, rfl⟩
  rw [hM] at h32 HM0 ⊢
  clear hM
  go_enter Tryz.func200, Tryz.ntmps200
  go_wp2_with (refine wpList_box_row rfl _ _ rfl _ rfl ?_)
  apply Stop.go; intro w1 Hg1 Hb1
  go_wp2_with (refine wpList_load_blk rfl _ _ rfl _ rfl _ _ Hb1.out _ Tryz.underlying102 rfl (Tryz.ixFits HL.out) ?_)
  refine (HM0.out _).mono ?_; rintro e w2 ⟨rfl, hb2⟩
  have E2 := Lib.hid (bt Hg1.out.1 hb2)
  have HB2 := Lib.hid (Hb1.out.ext hb2)
  have Hz := Lib.hid (show w.heap.size < w2.heap.size from HB2.out.lt)
  clear hb2 Hb1 Hg1
  go_wp2_with fail
  go_loopw [3, 8] (fun u i wr => ∃ k : Nat, k ≤ M ∧ i = .int .i64 k ∧ OwnC wr w2.heap.size 3 u (ivals (buckK t k)) ∧ Below w2.heap.size w2 wr) (fun _ i _ => M - (intOf i).toNat)
  case atStart => exact ⟨0, Nat.zero_le _, rfl, OwnC.nil_ _ _ _, Below.refl _ _⟩
  case round =>
    obtain ⟨k, hk, rfl, hu, hbw⟩ := hrel
    have Hu := Lib.hid hu
    have Hbw := Lib.hid hbw
    clear hu hbw
    by_cases hlt : k < M
    · have d0 : decide ((k : Int) < M) = true := by simp; omega
      have d1 : decide (k < M) = true := by simp; omega
      have k0 : 0 ≤ (k : Int) := by omega
      have k1 : (k : Int) < 32 := by omega
      have HBk := Lib.hid (HB2.out.ext Hbw.out)
      have ck := int_cell HBk.out k (by rw [HL.out]; omega)
      have HS := Lib.hid (buckK_succ t k)
      have hlen := buckK_len t k
      have hl1 : (ivals (buckK t k)).length + 1 ≤ maxLen := by rw [ivals_len]; unfold maxLen; omega
      have hl2 : ((ivals (buckK t k)).length + 1) * 8 ≤ 140737488355328 := by rw [ivals_len]; omega
      obtain ⟨x, hx⟩ : ∃ x, fld t k = x := ⟨_, rfl⟩
      rw [hx] at HS ck
      clear hx
      by_cases h0 : x = 0
      · have HN := Lib.hid (show buckK t (k + 1) = buckK t k by rw [HS.out, if_pos h0])
        subst h0
        have d2 : ((0 : Int) != 0) = false := by decide
        clear HS
        go_wp2_with fail
        go_roundw
        case rel => exact ⟨k + 1, by omega, by go_num, by rw [HN.out]; exact Hu.out, Hbw.out⟩
        case measure => simp [intOf]; omega
      · have d2 : (x != 0) = true := by simpa using h0
        obtain ⟨q, Hq⟩ : ∃ q, Hid ((buckK t k).contains x = q) := ⟨_, Lib.hid rfl⟩
        have HS2 := Lib.hid (show buckK t (k + 1) = if q then buckK t k else buckK t k ++ [x] by rw [HS.out, if_neg h0, Hq.out])
        obtain ⟨A, c, rfl, hc1, hc2, hrc⟩ := Hu.out.ints
        have Hrc := Lib.hid hrc
        clear HS h0 hrc
        go_wp2_with fail
        refine (scont_any A _ c (buckK t k) rfl (by unfold maxLen; omega) x q Hq.out _ Hrc.out).mono ?_; rintro e wx ⟨rfl, rfl⟩
        cases q
        · have HN := Lib.hid (show buckK t (k + 1) = buckK t k ++ [x] by rw [HS2.out]; rfl)
          clear HS2
          go_wp2_with (at_builtin; refine wpList_append_one rfl _ _ _ _ rfl Tryz.underlying76 (.int .i64 0) 8 Tryz.intInfo rfl w2.heap.size _ _ rfl Hu.out (.int .i64 x) rfl rfl Hbw.out.size hl1 hl2 ?_)
          apply Stop.go
          intro v' w4 Hv' Ha'
          go_wp2_with fail
          go_roundw
          case rel => exact ⟨k + 1, by omega, by go_num, by rw [HN.out, ← ivals_snoc]; exact Hv'.out, Hbw.out.trans Ha'.out.below⟩
          case measure => simp [intOf]; omega
        · have HN := Lib.hid (show buckK t (k + 1) = buckK t k by rw [HS2.out]; rfl)
          clear HS2
          go_wp2_with fail
          go_roundw
          case rel => exact ⟨k + 1, by omega, by go_num, by rw [HN.out]; exact Hu.out, Hbw.out⟩
          case measure => simp [intOf]; omega
    · obtain rfl : k = M := by omega
      have d0 : decide ((k : Int) < k) = false := by simp
      go_wp2_with fail
      go_ret
      exact ⟨_, rfl, Hu.out.low (Nat.le_of_lt Hz.out), bt E2.out Hbw.out⟩

end Go.Proofs.YtkakihbfhmiabaaGreat

/-
  Contracts of index's Double, Fix, Right.
-/
namespace Go.Proofs.YtkakihbfhmiabaaGreat
open Go.RowKit




end Go.Proofs.YtkakihbfhmiabaaGreat

/-
  Contracts of index's Put and Get.
-/
namespace Go.Proofs.YtkakihbfhmiabaaGreat
open Go.RowKit
set_option maxRecDepth 10000

/-- idx! -/
def idxH : List UInt8 := [105, 100, 120, 33]
theorem wrap_in {n : Int} (h : 0 ≤ n ∧ n ≤ 65535) : IntKind.u64.wrap n = (n.toNat : Nat) ∧ n.toNat < 18446744073709551616 := by
  refine ⟨?_, by omega⟩
  rw [IntWalk.u64_in _ (by omega)]
  omega

set_option maxHeartbeats 3200000 in
theorem xput_any (d : Int) (t : List Int) (ht : t.length = 32) (w : World) :
    Calls Tryz.prog 51 #[.agg (icells (d :: t))] w fun e w' => e = .returned (.tuple #[.agg (bcells (outX d t)), .int .i64 (okArg (mayX d t))]) ∧ Below w.heap.size w w' := by
  have HL := Lib.hid ht
  have HzL : Hid ((zeros 256).length = 256) := Lib.hid (zeros_len _)
  obtain ⟨b, Hm⟩ : ∃ b, Hid (mayX d t = b) := ⟨_, Lib.hid rfl⟩
  obtain ⟨RL, HRL⟩ : ∃ RL, Hid (outX d t = RL) := ⟨_, Lib.hid rfl⟩
  have HU := Lib.hid (show RL = if b then putX d t else zeros 256 by rw [← HRL.out]; unfold outX; rw [Hm.out])
  rw [HRL.out, Hm.out]
  go_enter Tryz.func51, Tryz.ntmps51
  go_wp2_with (refine wpList_box_row rfl _ _ rfl _ rfl ?_)
  apply Stop.go; intro w1 Hg1 Hb1
  go_wp2_with (refine wpList_alloc_row rfl _ rfl _ Tryz.blockZero ?_)
  apply Stop.go; intro w2 Hg2 Hb2
  have z1 := Hg1.out.2
  have z2 := Hb2.out.lt
  have HB2 := Lib.hid (Hb1.out.ext Hg2.out.1)
  have E2 := Lib.hid (bt Hg1.out.1 Hg2.out.1)
  have Hz := Lib.hid (show w.heap.size < w1.heap.size ∧ w1.heap.size < w2.heap.size by omega)
  clear z1 z2
  generalize w1.heap.size = g2 at *
  go_wp2_with (refine wpList_load_blk rfl _ _ rfl _ rfl _ _ HB2.out _ Tryz.underlying102 rfl (Tryz.ixFits HL.out) ?_)
  refine (xmay_any d t HL.out _).mono ?_; rintro e w3 ⟨rfl, hb3⟩
  rw [Hm.out]
  have HB3 := Lib.hid (HB2.out.ext hb3)
  have HR3 := Lib.hid (Hb2.out.ext hb3)
  have E3 := Lib.hid (bt E2.out hb3)
  have HO := Lib.hid (show w.heap.size < g2 ∧ g2 < w3.heap.size by have := Hz.out; have := hb3.size; omega)
  clear hb3 HB2 Hb2 E2 Hg1 Hb1 Hg2 Hz
  cases b
  · have HU0 : Hid (RL = zeros 256) := HU
    go_wp2_with (first | refine wpList_build_zero rfl _ rfl _ Tryz.blockZero _ _ Tryz.underlying82 Tryz.byteSize ?_ | refine wpList_store_arr rfl _ _ _ rfl _ _ rfl rfl _ _ HR3.out (Tryz.blockFits HzL.out) rfl (oneCell_bcells _) ?_)
    apply Stop.go; intro w4 Ho4 Hb4
    go_wp2_with ((with_reducible show bodyPost _ _ _ _ _ _); refine bodyPost_cell_tmp rfl _ rfl _ _ Hb4.out _ _ Tryz.underlying82 (Tryz.blockFits HzL.out) rfl _ rfl ?_)
    apply Stop.go
    rw [HU0.out]
    exact ⟨⟨rfl, rfl⟩, bonly E3.out Ho4.out (by have := HO.out; omega)⟩
  · have HU1 : Hid (RL = putX d t) := HU
    have hma := (mayX_at HL.out).1 Hm.out
    have hin := of_decide_eq_true (show decide (0 ≤ d ∧ d ≤ 5) = true from hma.2)
    have HW := Lib.hid (wrap_in (n := d) (by omega))
    have HWN := Lib.hid (fun k (hk : k < 32) => wrap_in (n := fld t k) (of_decide_eq_true (hma.1 k hk)))
    obtain ⟨X0, hX0⟩ : ∃ X0, layL (zeros 256) 0 idxH = X0 := ⟨_, rfl⟩
    have HX0 := Lib.hid hX0
    have HL0 := Lib.hid (show X0.length = 256 by rw [← hX0]; exact layL_len _ _ _ (zeros_len _))
    obtain ⟨X1, hX1⟩ : ∃ X1, walkX d t 0 = X1 := ⟨_, rfl⟩
    have HX1 := Lib.hid (show nwithL X0 4 1 d.toNat = X1 by rw [← hX0, ← hX1]; exact walkX_start d t)
    have HWX := Lib.hid hX1
    have HL1 := Lib.hid (show X1.length = 256 by rw [← hX1]; exact walkX_len HL.out d 0 (by omega))
    have HST := Lib.hid (fun k (hk : k < 32) => walkX_step HL.out d k hk)
    have HLW := Lib.hid (fun k (hk : k ≤ 32) => walkX_len HL.out d k hk)
    have HWE := Lib.hid (walkX_end HL.out d)
    clear hX0 hX1 hma hin HRL HU
    go_upto_region 3 with fail
    go_cut [4] from 11 to 16 (fun v wx => ∃ G, v = .pointer (some ⟨G, 0, none⟩) ∧ Blk wx G 82 (bcells X1) ∧ w3.heap.size ≤ G ∧ Below w3.heap.size w3 wx)
    case first =>
      refine WH.start (S := fun w' : World => Blk w' w.heap.size 102 (icells (d :: t))) [false, false, false, false, false, false, false, false] 8 rfl rfl (by kernel_rfl) (HB3.out.ext (bdrew w3 1)) (fun hSn => ?_); obtain ⟨wS, hwS⟩ : ∃ x, (w3).drew = x := ⟨_, rfl⟩; have HE := Lib.hid (show Below (w3).heap.size (w3) wS from hwS ▸ bdrew w3 1); rw [hwS] at hSn ⊢; clear hwS
      refine WH.tk 3 ?_; simp only [setL]
      refine WH.tv 4 rfl (fun w' hSw => exec_load_cell _ _ rfl ⟨w.heap.size, 0, none⟩ rfl _ (dep_cell hSw) _ Tryz.underlying3 rfl) ?_; simp only [setL]
      refine WH.two 0 6 _ _ rfl rfl (by kernel_rfl) rfl rfl (fun K hK => ?_) (fun K hK => ?_)
      focus (
        have HY := Lib.hid HE.out.size; refine ow_build4 _ _ _ _ _ _ rfl Tryz.underlying26 _ _ Tryz.byteInfo 105 100 120 33 rfl rfl rfl rfl ?_; apply Stop.go; intro a1 HgB HS; have HE := Lib.hid (bt HE.out HgB.out.1); have hSn := hSn.ext HgB.out.1; refine hK _ _ hSn ?_; clear hK; clear K; simp only [setL]
        refine WH.two 1 6 _ _ rfl rfl (by kernel_rfl) rfl rfl (fun K hK => ?_) (fun K hK => ?_)
        focus (
          refine ow_conv_text _ _ _ rfl Tryz.underlying26 Tryz.underlying5 idxH _ _ _ rfl HS.out ?_; apply Stop.go; intro a2 HoC HR; have HE := Lib.hid (bonly HE.out HoC.out HY.out); have hSn := hSn.only HoC.out (by have := HY.out; have := HO.out; omega); refine hK _ _ hSn ?_; clear hK; clear K; simp only [setL]
          refine WH.two 2 6 _ _ rfl rfl (by kernel_rfl) rfl rfl (fun K hK => ?_) (fun K hK => ?_)
          focus (
            go_simp; refine (nof_any _ _ _ idxH rfl _ HR.out).mono ?_; rintro e a3 ⟨rfl, hba⟩; go_simp; rw [HX0.out]; have HE := Lib.hid (bt HE.out hba); have hSn := hSn.ext hba; refine hK _ _ hSn ?_; clear hK; clear K; simp only [setL]
            clear hba
            refine WH.two 5 6 _ _ rfl rfl (by kernel_rfl) rfl rfl (fun K hK => ?_) (fun K hK => ?_)
            focus (
              go_simp; refine (nwith_any X0 HL0.out _ _ _ _ HW.out.1 HW.out.2 _).mono ?_; rintro e a4 ⟨rfl, hba⟩; go_simp; rw [HX1.out]; have HE := Lib.hid (bt HE.out hba); have hSn := hSn.ext hba; refine hK _ _ hSn ?_; clear hK; clear K; simp only [setL]
              clear hba
              refine WH.only 6 _ rfl (by kernel_rfl) rfl (fun K hK => ?_)
              have HZ := Lib.hid HE.out.size; refine ow_alloc _ rfl _ Tryz.blockZero ?_; apply Stop.go; intro a5 HgN HA; have HE := Lib.hid (bt HE.out HgN.out.1); have hSn := hSn.ext HgN.out.1; refine hK _ _ hSn ?_; clear hK; clear K; simp only [setL]
              clear HgN
              refine WH.only 7 _ rfl (by kernel_rfl) rfl (fun K hK => ?_); refine ow_store _ _ _ rfl _ _ rfl rfl _ _ HA.out (Tryz.blockFits HL1.out) (by rw [bcells_size, bcells_size, zeros_len, HL1.out]) (oneCell_bcells _) ?_; apply Stop.go; intro w9 Ho9 HxG; have HE := Lib.hid (bonly HE.out Ho9.out HZ.out); have hSn := hSn.only Ho9.out (by have := HZ.out; have := HO.out; omega); refine hK _ _ hSn ?_; clear hK; clear K; simp only [setL]; refine WH.done (by kernel_rfl) ?_; go_wp2_with fail; go_meet; exact ⟨_, rfl, HxG.out, HZ.out, HE.out⟩)
            focus (
              have HZ := Lib.hid HE.out.size; refine ow_alloc _ rfl _ Tryz.blockZero ?_; apply Stop.go; intro a6 HgN HA; have HE := Lib.hid (bt HE.out HgN.out.1); have hSn := hSn.ext HgN.out.1; refine hK _ _ hSn ?_; clear hK; clear K; simp only [setL]
              clear HgN
              refine WH.only 5 _ rfl (by kernel_rfl) rfl (fun K hK => ?_)
              go_simp; refine (nwith_any X0 HL0.out _ _ _ _ HW.out.1 HW.out.2 _).mono ?_; rintro e a7 ⟨rfl, hba⟩; go_simp; rw [HX1.out]; have HE := Lib.hid (bt HE.out hba); have hSn := hSn.ext hba; refine hK _ _ hSn ?_; clear hK; clear K; simp only [setL]
              have HA := Lib.hid (HA.out.ext hba)
              clear hba
              refine WH.only 7 _ rfl (by kernel_rfl) rfl (fun K hK => ?_); refine ow_store _ _ _ rfl _ _ rfl rfl _ _ HA.out (Tryz.blockFits HL1.out) (by rw [bcells_size, bcells_size, zeros_len, HL1.out]) (oneCell_bcells _) ?_; apply Stop.go; intro w9 Ho9 HxG; have HE := Lib.hid (bonly HE.out Ho9.out HZ.out); have hSn := hSn.only Ho9.out (by have := HZ.out; have := HO.out; omega); refine hK _ _ hSn ?_; clear hK; clear K; simp only [setL]; refine WH.done (by kernel_rfl) ?_; go_wp2_with fail; go_meet; exact ⟨_, rfl, HxG.out, HZ.out, HE.out⟩))
          focus (
            have HZ := Lib.hid HE.out.size; refine ow_alloc _ rfl _ Tryz.blockZero ?_; apply Stop.go; intro a8 HgN HA; have HE := Lib.hid (bt HE.out HgN.out.1); have hSn := hSn.ext HgN.out.1; refine hK _ _ hSn ?_; clear hK; clear K; simp only [setL]
            have HR := Lib.hid (HR.out.below HgN.out.1)
            clear HgN
            refine WH.only 2 _ rfl (by kernel_rfl) rfl (fun K hK => ?_)
            go_simp; refine (nof_any _ _ _ idxH rfl _ HR.out).mono ?_; rintro e a9 ⟨rfl, hba⟩; go_simp; rw [HX0.out]; have HE := Lib.hid (bt HE.out hba); have hSn := hSn.ext hba; refine hK _ _ hSn ?_; clear hK; clear K; simp only [setL]
            have HA := Lib.hid (HA.out.ext hba)
            clear hba
            refine WH.only 5 _ rfl (by kernel_rfl) rfl (fun K hK => ?_)
            go_simp; refine (nwith_any X0 HL0.out _ _ _ _ HW.out.1 HW.out.2 _).mono ?_; rintro e b1 ⟨rfl, hba⟩; go_simp; rw [HX1.out]; have HE := Lib.hid (bt HE.out hba); have hSn := hSn.ext hba; refine hK _ _ hSn ?_; clear hK; clear K; simp only [setL]
            have HA := Lib.hid (HA.out.ext hba)
            clear hba
            refine WH.only 7 _ rfl (by kernel_rfl) rfl (fun K hK => ?_); refine ow_store _ _ _ rfl _ _ rfl rfl _ _ HA.out (Tryz.blockFits HL1.out) (by rw [bcells_size, bcells_size, zeros_len, HL1.out]) (oneCell_bcells _) ?_; apply Stop.go; intro w9 Ho9 HxG; have HE := Lib.hid (bonly HE.out Ho9.out HZ.out); have hSn := hSn.only Ho9.out (by have := HZ.out; have := HO.out; omega); refine hK _ _ hSn ?_; clear hK; clear K; simp only [setL]; refine WH.done (by kernel_rfl) ?_; go_wp2_with fail; go_meet; exact ⟨_, rfl, HxG.out, HZ.out, HE.out⟩))
        focus (
          have HZ := Lib.hid HE.out.size; refine ow_alloc _ rfl _ Tryz.blockZero ?_; apply Stop.go; intro b2 HgN HA; have HE := Lib.hid (bt HE.out HgN.out.1); have hSn := hSn.ext HgN.out.1; refine hK _ _ hSn ?_; clear hK; clear K; simp only [setL]
          have HNE := Lib.hid HS.out.lt
          have HS := Lib.hid (HS.out.ext HgN.out.1)
          clear HgN
          refine WH.only 1 _ rfl (by kernel_rfl) rfl (fun K hK => ?_)
          refine ow_conv_text _ _ _ rfl Tryz.underlying26 Tryz.underlying5 idxH _ _ _ rfl HS.out ?_; apply Stop.go; intro b3 HoC HR; have HE := Lib.hid (bonly HE.out HoC.out HY.out); have hSn := hSn.only HoC.out (by have := HY.out; have := HO.out; omega); refine hK _ _ hSn ?_; clear hK; clear K; simp only [setL]
          have HA := Lib.hid (HA.out.only HoC.out (by have := HNE.out; omega))
          refine WH.only 2 _ rfl (by kernel_rfl) rfl (fun K hK => ?_)
          go_simp; refine (nof_any _ _ _ idxH rfl _ HR.out).mono ?_; rintro e b4 ⟨rfl, hba⟩; go_simp; rw [HX0.out]; have HE := Lib.hid (bt HE.out hba); have hSn := hSn.ext hba; refine hK _ _ hSn ?_; clear hK; clear K; simp only [setL]
          have HA := Lib.hid (HA.out.ext hba)
          clear hba
          refine WH.only 5 _ rfl (by kernel_rfl) rfl (fun K hK => ?_)
          go_simp; refine (nwith_any X0 HL0.out _ _ _ _ HW.out.1 HW.out.2 _).mono ?_; rintro e b5 ⟨rfl, hba⟩; go_simp; rw [HX1.out]; have HE := Lib.hid (bt HE.out hba); have hSn := hSn.ext hba; refine hK _ _ hSn ?_; clear hK; clear K; simp only [setL]
          have HA := Lib.hid (HA.out.ext hba)
          clear hba
          refine WH.only 7 _ rfl (by kernel_rfl) rfl (fun K hK => ?_); refine ow_store _ _ _ rfl _ _ rfl rfl _ _ HA.out (Tryz.blockFits HL1.out) (by rw [bcells_size, bcells_size, zeros_len, HL1.out]) (oneCell_bcells _) ?_; apply Stop.go; intro w9 Ho9 HxG; have HE := Lib.hid (bonly HE.out Ho9.out HZ.out); have hSn := hSn.only Ho9.out (by have := HZ.out; have := HO.out; omega); refine hK _ _ hSn ?_; clear hK; clear K; simp only [setL]; refine WH.done (by kernel_rfl) ?_; go_wp2_with fail; go_meet; exact ⟨_, rfl, HxG.out, HZ.out, HE.out⟩))
      focus (
        have HZ := Lib.hid HE.out.size; refine ow_alloc _ rfl _ Tryz.blockZero ?_; apply Stop.go; intro b6 HgN HA; have HE := Lib.hid (bt HE.out HgN.out.1); have hSn := hSn.ext HgN.out.1; refine hK _ _ hSn ?_; clear hK; clear K; simp only [setL]
        clear HgN
        refine WH.only 0 _ rfl (by kernel_rfl) rfl (fun K hK => ?_)
        have HNE := Lib.hid HA.out.lt
        have HY := Lib.hid HE.out.size; refine ow_build4 _ _ _ _ _ _ rfl Tryz.underlying26 _ _ Tryz.byteInfo 105 100 120 33 rfl rfl rfl rfl ?_; apply Stop.go; intro b7 HgB HS; have HE := Lib.hid (bt HE.out HgB.out.1); have hSn := hSn.ext HgB.out.1; refine hK _ _ hSn ?_; clear hK; clear K; simp only [setL]
        have HA := Lib.hid (HA.out.ext HgB.out.1)
        refine WH.only 1 _ rfl (by kernel_rfl) rfl (fun K hK => ?_)
        refine ow_conv_text _ _ _ rfl Tryz.underlying26 Tryz.underlying5 idxH _ _ _ rfl HS.out ?_; apply Stop.go; intro b8 HoC HR; have HE := Lib.hid (bonly HE.out HoC.out HY.out); have hSn := hSn.only HoC.out (by have := HY.out; have := HO.out; omega); refine hK _ _ hSn ?_; clear hK; clear K; simp only [setL]
        have HA := Lib.hid (HA.out.only HoC.out (by have := HNE.out; omega))
        refine WH.only 2 _ rfl (by kernel_rfl) rfl (fun K hK => ?_)
        go_simp; refine (nof_any _ _ _ idxH rfl _ HR.out).mono ?_; rintro e b9 ⟨rfl, hba⟩; go_simp; rw [HX0.out]; have HE := Lib.hid (bt HE.out hba); have hSn := hSn.ext hba; refine hK _ _ hSn ?_; clear hK; clear K; simp only [setL]
        have HA := Lib.hid (HA.out.ext hba)
        clear hba
        refine WH.only 5 _ rfl (by kernel_rfl) rfl (fun K hK => ?_)
        go_simp; refine (nwith_any X0 HL0.out _ _ _ _ HW.out.1 HW.out.2 _).mono ?_; rintro e c1 ⟨rfl, hba⟩; go_simp; rw [HX1.out]; have HE := Lib.hid (bt HE.out hba); have hSn := hSn.ext hba; refine hK _ _ hSn ?_; clear hK; clear K; simp only [setL]
        have HA := Lib.hid (HA.out.ext hba)
        clear hba
        refine WH.only 7 _ rfl (by kernel_rfl) rfl (fun K hK => ?_); refine ow_store _ _ _ rfl _ _ rfl rfl _ _ HA.out (Tryz.blockFits HL1.out) (by rw [bcells_size, bcells_size, zeros_len, HL1.out]) (oneCell_bcells _) ?_; apply Stop.go; intro w9 Ho9 HxG; have HE := Lib.hid (bonly HE.out Ho9.out HZ.out); have hSn := hSn.only Ho9.out (by have := HZ.out; have := HO.out; omega); refine hK _ _ hSn ?_; clear hK; clear K; simp only [setL]; refine WH.done (by kernel_rfl) ?_; go_wp2_with fail; go_meet; exact ⟨_, rfl, HxG.out, HZ.out, HE.out⟩)
    case rest =>
    obtain ⟨G, rfl, hxg, hg3, hbx⟩ := hcut
    have HX := Lib.hid hxg
    have HBc := Lib.hid (HB3.out.ext hbx)
    have HRc := Lib.hid (HR3.out.ext hbx)
    have Ec := Lib.hid (bt E3.out hbx)
    have HG := Lib.hid (show w.heap.size < g2 ∧ g2 < G by have := HO.out; omega)
    rw [← HWX.out] at HX
    clear hxg hg3 hbx HB3 HR3 E3 HO HX0 HL0 HX1 HL1 HWX HW
    go_wp2_with (refine wpList_load_ino rfl _ _ rfl _ 1 rfl _ _ _ HBc.out (by rw [List.drop_succ_cons, List.drop_zero, List.take_length]) _ Tryz.underlying100 rfl (Tryz.toFits HL.out) ?_)
    go_loopw [5, 6, 19] (fun _ _ i wr => ∃ k : Nat, k ≤ 32 ∧ i = .int .i64 k ∧ Hid (Blk wr G 82 (bcells (walkX d t k))) ∧ Hid (Blk wr g2 82 (bcells (zeros 256))) ∧ Hid (Below w.heap.size w wr)) (fun _ _ i _ => 32 - (intOf i).toNat)
    case atStart => exact ⟨0, Nat.zero_le _, rfl, HX, HRc, Ec⟩
    case round =>
      obtain ⟨k, hk, rfl, HXk, HRk, Ek⟩ := hrel
      by_cases hlt : k < 32
      · have HLk := Lib.hid (HLW.out k (by omega))
        have HLn := Lib.hid (HLW.out (k + 1) (by omega))
        have hsk := HST.out k hlt
        rw [show ((32 + 2 * k : Nat) : Int) = 32 + 2 * (k : Int) from by omega] at hsk
        have HSk := Lib.hid hsk
        clear hsk
        have HWk := Lib.hid (HWN.out k hlt)
        have d0 : decide ((k : Int) < 32) = true := by simp; omega
        clear HWE HLW HST HWN
        go_wp2_with (refine wpList_index_ints rfl _ _ _ rfl _ _ Tryz.underlying100 Tryz.underlying3 Tryz.int1Size t rfl _ _ rfl k rfl hlt (by rw [HL.out]; exact hlt) ?_)
        refine WT.start 5 (S := fun w' : World => Blk w' G 82 (bcells (walkX d t k))) [false, false, false, false, false, false] 6 rfl rfl (by kernel_rfl) (HXk.out.ext (bdrew wr 1)) (fun hSn => ?_); obtain ⟨wS, hwS⟩ : ∃ x, (wr).drew = x := ⟨_, rfl⟩; have HE := Lib.hid (show Below (wr).heap.size (wr) wS from hwS ▸ bdrew wr 1); rw [hwS] at hSn ⊢; clear hwS
        refine WT.tv 0 rfl (fun w' hSw => run_load_arr _ _ rfl _ rfl _ _ hSw _ _ Tryz.underlying82 (Tryz.blockFits HLk.out)) ?_; simp only [setL]
        refine WT.tk 1 ?_; simp only [setL]
        refine WT.tk 3 ?_; simp only [setL]
        refine WT.only 2 _ rfl (by kernel_rfl) rfl (fun K hK => ?_)
        go_simp; refine (xnumberAt_any k (by omega) _).mono ?_; rintro e wa ⟨rfl, rfl⟩; go_simp
        have hSn := hSn; refine hK _ _ hSn ?_; clear hK; clear K; simp only [setL]
        refine WT.only 4 _ rfl (by kernel_rfl) rfl (fun K hK => ?_)
        go_simp; refine (nwith_any (walkX d t k) HLk.out _ _ _ _ HWk.out.1 HWk.out.2 _).mono ?_; rintro e wa ⟨rfl, hba⟩; go_simp
        rw [HSk.out]
        have HE := Lib.hid (bt HE.out hba)
        have hSn := hSn.ext hba; refine hK _ _ hSn ?_; clear hK; clear K; simp only [setL]
        clear hba
        refine WT.last _ rfl (by kernel_rfl) rfl (fun K hK => ?_)
        refine ow_store _ _ _ rfl _ _ rfl rfl _ _ hSn (Tryz.blockFits HLn.out) (by rw [bcells_size, bcells_size, HLn.out, HLk.out]) (oneCell_bcells _) ?_
        apply Stop.go; intro wb Hob Hbb
        have HRb := Lib.hid ((HRk.out.ext HE.out).only Hob.out (by have := HG.out; omega))
        have Eb := Lib.hid (bonly (bt Ek.out HE.out) Hob.out (by have := HG.out; omega))
        refine hK _ _ ?_; clear hK; clear K; simp only [setL]; refine WT.done (by kernel_rfl) ?_
        clear HE hSn Hob HXk HRk Ek
        go_wp2_with fail
        go_roundw
        case rel => exact ⟨k + 1, by omega, by go_num, Hbb, HRb, Eb⟩
        case measure => simp [intOf]; omega
      · obtain rfl : k = 32 := by omega
        have d0 : decide ((32 : Int) < 32) = false := by simp
        have HPL := Lib.hid (putX_len HL.out d)
        rw [HWE.out] at HXk
        clear HLW HST HWN HWE
        go_wp2_with (first | refine wpList_load_arr rfl _ _ rfl _ rfl _ _ HXk.out _ _ Tryz.underlying82 (Tryz.blockFits HPL.out) ?_ | refine wpList_store_arr rfl _ _ _ rfl _ _ rfl rfl _ _ HRk.out (Tryz.blockFits HPL.out) (by rw [bcells_size, bcells_size, HPL.out, HzL.out]) (oneCell_bcells _) ?_)
        apply Stop.go; intro wc Hoc Hbc
        go_wp2_with ((with_reducible show bodyPost _ _ _ _ _ _); refine bodyPost_cell_tmp rfl _ rfl _ _ Hbc.out _ _ Tryz.underlying82 (Tryz.blockFits HPL.out) rfl _ rfl ?_)
        apply Stop.go
        rw [HU1.out]
        exact ⟨⟨rfl, rfl⟩, bonly Ek.out Hoc.out (by have := HG.out; omega)⟩

end Go.Proofs.YtkakihbfhmiabaaGreat

/-
  The contract of index's Get.
-/
namespace Go.Proofs.YtkakihbfhmiabaaGreat
open Go.RowKit
set_option maxRecDepth 10000

theorem getN_in (b : List UInt8) (hb : b.length = 256) (o W : Nat) (h1 : 1 ≤ W) (h4 : W ≤ 4) (hW : o + W ≤ 256) : getN b (o : Nat) (W : Nat) 4 = leV b o W := by
  unfold getN leV
  rw [if_pos (by unfold fitsB; rw [hb]; simp; omega), Int.toNat_natCast, Int.toNat_natCast]
/-- OK, or ErrForm. -/
def formE (b : Bool) : Int := if b then 0 else 14

set_option maxHeartbeats 3200000 in
theorem xget_any (b : List UInt8) (hb : b.length = 256) (w : World) :
    Calls Tryz.prog 173 #[.agg (bcells b)] w fun e w' => e = .returned (.tuple #[.agg (icells (getD_ b :: getT_ b)), .int .i64 (formE (getB b))]) ∧ Below w.heap.size w w' := by
  have HbL := Lib.hid hb
  have HzL := Lib.hid zeroT_len
  have HGL := Lib.hid (gotT_len b)
  have HXL := Lib.hid (gotX_len b)
  have HSt := Lib.hid (gotX_step b)
  obtain ⟨GD, HGD⟩ : ∃ GD, Hid (gotD b = GD) := ⟨_, Lib.hid rfl⟩
  have HN0 := Lib.hid (show ((getN b 4 1 4 : Nat) : Int) = GD by rw [← HGD.out]; exact congrArg (fun x : Nat => (x : Int)) (getN_in b hb 4 1 (by omega) (by omega) (by omega)))
  have HNk := Lib.hid (fun (k : Nat) (hk : k < 32) => show getN b ((32 + 2 * k : Nat) : Int) 2 4 = leV b (32 + 2 * k) 2 from getN_in b hb (32 + 2 * k) 2 (by omega) (by omega) (by omega))
  have HX0 := Lib.hid (gotX_zero b)
  obtain ⟨GT, HGT⟩ : ∃ GT, Hid (gotT b = GT) := ⟨_, Lib.hid rfl⟩
  have HXE := Lib.hid (show gotX b 32 = GT from HGT.out)
  rw [HGT.out] at HGL
  obtain ⟨RD, HRD⟩ : ∃ RD, Hid (getD_ b = RD) := ⟨_, Lib.hid rfl⟩
  obtain ⟨RT, HRT⟩ : ∃ RT, Hid (getT_ b = RT) := ⟨_, Lib.hid rfl⟩
  obtain ⟨rb, HRB⟩ : ∃ rb, Hid (getB b = rb) := ⟨_, Lib.hid rfl⟩
  have HQ := Lib.hid (show rb = (mayX GD GT && (putX GD GT == b && shortT (dpN GD) GT == GT)) by rw [← HRB.out, ← HGD.out, ← HGT.out]; rfl)
  have HQD := Lib.hid (show RD = if rb then GD else 0 by rw [← HRD.out, ← HGD.out, ← HRB.out]; rfl)
  have HQT := Lib.hid (show RT = if rb then GT else zeroT by rw [← HRT.out, ← HGT.out, ← HRB.out]; rfl)
  rw [HRD.out, HRT.out, HRB.out]
  clear HRD HRT HRB HGD HGT
  go_enter Tryz.func173, Tryz.ntmps173
  go_wp2_with (refine wpList_box_row rfl _ _ rfl _ rfl ?_)
  apply Stop.go; intro w1 Hg1 Hb1
  go_wp2_with (refine wpList_alloc_row rfl _ rfl _ Tryz.ixZero ?_)
  apply Stop.go; intro w2 Hg2 Hb2
  have z1 := Hg1.out.2
  have z2 := Hb2.out.lt
  have HB2 := Lib.hid (Hb1.out.ext Hg2.out.1)
  have E2 := Lib.hid (bt Hg1.out.1 Hg2.out.1)
  have Hz := Lib.hid (show w.heap.size < w1.heap.size ∧ w1.heap.size < w2.heap.size by omega)
  clear z1 z2
  generalize w1.heap.size = g2 at *
  go_wp2_with (refine wpList_load_arr rfl _ _ rfl _ rfl _ _ HB2.out _ _ Tryz.underlying82 (Tryz.blockFits HbL.out) ?_)
  refine (nat_any b HbL.out 4 1 _).mono ?_; rintro e w3 ⟨rfl, hb3⟩
  rw [HN0.out]
  have HB3 := Lib.hid (HB2.out.ext hb3)
  have HR3 := Lib.hid (Hb2.out.ext hb3)
  have E3 := Lib.hid (bt E2.out hb3)
  have HO := Lib.hid (show w.heap.size < g2 ∧ g2 < w3.heap.size by have := Hz.out; have := hb3.size; omega)
  clear hb3 HB2 Hb2 E2 Hg1 Hb1 Hg2 Hz
  go_wp2_with (first | refine wpList_build_1 rfl _ _ _ rfl _ rfl _ (Tryz.ixBuilt1 GD) ?_ | refine wpList_alloc_row rfl _ rfl _ Tryz.ixZero ?_)
  apply Stop.go; intro w4 Hg4 Hb4
  go_wp2_with (refine wpList_store_arr rfl _ _ _ rfl _ _ rfl rfl _ _ Hb4.out (Tryz.ixFits HzL.out) (icells_same HzL.out HzL.out) (oneCell_icells _) ?_)
  apply Stop.go; intro w5 Ho5 Hb5
  have HB5 := Lib.hid ((HB3.out.ext Hg4.out.1).only Ho5.out (by have := HO.out; omega))
  have HR5 := Lib.hid ((HR3.out.ext Hg4.out.1).only Ho5.out (by have := HO.out; omega))
  have E5 := Lib.hid (bonly (bt E3.out Hg4.out.1) Ho5.out (by have := HO.out; omega))
  have HG := Lib.hid (show w.heap.size < g2 ∧ g2 < w3.heap.size ∧ w.heap.size < w3.heap.size by have := HO.out; omega)
  generalize w3.heap.size = g3 at *
  have hx5 := Hb5.out
  rw [← HX0.out] at hx5
  have HX5 := Lib.hid hx5
  clear HB3 HR3 E3 Hg4 Hb4 Ho5 Hb5 hx5 HO HX0
  go_wp2_with fail
  go_loopw [5, 11] (fun _ i wr => ∃ k : Nat, k ≤ 32 ∧ i = .int .i64 k ∧ Hid (Blk wr w.heap.size 82 (bcells b)) ∧ Hid (Blk wr g2 102 (icells (0 :: zeroT))) ∧ Hid (Blk wr g3 102 (icells (GD :: gotX b k))) ∧ Hid (Below w.heap.size w wr)) (fun _ i _ => 32 - (intOf i).toNat)
  case atStart => exact ⟨0, Nat.zero_le _, rfl, HB5, HR5, HX5, E5⟩
  case round =>
    obtain ⟨k, hk, rfl, HBk, HRk, HXk, Ek⟩ := hrel
    by_cases hlt : k < 32
    · have d0 : decide ((k : Int) < 32) = true := by simp; omega
      have k0 : 0 ≤ (k : Int) := by omega
      have k1 : (k : Int) < 32 := by omega
      have hfit : 1 + k < (icells (GD :: gotX b k)).size := by rw [icells_size, List.length_cons, HXL.out k]; omega
      have Hfit := Lib.hid hfit
      have hnk := HNk.out k hlt
      have hsk := HSt.out k hlt
      obtain ⟨y, hy⟩ : ∃ y, leV b (32 + 2 * k) 2 = y := ⟨_, rfl⟩
      rw [hy] at hnk hsk
      rw [show ((32 + 2 * k : Nat) : Int) = 32 + 2 * (k : Int) from by omega] at hnk
      have HN := Lib.hid hnk
      have HS := Lib.hid hsk
      clear hfit hnk hsk hy
      go_wp2_with fail
      refine WT.start 7 (S := fun w' : World => Blk w' w.heap.size 82 (bcells b)) [false, false, false, false, false, false, false, false] 8 rfl rfl (by kernel_rfl) (HBk.out.ext (bdrew wr 1)) (fun hSn => ?_); obtain ⟨wS, hwS⟩ : ∃ x, (wr).drew = x := ⟨_, rfl⟩; have HE := Lib.hid (show Below (wr).heap.size (wr) wS from hwS ▸ bdrew wr 1); rw [hwS] at hSn ⊢; clear hwS
      refine WT.tk 0 ?_; simp only [setL]
      refine WT.tv 1 rfl (fun w' hSw => run_load_arr _ _ rfl _ rfl _ _ hSw _ _ Tryz.underlying82 (Tryz.blockFits HbL.out)) ?_; simp only [setL]
      refine WT.tk 2 ?_; simp only [setL]
      refine WT.tk 5 ?_; simp only [setL]
      refine WT.only 3 _ rfl (by kernel_rfl) rfl (fun K hK => ?_)
      go_simp; refine (xnumberAt_any k (by omega) _).mono ?_; rintro e wa ⟨rfl, rfl⟩; go_simp
      have hSn := hSn; refine hK _ _ hSn ?_; clear hK; clear K; simp only [setL]
      refine WT.only 4 _ rfl (by kernel_rfl) rfl (fun K hK => ?_)
      go_simp; refine (nat_any b HbL.out _ _ _).mono ?_; rintro e wa ⟨rfl, hba⟩; go_simp
      rw [HN.out]
      have HE := Lib.hid (bt HE.out hba)
      have hSn := hSn.ext hba; refine hK _ _ hSn ?_; clear hK; clear K; simp only [setL]
      clear hba
      refine WT.tk 6 ?_; simp only [setL]
      refine WT.last _ rfl (by kernel_rfl) rfl (fun K hK => ?_)
      refine ow_store_cell _ _ _ rfl Tryz.int1Size g3 (1 + k) rfl (.int .i64 y) rfl rfl rfl _ _ (HXk.out.ext HE.out) Hfit.out ?_
      apply Stop.go; intro wb Hob Hbb
      have hbb := Hbb.out
      rw [icells_put, HS.out] at hbb
      have HXb := Lib.hid hbb
      have HBb := Lib.hid ((HBk.out.ext HE.out).only Hob.out (by have := HG.out; omega))
      have HRb := Lib.hid ((HRk.out.ext HE.out).only Hob.out (by have := HG.out; omega))
      have Eb := Lib.hid (bonly (bt Ek.out HE.out) Hob.out (by have := HG.out; omega))
      refine hK _ _ ?_; clear hK; clear K; simp only [setL]; refine WT.done (by kernel_rfl) ?_
      clear hbb Hbb HE hSn Hob HXk HBk HRk Ek
      go_wp2_with fail
      go_roundw
      case rel => exact ⟨k + 1, by omega, by go_num, HBb, HRb, HXb, Eb⟩
      case measure => simp [intOf]; omega
    · obtain rfl : k = 32 := by omega
      have d0 : decide ((32 : Int) < 32) = false := by simp
      rw [HXE.out] at HXk
      obtain ⟨m, Hm⟩ : ∃ m, Hid (mayX GD GT = m) := ⟨_, Lib.hid rfl⟩
      rw [Hm.out] at HQ
      have HPL := Lib.hid (outX_len HGL.out GD)
      have HU := Lib.hid (show outX GD GT = if m then putX GD GT else zeros 256 by unfold outX; rw [Hm.out])
      obtain ⟨P, HP⟩ : ∃ P, Hid (outX GD GT = P) := ⟨_, Lib.hid rfl⟩
      rw [HP.out] at HPL HU
      clear HXE HSt HXL HNk
      go_wp2_with (refine wpList_load_blk rfl _ _ rfl _ rfl _ _ HXk.out _ Tryz.underlying102 rfl (Tryz.ixFits HGL.out) ?_)
      refine (xput_any GD GT HGL.out _).mono ?_; rintro e w6 ⟨rfl, hb6⟩
      rw [Hm.out, HP.out]
      have HB6 := Lib.hid (HBk.out.ext hb6)
      have HR6 := Lib.hid (HRk.out.ext hb6)
      have HX6 := Lib.hid (HXk.out.ext hb6)
      have E6 := Lib.hid (bt Ek.out hb6)
      have HO6 := Lib.hid (show w.heap.size < w6.heap.size ∧ g2 < w6.heap.size ∧ g3 < w6.heap.size from ⟨HB6.out.lt, HR6.out.lt, HX6.out.lt⟩)
      clear hb6 HBk HRk HXk Ek
      go_wp2_with (refine wpList_alloc_row rfl _ rfl _ Tryz.blockZero ?_)
      apply Stop.go; intro w7 Hg7 Hb7
      go_wp2_with (refine wpList_store_arr rfl _ _ _ rfl _ _ rfl rfl _ _ Hb7.out (Tryz.blockFits HPL.out) (by rw [bcells_size, bcells_size, HPL.out, zeros_len]) (oneCell_bcells _) ?_)
      apply Stop.go; intro w8 Ho8 Hb8
      have HB8 := Lib.hid ((HB6.out.ext Hg7.out.1).only Ho8.out (by have := HO6.out; omega))
      have HR8 := Lib.hid ((HR6.out.ext Hg7.out.1).only Ho8.out (by have := HO6.out; omega))
      have HX8 := Lib.hid ((HX6.out.ext Hg7.out.1).only Ho8.out (by have := HO6.out; omega))
      have E8 := Lib.hid (bonly (bt E6.out Hg7.out.1) Ho8.out (by have := HO6.out; omega))
      generalize w6.heap.size = g6 at *
      clear Hg7 Hb7 Ho8 HB6 HR6 HX6 E6 HO6
      cases m
      · obtain rfl : rb = false := HQ.out
        obtain rfl : RD = 0 := HQD.out
        obtain rfl : RT = zeroT := HQT.out
        rw [show okArg false = 1 from rfl]
        go_wp2_with fail
        refine WH.start (S := fun w' : World => Blk w' w.heap.size 82 (bcells b)) [false, false, false, false, false, false, false, false, false, false, false, false, false] 13 rfl rfl (by kernel_rfl) (HB8.out.ext (bdrew w8 1)) (fun hSn => ?_); obtain ⟨wS, hwS⟩ : ∃ x, (w8).drew = x := ⟨_, rfl⟩; have HE := Lib.hid (show Below (w8).heap.size (w8) wS from hwS ▸ bdrew w8 1); rw [hwS] at hSn ⊢; clear hwS
        refine WH.tk 0 ?_; simp only [setL]
        refine WH.tk 1 ?_; simp only [setL]
        refine WH.tk 2 ?_; simp only [setL]
        refine WH.skip 3 _ rfl (by kernel_rfl) (fun _ _ _ h => h) rfl (by assumption) ?_; simp only [setL]
        refine WH.skip 4 _ rfl (by kernel_rfl) (fun _ _ _ h => h) rfl (by assumption) ?_; simp only [setL]
        refine WH.skip 5 _ rfl (by kernel_rfl) (fun _ _ _ h => h) rfl (by assumption) ?_; simp only [setL]
        refine WH.tk 6 ?_; simp only [setL]
        refine WH.tk 7 ?_; simp only [setL]
        refine WH.skip 8 _ rfl (by kernel_rfl) (fun _ _ _ h => h) rfl (by assumption) ?_; simp only [setL]
        refine WH.skip 10 _ rfl (by kernel_rfl) (fun _ _ _ h => h) rfl (by assumption) ?_; simp only [setL]
        refine WH.onlySkip 9 _ rfl (by kernel_rfl) rfl (by assumption) ?_; simp only [setL]
        refine WH.skip 11 _ rfl (by kernel_rfl) (fun _ _ _ h => h) rfl (by assumption) ?_; simp only [setL]
        refine WH.tk 12 ?_; simp only [setL]
        refine WH.done (by kernel_rfl) ?_
        have HRs := Lib.hid (HR8.out.ext HE.out)
        have Es := Lib.hid (bt E8.out HE.out)
        clear HE hSn
        go_wp2_with (first | refine wpList_build_nil rfl _ rfl _ Tryz.ixBuilt0 ?_ | refine wpList_store_arr rfl _ _ _ rfl _ _ rfl rfl _ _ HRs.out (Tryz.ixFits HzL.out) (icells_same HzL.out HzL.out) (oneCell_icells _) ?_)
        apply Stop.go; intro we Hoe Hbe
        go_wp2_with ((with_reducible show bodyPost _ _ _ _ _ _); refine bodyPost_struct_tmp rfl _ rfl _ _ Hbe.out _ Tryz.underlying102 rfl (Tryz.ixFits HzL.out) rfl _ rfl ?_)
        apply Stop.go
        exact ⟨rfl, bonly Es.out Hoe.out (by have := HG.out; omega)⟩
      · obtain ⟨q1, H1⟩ : ∃ q, Hid ((P == b) = q) := ⟨_, Lib.hid rfl⟩
        obtain ⟨S, HS⟩ : ∃ S, Hid (shortT (dpN GD) GT = S) := ⟨_, Lib.hid rfl⟩
        have HSL := Lib.hid (show S.length = 32 by rw [← HS.out]; exact mapT_len _)
        obtain ⟨q2, H2⟩ : ∃ q, Hid ((S == GT) = q) := ⟨_, Lib.hid rfl⟩
        have HQ2 := Lib.hid (show rb = (q1 && q2) by
          have hu : P = putX GD GT := HU.out
          rw [HQ.out, ← hu, HS.out, H1.out, H2.out]
          rfl)
        have HN1 := Lib.hid (show (!(P == b)) = !q1 by rw [H1.out])
        have HN2 := Lib.hid (show ∀ w, (binOp .neq 102 (.agg (icells (GD :: S))) (.agg (icells (GD :: GT)))).run Tryz.prog w = .ok (.bool (!q2)) w from fun w => by rw [run_neq_ix GD GD S GT HSL.out HGL.out w, H2.out]; simp)
        have HSh := Lib.hid (show ∀ w, _ from fun w => short_any GD GT HGL.out w)
        rw [HS.out] at HSh
        rw [show okArg true = 0 from rfl]
        clear HQ HU HP Hm HS H1 H2
        cases q1
        · obtain rfl : rb = false := HQ2.out
          obtain rfl : RD = 0 := HQD.out
          obtain rfl : RT = zeroT := HQT.out
          go_wp2_with fail
          refine WH.start (S := fun w' : World => Blk w' w.heap.size 82 (bcells b) ∧ Blk w' g6 82 (bcells P)) [false, false, false, false, false, false, false, false, false, false, false, false, false] 13 rfl rfl (by kernel_rfl) (⟨HB8.out.ext (bdrew w8 1), Hb8.out.ext (bdrew w8 1)⟩) (fun hSn => ?_); obtain ⟨wS, hwS⟩ : ∃ x, (w8).drew = x := ⟨_, rfl⟩; have HE := Lib.hid (show Below (w8).heap.size (w8) wS from hwS ▸ bdrew w8 1); rw [hwS] at hSn ⊢; clear hwS
          refine WH.tk 0 ?_; simp only [setL]
          refine WH.tk 1 ?_; simp only [setL]
          refine WH.tk 2 ?_; simp only [setL]
          refine WH.tv 3 rfl (fun w' hSw => run_load_arr _ _ rfl _ rfl _ _ (hSw.2) _ _ (Tryz.underlying82) (Tryz.blockFits HPL.out)) ?_; simp only [setL]
          refine WH.tv 4 rfl (fun w' hSw => run_load_arr _ _ rfl _ rfl _ _ (hSw.1) _ _ (Tryz.underlying82) (Tryz.blockFits HbL.out)) ?_; simp only [setL]
          refine WH.tv 5 rfl (fun w' hSw => exec_neq_arr _ _ _ _ rfl (by kernel_rfl) _ _ Tryz.underlying82 Tryz.underlying5 Tryz.byteSize _ _ rfl rfl HPL.out HbL.out _ HN1.out) ?_; simp only [setL]
          refine WH.tk 6 ?_; simp only [setL]
          refine WH.tk 7 ?_; simp only [setL]
          refine WH.skip 8 _ rfl (by kernel_rfl) (fun _ _ _ h => h) rfl (by assumption) ?_; simp only [setL]
          refine WH.skip 10 _ rfl (by kernel_rfl) (fun _ _ _ h => h) rfl (by assumption) ?_; simp only [setL]
          refine WH.onlySkip 9 _ rfl (by kernel_rfl) rfl (by assumption) ?_; simp only [setL]
          refine WH.skip 11 _ rfl (by kernel_rfl) (fun _ _ _ h => h) rfl (by assumption) ?_; simp only [setL]
          refine WH.tk 12 ?_; simp only [setL]
          refine WH.done (by kernel_rfl) ?_
          have HRs := Lib.hid (HR8.out.ext HE.out)
          have Es := Lib.hid (bt E8.out HE.out)
          clear HE hSn
          go_wp2_with (first | refine wpList_build_nil rfl _ rfl _ Tryz.ixBuilt0 ?_ | refine wpList_store_arr rfl _ _ _ rfl _ _ rfl rfl _ _ HRs.out (Tryz.ixFits HzL.out) (icells_same HzL.out HzL.out) (oneCell_icells _) ?_)
          apply Stop.go; intro we Hoe Hbe
          go_wp2_with ((with_reducible show bodyPost _ _ _ _ _ _); refine bodyPost_struct_tmp rfl _ rfl _ _ Hbe.out _ Tryz.underlying102 rfl (Tryz.ixFits HzL.out) rfl _ rfl ?_)
          apply Stop.go
          exact ⟨rfl, bonly Es.out Hoe.out (by have := HG.out; omega)⟩
        · go_wp2_with fail
          refine WH.start (S := fun w' : World => Blk w' w.heap.size 82 (bcells b) ∧ (Blk w' g6 82 (bcells P) ∧ Blk w' g3 102 (icells (GD :: GT)))) [false, false, false, false, false, false, false, false, false, false, false, false, false] 13 rfl rfl (by kernel_rfl) (⟨HB8.out.ext (bdrew w8 1), Hb8.out.ext (bdrew w8 1), HX8.out.ext (bdrew w8 1)⟩) (fun hSn => ?_); obtain ⟨wS, hwS⟩ : ∃ x, (w8).drew = x := ⟨_, rfl⟩; have HE := Lib.hid (show Below (w8).heap.size (w8) wS from hwS ▸ bdrew w8 1); rw [hwS] at hSn ⊢; clear hwS
          refine WH.tk 0 ?_; simp only [setL]
          refine WH.tk 1 ?_; simp only [setL]
          refine WH.tk 2 ?_; simp only [setL]
          refine WH.tv 3 rfl (fun w' hSw => run_load_arr _ _ rfl _ rfl _ _ (hSw.2.1) _ _ (Tryz.underlying82) (Tryz.blockFits HPL.out)) ?_; simp only [setL]
          refine WH.tv 4 rfl (fun w' hSw => run_load_arr _ _ rfl _ rfl _ _ (hSw.1) _ _ (Tryz.underlying82) (Tryz.blockFits HbL.out)) ?_; simp only [setL]
          refine WH.tv 5 rfl (fun w' hSw => exec_neq_arr _ _ _ _ rfl (by kernel_rfl) _ _ Tryz.underlying82 Tryz.underlying5 Tryz.byteSize _ _ rfl rfl HPL.out HbL.out _ HN1.out) ?_; simp only [setL]
          refine WH.tk 6 ?_; simp only [setL]
          refine WH.tk 7 ?_; simp only [setL]
          refine WH.tv 8 rfl (fun w' hSw => exec_load_blk _ _ rfl _ rfl _ _ (hSw.2.2) _ (Tryz.underlying102) rfl (Tryz.ixFits HGL.out)) ?_; simp only [setL]
          refine WH.tv 10 rfl (fun w' hSw => exec_load_blk _ _ rfl _ rfl _ _ (hSw.2.2) _ (Tryz.underlying102) rfl (Tryz.ixFits HGL.out)) ?_; simp only [setL]
          refine WH.only 9 _ rfl (by kernel_rfl) rfl (fun K hK => ?_)
          go_simp; refine (HSh.out _).mono ?_; rintro e wa ⟨rfl, hba⟩; go_simp
          have HE := Lib.hid (bt HE.out hba)
          have hSn := And.intro (hSn.1.ext hba) (And.intro (hSn.2.1.ext hba) (hSn.2.2.ext hba)); refine hK _ _ hSn ?_; clear hK; clear K; simp only [setL]
          clear hba
          refine WH.tv 11 rfl (fun w' hSw => exec_eql_agg _ _ _ _ _ rfl (by kernel_rfl) (icells (GD :: S)) (icells (GD :: GT)) rfl rfl _ (HN2.out _)) ?_; simp only [setL]
          refine WH.tk 12 ?_; simp only [setL]
          refine WH.done (by kernel_rfl) ?_
          have HRs := Lib.hid (HR8.out.ext HE.out)
          have HXs := Lib.hid (HX8.out.ext HE.out)
          have Es := Lib.hid (bt E8.out HE.out)
          clear HE hSn
          cases q2
          · obtain rfl : rb = false := HQ2.out
            obtain rfl : RD = 0 := HQD.out
            obtain rfl : RT = zeroT := HQT.out
            go_wp2_with (first | refine wpList_build_nil rfl _ rfl _ Tryz.ixBuilt0 ?_ | refine wpList_store_arr rfl _ _ _ rfl _ _ rfl rfl _ _ HRs.out (Tryz.ixFits HzL.out) (icells_same HzL.out HzL.out) (oneCell_icells _) ?_)
            apply Stop.go; intro we Hoe Hbe
            go_wp2_with ((with_reducible show bodyPost _ _ _ _ _ _); refine bodyPost_struct_tmp rfl _ rfl _ _ Hbe.out _ Tryz.underlying102 rfl (Tryz.ixFits HzL.out) rfl _ rfl ?_)
            apply Stop.go
            exact ⟨rfl, bonly Es.out Hoe.out (by have := HG.out; omega)⟩
          · obtain rfl : rb = true := HQ2.out
            obtain rfl : RD = GD := HQD.out
            obtain rfl : RT = GT := HQT.out
            go_wp2_with (first | refine wpList_load_blk rfl _ _ rfl _ rfl _ _ HXs.out _ Tryz.underlying102 rfl (Tryz.ixFits HGL.out) ?_ | refine wpList_store_arr rfl _ _ _ rfl _ _ rfl rfl _ _ HRs.out (Tryz.ixFits HGL.out) (icells_same HzL.out HGL.out) (oneCell_icells _) ?_)
            apply Stop.go; intro we Hoe Hbe
            go_wp2_with ((with_reducible show bodyPost _ _ _ _ _ _); refine bodyPost_struct_tmp rfl _ rfl _ _ Hbe.out _ Tryz.underlying102 rfl (Tryz.ixFits HGL.out) rfl _ rfl ?_)
            apply Stop.go
            exact ⟨rfl, bonly Es.out Hoe.out (by have := HG.out; omega)⟩

end Go.Proofs.YtkakihbfhmiabaaGreat
