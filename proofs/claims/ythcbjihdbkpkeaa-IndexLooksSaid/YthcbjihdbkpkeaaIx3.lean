/-
  Contracts of slices.Index and slices.Contains (of numbers), and of index's isFirst, isWhole, Buckets.
-/
import Derived.Test.YthcbjihdbkpkeaaIx2
import Derived.Test.YthcbjihdbkpkeaaHeld
namespace Go.Proofs.Ythcbjihdbkpkeaa
open Go.RowKit

set_option maxHeartbeats 800000 in
theorem sidx_any (A : Option Addr) (n cap : Nat) (l : List Int) (hn : l.length = n) (hm : n ≤ maxLen) (x : Int) (w : World) (hr : RC w A (ivals l)) :
    Calls Try.prog 59 #[.slice A n cap, .int .i64 x] w fun e w' => (∃ z : Int, e = .returned (.int .i64 z) ∧ decide (0 ≤ z) = l.contains x) ∧ w = w' := by
  unfold maxLen at hm
  have Hn := Lib.hid hn
  have Hr := Lib.hid hr
  obtain ⟨b, hb⟩ : ∃ b, l.contains x = b := ⟨_, rfl⟩
  rw [hb]
  have Hb := Lib.hid hb
  clear hn hr hb
  go_enter Try.func59, Try.ntmps59
  go_wp2_with fail
  go_loop [8] (fun i => ∃ k : Nat, k ≤ n ∧ i = .int .i64 k ∧ ∀ j (h : j < l.length), j < k → l[j] ≠ x) (fun i => n - (intOf i).toNat)
  case atStart => exact ⟨0, Nat.zero_le _, rfl, fun j _ h => absurd h (Nat.not_lt_zero _)⟩
  case round =>
    obtain ⟨k, hk, rfl, hno⟩ := hrel
    have Hno := Lib.hid hno
    clear hno
    by_cases hlt : k < n
    · have d1 : decide ((k : Int) < n) = true := by simpa using hlt
      have d2 : decide (k < n) = true := by simpa using hlt
      have hkl : k < l.length := by rw [Hn.out]; exact hlt
      obtain ⟨ad, rfl, hc⟩ := Hr.out.int k hkl
      by_cases g1 : l[k] = x
      · have Ha := Lib.hid (show l.contains x = true by rw [← g1]; simp)
        have e1 : (x == l[k]) = true := by simpa using g1.symm
        clear g1
        go_wp2_with fail
        go_ret
        rw [← Hb.out, Ha.out]
        exact ⟨⟨_, rfl, by simp⟩, rfl⟩
      · have e1 : (x == l[k]) = false := by simpa using Ne.symm g1
        have Ha := Lib.hid g1
        clear g1
        go_wp2_with fail
        refine ⟨⟨k + 1, by omega, by go_num, fun j hj hjk => ?_⟩, by simp [intOf]; omega⟩
        by_cases h : j = k
        · subst h
          exact Ha.out
        · exact Hno.out j hj (by omega)
    · have d1 : decide ((k : Int) < n) = false := by simpa using hlt
      have d2 : decide (k < n) = false := by simpa using hlt
      have Ha := Lib.hid (show l.contains x = false by
        rw [Bool.eq_false_iff]
        intro h
        obtain ⟨j, hj, e⟩ := List.getElem_of_mem (List.contains_iff_mem.1 h)
        exact Hno.out j hj (by have := Hn.out; omega) e)
      go_wp2_with fail
      go_ret
      rw [← Hb.out, Ha.out]
      exact ⟨⟨_, rfl, by decide⟩, rfl⟩

set_option maxHeartbeats 800000 in
theorem scont_any (A : Option Addr) (n cap : Nat) (l : List Int) (hn : l.length = n) (hm : n ≤ maxLen) (x : Int) (b : Bool) (hb : l.contains x = b) (w : World) (hr : RC w A (ivals l)) :
    Calls Try.prog 48 #[.slice A n cap, .int .i64 x] w fun e w' => e = .returned (.bool b) ∧ w = w' := by
  have Hr := Lib.hid hr
  subst hb
  clear hr
  go_enter Try.func48, Try.ntmps48
  go_wp2_with fail
  refine (sidx_any A n cap l hn hm x _ Hr.out).mono ?_; rintro e wx ⟨⟨z, rfl, hz⟩, rfl⟩
  have Hz := Lib.hid hz
  clear hz
  go_wp2_with fail
  go_ret
  rw [← Hz.out]
  exact ⟨rfl, rfl⟩

theorem firstB_cont {t : List Int} {p : Nat} (hp : p < t.length) : (!(t.take p).contains (fld t p)) = firstB t p := by
  rw [Bool.eq_iff_iff, firstB_iff, Bool.not_eq_true', Bool.eq_false_iff, Ne, List.contains_iff_mem]
  constructor
  · intro h k hk e
    refine h ?_
    rw [← e]
    exact List.mem_of_getElem? (i := k) (by rw [List.getElem?_take_of_lt hk, fld_get t k (by omega)])
  · intro h hm
    obtain ⟨k, hk, e⟩ := List.getElem_of_mem hm
    rw [List.length_take] at hk
    refine h k (by omega) ?_
    rw [← e, List.getElem_take]
    have := fld_get t k (by omega)
    rw [List.getElem?_eq_getElem (by omega)] at this
    injection this with this
    exact this.symm
set_option maxHeartbeats 800000 in
theorem isFirst_any (d : Int) (t : List Int) (ht : t.length = 32) (p : Nat) (hp : p < 32) (w : World) :
    Calls Try.prog 51 #[.agg (icells (d :: t)), .int .i64 p] w fun e w' => e = .returned (.bool (firstB t p)) ∧ Below w.heap.size w w' := by
  have HL := Lib.hid ht
  obtain ⟨q, Hq⟩ : ∃ q, Hid ((t.take p).contains (fld t p) = q) := ⟨_, Lib.hid rfl⟩
  have HF := Lib.hid (show (!q) = firstB t p by rw [← Hq.out]; exact firstB_cont (t := t) (p := p) (by omega))
  have p0 : 0 ≤ (p : Int) := by omega
  have p1 : (p : Int) < 32 := by omega
  rw [← HF.out]
  go_enter Try.func51, Try.ntmps51
  go_wp2_with (refine wpList_box_row rfl _ _ rfl _ rfl ?_)
  apply Stop.go; intro w1 Hg1 Hb1
  go_wp2_with fail
  refine WH.start (S := fun w' : World => Blk w' w.heap.size 30 (icells (d :: t))) [false, false, false, false, false, false, false, false, false, false] 10 rfl rfl (by kernel_rfl) (Hb1.out.ext (bdrew w1 1)) (fun hSn => ?_); obtain ⟨wS, hwS⟩ : ∃ x, (w1).drew = x := ⟨_, rfl⟩; have HE := Lib.hid (show Below (w1).heap.size (w1) wS from hwS ▸ bdrew w1 1); rw [hwS] at hSn ⊢; clear hwS
  refine WH.tk 0 ?_; simp only [setL]
  refine WH.tk 1 ?_; simp only [setL]
  refine WH.tv 2 rfl (fun w' hSw => exec_slice_to _ _ _ rfl 32 _ Try.underlying22 Try.int1Size w.heap.size 1 rfl .i64 _ rfl p rfl (by omega)) ?_; simp only [setL]
  refine WH.tk 3 ?_; simp only [setL]
  refine WH.tk 4 ?_; simp only [setL]
  refine WH.tk 5 ?_; simp only [setL]
  refine WH.tv 6 rfl (fun w' hSw => exec_load_cell _ _ rfl ⟨w.heap.size, 1 + p, none⟩ rfl _ (int_cell hSw p (by rw [HL.out]; exact hp)) _ Try.underlying3 rfl) ?_; simp only [setL]
  refine WH.only 7 _ rfl (by kernel_rfl) rfl (fun K hK => ?_)
  have hrc : RC wS (some ⟨w.heap.size, 1, none⟩) (ivals (t.take p)) := RC.of_blk_at hSn 1 p
  go_simp; refine (scont_any _ _ _ (t.take p) (by rw [List.length_take, HL.out]; omega) (by unfold maxLen; omega) (fld t p) q Hq.out _ hrc).mono ?_; rintro e wa ⟨rfl, rfl⟩; go_simp
  have hSn := hSn; refine hK _ _ hSn ?_; clear hK; clear K; simp only [setL]
  refine WH.tk 8 ?_; simp only [setL]
  refine WH.tk 9 ?_; simp only [setL]
  refine WH.done (by kernel_rfl) ?_
  go_wp2_with fail
  go_ret
  exact ⟨rfl, bt Hg1.out.1 HE.out⟩

def wholeP (D : Nat) (t : List Int) (p : Nat) : Bool := decide (xcntB D t p (2 ^ D) = (clsL D p (xbitsN D t p)).length)
theorem xcntB_le (D : Nat) (t : List Int) (p k : Nat) : xcntB D t p k ≤ k := by
  unfold xcntB
  exact Nat.le_trans (List.length_filter_le _ _) (by rw [List.length_range]; exact Nat.le_refl _)
set_option maxHeartbeats 1600000 in
theorem isWhole_any (d : Int) (t : List Int) (ht : t.length = 32) (p : Nat) (hp : p < 2 ^ dpN d) (w : World) :
    Calls Try.prog 52 #[.agg (icells (d :: t)), .int .i64 p] w fun e w' => e = .returned (.bool (wholeP (dpN d) t p)) ∧ Below w.heap.size w w' := by
  have HL := Lib.hid ht
  have h5 := dpN_le d
  have h32 := pow32 h5
  obtain ⟨b, Hb⟩ : ∃ b, Hid (xbitsN (dpN d) t p = b) := ⟨_, Lib.hid rfl⟩
  have Hbx := Lib.hid (show bitX d t p = b by rw [bitX_in hp, Hb.out])
  obtain ⟨R, HR⟩ : ∃ R, Hid (clsL (dpN d) p b = R) := ⟨_, Lib.hid rfl⟩
  have HP := Lib.hid (show plcL d p b = R by rw [plcL_in rfl hp, bitI_nat (by rw [← Hb.out]; exact xbitsN_le _ _ _), HR.out])
  have HQ := Lib.hid (show wholeP (dpN d) t p = decide (xcntB (dpN d) t p (2 ^ dpN d) = R.length) by unfold wholeP; rw [Hb.out, HR.out])
  rw [HQ.out]
  have HM0 := Lib.hid (fun (w : World) => xmany_any d t ht w)
  have HCs := Lib.hid (xcntB_succ (dpN d) t p)
  have HCl := Lib.hid (xcntB_le (dpN d) t p)
  obtain ⟨M, hM⟩ : ∃ M, 2 ^ dpN d = M := ⟨_, rfl⟩
  rw [hM] at hp h32 HM0 ⊢
  obtain ⟨cn, hcn⟩ : ∃ cn, xcntB (dpN d) t p = cn := ⟨_, rfl⟩
  rw [hcn] at HCs HCl ⊢
  have HC0 := Lib.hid (show cn 0 = 0 by rw [← hcn]; rfl)
  have p0 : 0 ≤ (p : Int) := by omega
  have p1 : (p : Int) < 32 := by omega
  have p2 : p < 32 := by omega
  clear hM hcn h5 hp
  go_enter Try.func52, Try.ntmps52
  go_wp2_with (refine wpList_box_row rfl _ _ rfl _ rfl ?_)
  apply Stop.go; intro w1 Hg1 Hb1
  go_wp2_with (refine wpList_load_blk rfl _ _ rfl _ rfl _ _ Hb1.out _ Try.underlying30 rfl (Try.ixFits HL.out) ?_)
  refine (HM0.out _).mono ?_; rintro e w2 ⟨rfl, hb2⟩
  have E2 := Lib.hid (bt Hg1.out.1 hb2)
  have HB2 := Lib.hid (Hb1.out.ext hb2)
  have cp := int_cell HB2.out p (by rw [ht]; exact p2)
  clear hb2 Hb1 Hg1
  go_wp2_with fail
  go_loopw [5, 9] (fun u i wr => ∃ k : Nat, k ≤ M ∧ i = .int .i64 k ∧ u = .int .i64 (cn k : Nat) ∧ ∃ m, wr = w2.drewN m) (fun _ i _ => M - (intOf i).toNat)
  case atStart => exact ⟨0, Nat.zero_le _, rfl, by rw [HC0.out]; rfl, 0, rfl⟩
  case round =>
    obtain ⟨k, hk, rfl, rfl, m, rfl⟩ := hrel
    by_cases hlt : k < M
    · have d0 : decide ((k : Int) < M) = true := by simp; omega
      have d1 : decide (k < M) = true := by simp; omega
      have k0 : 0 ≤ (k : Int) := by omega
      have k1 : (k : Int) < 32 := by omega
      have ck := int_cell HB2.out k (by rw [HL.out]; omega)
      have HS := Lib.hid (HCs.out k)
      have hcl := HCl.out k
      obtain ⟨y, hy⟩ : ∃ y, fld t p = y := ⟨_, rfl⟩
      obtain ⟨x, hx⟩ : ∃ x, fld t k = x := ⟨_, rfl⟩
      rw [hx, hy] at HS
      rw [hx] at ck
      rw [hy] at cp
      clear hx hy
      by_cases hxy : x = y
      · have HN := Lib.hid (show cn (k + 1) = cn k + 1 by rw [HS.out, hxy]; simp)
        subst hxy
        have d2 : (x == x) = true := by simp
        clear HS
        go_wp2_with fail
        go_quiet (fail)
        go_wp2_with fail
        go_roundw
        case rel =>
          refine ⟨k + 1, by omega, by go_num, by rw [HN.out]; go_num, m + nq, ?_⟩
          first | rfl | simp only [World.drewN_drewN]
        case measure => simp [intOf]; omega
      · have d2 : (x == y) = false := by simpa using hxy
        have HN := Lib.hid (show cn (k + 1) = cn k by rw [HS.out, d2]; rfl)
        clear hxy HS
        go_wp2_with fail
        go_quiet (fail)
        go_wp2_with fail
        go_roundw
        case rel =>
          refine ⟨k + 1, by omega, by go_num, by rw [HN.out], m + nq, ?_⟩
          first | rfl | simp only [World.drewN_drewN]
        case measure => simp [intOf]; omega
    · obtain rfl : k = M := by omega
      have d0 : decide ((k : Int) < k) = false := by simp
      obtain ⟨w3, hw3⟩ : ∃ x, w2.drewN m = x := ⟨_, rfl⟩
      have E3 := Lib.hid (hw3 ▸ bt E2.out (bdrew w2 m))
      have HB3 := Lib.hid (hw3 ▸ HB2.out.ext (bdrew w2 m))
      rw [hw3]
      clear hw3 cp HB2 E2
      obtain ⟨N, hN⟩ : ∃ N, cn k = N := ⟨_, rfl⟩
      have HN := Lib.hid hN
      rw [hN]
      clear hN
      go_wp2_with fail
      refine WH.start (S := fun w' : World => Blk w' w.heap.size 30 (icells (d :: t))) [false, false, false, false, false, false, false, false, false, false] 10 rfl rfl (by kernel_rfl) (HB3.out.ext (bdrew w3 1)) (fun hSn => ?_); obtain ⟨wS, hwS⟩ : ∃ x, (w3).drew = x := ⟨_, rfl⟩; have HE := Lib.hid (show Below (w3).heap.size (w3) wS from hwS ▸ bdrew w3 1); rw [hwS] at hSn ⊢; clear hwS
      refine WH.tk 0 ?_; simp only [setL]
      refine WH.tv 1 rfl (fun w' hSw => exec_load_blk _ _ rfl _ rfl _ _ (hSw) _ (Try.underlying30) rfl (Try.ixFits HL.out)) ?_; simp only [setL]
      refine WH.tk 2 ?_; simp only [setL]
      refine WH.tv 3 rfl (fun w' hSw => exec_load_blk _ _ rfl _ rfl _ _ (hSw) _ (Try.underlying30) rfl (Try.ixFits HL.out)) ?_; simp only [setL]
      refine WH.tk 4 ?_; simp only [setL]
      refine WH.only 5 _ rfl (by kernel_rfl) rfl (fun K hK => ?_)
      go_simp; refine (xbits_any d t HL.out p _).mono ?_; rintro e wa ⟨rfl, hba⟩; go_simp
      rw [Hbx.out]
      have HE := Lib.hid (bt HE.out hba)
      have hSn := hSn.ext hba; refine hK _ _ hSn ?_; clear hK; clear K; simp only [setL]
      refine WH.only 6 _ rfl (by kernel_rfl) rfl (fun K hK => ?_)
      go_simp; refine (places_any d t HL.out p b _).mono ?_; rintro e wb ⟨V, rfl, ho, hbb⟩; go_simp
      rw [HP.out] at ho
      obtain ⟨A, c, rfl, hc1, hc2, hrc⟩ := ho.ints
      have HE := Lib.hid (bt HE.out hbb)
      rw [icast_len]
      have hSn := hSn.ext hbb; refine hK _ _ hSn ?_; clear hK; clear K; simp only [setL]
      refine WH.tk 7 ?_; simp only [setL]
      refine WH.tk 8 ?_; simp only [setL]
      refine WH.tk 9 ?_; simp only [setL]
      refine WH.done (by kernel_rfl) ?_
      go_wp2_with fail
      go_ret
      rw [HN.out]
      exact ⟨congrArg (fun x => Ending.returned (.bool x)) (by rw [Bool.eq_iff_iff]; simp; omega), bt E3.out HE.out⟩

set_option maxHeartbeats 1600000 in
theorem xbuckets_any (d : Int) (t : List Int) (ht : t.length = 32) (w : World) :
    Calls Try.prog 24 #[.agg (icells (d :: t))] w fun e w' => ∃ v, e = .returned v ∧ OwnC w' w.heap.size 3 v (ivals (buckK t (2 ^ dpN d))) ∧ Below w.heap.size w w' := by
  have HL := Lib.hid ht
  have h32 := pow32 (dpN_le d)
  have HM0 := Lib.hid (fun (w : World) => xmany_any d t ht w)
  obtain ⟨M, hM⟩ : ∃ M, 2 ^ dpN d = M := ⟨_, rfl⟩
  rw [hM] at h32 HM0 ⊢
  clear hM
  go_enter Try.func24, Try.ntmps24
  go_wp2_with (refine wpList_box_row rfl _ _ rfl _ rfl ?_)
  apply Stop.go; intro w1 Hg1 Hb1
  go_wp2_with (refine wpList_load_blk rfl _ _ rfl _ rfl _ _ Hb1.out _ Try.underlying30 rfl (Try.ixFits HL.out) ?_)
  refine (HM0.out _).mono ?_; rintro e w2 ⟨rfl, hb2⟩
  have E2 := Lib.hid (bt Hg1.out.1 hb2)
  have HB2 := Lib.hid (Hb1.out.ext hb2)
  have Hz := Lib.hid (show w.heap.size < w2.heap.size from HB2.out.lt)
  clear hb2 Hb1 Hg1
  go_wp2_with fail
  go_loopw [3, 8] (fun u i wr => ∃ k : Nat, k ≤ M ∧ i = .int .i64 k ∧ OwnC wr w2.heap.size 3 u (ivals (buckK t k)) ∧ Below w2.heap.size w2 wr) (fun _ i _ => M - (intOf i).toNat)
  case atStart => exact ⟨0, Nat.zero_le _, rfl, OwnC.nil_ _ _ _, Below.refl _ _⟩
  case round =>
    obtain ⟨k, hk, rfl, hu, hbw⟩ := hrel
    have Hu := Lib.hid hu
    have Hbw := Lib.hid hbw
    clear hu hbw
    by_cases hlt : k < M
    · have d0 : decide ((k : Int) < M) = true := by simp; omega
      have d1 : decide (k < M) = true := by simp; omega
      have k0 : 0 ≤ (k : Int) := by omega
      have k1 : (k : Int) < 32 := by omega
      have HBk := Lib.hid (HB2.out.ext Hbw.out)
      have ck := int_cell HBk.out k (by rw [HL.out]; omega)
      have HS := Lib.hid (buckK_succ t k)
      have hlen := buckK_len t k
      have hl1 : (ivals (buckK t k)).length + 1 ≤ maxLen := by rw [ivals_len]; unfold maxLen; omega
      have hl2 : ((ivals (buckK t k)).length + 1) * 8 ≤ 140737488355328 := by rw [ivals_len]; omega
      obtain ⟨x, hx⟩ : ∃ x, fld t k = x := ⟨_, rfl⟩
      rw [hx] at HS ck
      clear hx
      by_cases h0 : x = 0
      · have HN := Lib.hid (show buckK t (k + 1) = buckK t k by rw [HS.out, if_pos h0])
        subst h0
        have d2 : ((0 : Int) != 0) = false := by decide
        clear HS
        go_wp2_with fail
        go_roundw
        case rel => exact ⟨k + 1, by omega, by go_num, by rw [HN.out]; exact Hu.out, Hbw.out⟩
        case measure => simp [intOf]; omega
      · have d2 : (x != 0) = true := by simpa using h0
        obtain ⟨q, Hq⟩ : ∃ q, Hid ((buckK t k).contains x = q) := ⟨_, Lib.hid rfl⟩
        have HS2 := Lib.hid (show buckK t (k + 1) = if q then buckK t k else buckK t k ++ [x] by rw [HS.out, if_neg h0, Hq.out])
        obtain ⟨A, c, rfl, hc1, hc2, hrc⟩ := Hu.out.ints
        have Hrc := Lib.hid hrc
        clear HS h0 hrc
        go_wp2_with fail
        refine (scont_any A _ c (buckK t k) rfl (by unfold maxLen; omega) x q Hq.out _ Hrc.out).mono ?_; rintro e wx ⟨rfl, rfl⟩
        cases q
        · have HN := Lib.hid (show buckK t (k + 1) = buckK t k ++ [x] by rw [HS2.out]; rfl)
          clear HS2
          go_wp2_with (at_builtin; refine wpList_append_one rfl _ _ _ _ rfl Try.underlying52 (.int .i64 0) 8 Try.intInfo rfl w2.heap.size _ _ rfl Hu.out (.int .i64 x) rfl rfl Hbw.out.size hl1 hl2 ?_)
          apply Stop.go
          intro v' w4 Hv' Ha'
          go_wp2_with fail
          go_roundw
          case rel => exact ⟨k + 1, by omega, by go_num, by rw [HN.out, ← ivals_snoc]; exact Hv'.out, Hbw.out.trans Ha'.out.below⟩
          case measure => simp [intOf]; omega
        · have HN := Lib.hid (show buckK t (k + 1) = buckK t k by rw [HS2.out]; rfl)
          clear HS2
          go_wp2_with fail
          go_roundw
          case rel => exact ⟨k + 1, by omega, by go_num, by rw [HN.out]; exact Hu.out, Hbw.out⟩
          case measure => simp [intOf]; omega
    · obtain rfl : k = M := by omega
      have d0 : decide ((k : Int) < k) = false := by simp
      go_wp2_with fail
      go_ret
      exact ⟨_, rfl, Hu.out.low (Nat.le_of_lt Hz.out), bt E2.out Hbw.out⟩

end Go.Proofs.Ythcbjihdbkpkeaa
