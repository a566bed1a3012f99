/-
  Contracts of index's Places, Set, isAlike, Bits.
-/
import Derived.Test.YthcbjihdbkpkeaaIx1
namespace Go.Proofs.Ythcbjihdbkpkeaa
open Go.RowKit

/-- Places as numbers. -/
def icast (l : List Nat) : List Int := l.map fun i : Nat => ((i : Nat) : Int)
theorem icast_len (l : List Nat) : (icast l).length = l.length := by simp [icast]
theorem icast_snoc (l : List Nat) (i : Nat) : icast (l ++ [i]) = icast l ++ [(i : Int)] := by simp [icast]
theorem icast_get (l : List Nat) (k : Nat) (h : k < l.length) : (icast l)[k]'(by rw [icast_len]; exact h) = ((l[k] : Nat) : Int) := by simp [icast]
/-- Those below k. -/
def clsK (p b k : Nat) : List Nat := (List.range k).filter (fun i => isB b i p)
theorem clsK_succ (p b k : Nat) : clsK p b (k + 1) = if isB b k p then clsK p b k ++ [k] else clsK p b k := by
  unfold clsK
  rw [List.range_succ, List.filter_append]
  cases h : isB b k p <;> simp [h]
theorem clsK_len (p b k : Nat) : (clsK p b k).length ≤ k := by
  unfold clsK
  exact Nat.le_trans (List.length_filter_le _ _) (by rw [List.length_range]; exact Nat.le_refl _)
theorem u32_nat (k : Nat) (h : k < 4294967296) : IntKind.u32.wrap (k : Int) = k := by
  simp [IntKind.wrap, IntKind.bits, IntKind.signed]
  omega

theorem plcL_in {d p b : Int} {P : Nat} (hp : p = P) (h : P < 2 ^ dpN d) : plcL d p b = clsL (dpN d) P (bitI (dpN d) b) := by
  subst hp
  unfold plcL
  rw [if_pos (by omega), Int.toNat_natCast]
set_option maxHeartbeats 1600000 in
theorem places_any (d : Int) (t : List Int) (ht : t.length = 32) (p b : Int) (w : World) :
    Calls Try.prog 22 #[.agg (icells (d :: t)), .int .i64 p, .int .i64 b] w fun e w' => ∃ v, e = .returned v ∧ OwnC w' w.heap.size 3 v (ivals (icast (plcL d p b))) ∧ Below w.heap.size w w' := by
  have HL := Lib.hid ht
  have h5 := dpN_le d
  obtain ⟨R, HR⟩ : ∃ R, Hid (plcL d p b = R) := ⟨_, Lib.hid rfl⟩
  rw [HR.out]
  go_enter Try.func22, Try.ntmps22
  go_wp2_with (refine wpList_box_row rfl _ _ rfl _ rfl ?_)
  apply Stop.go; intro w1 Hg1 Hb1
  go_wp2_with (refine wpList_load_blk rfl _ _ rfl _ rfl _ _ Hb1.out _ Try.underlying30 rfl (Try.ixFits HL.out) ?_)
  refine (xisPlace_any d t ht p _).mono ?_; rintro e w2 ⟨rfl, hb2⟩
  have E2 := Lib.hid (bt Hg1.out.1 hb2)
  have HB2 := Lib.hid (Hb1.out.ext hb2)
  clear hb2
  obtain ⟨c, Hc⟩ : ∃ c, Hid (isPlB d p = c) := ⟨_, Lib.hid rfl⟩
  rw [Hc.out]
  cases c
  · have HN := Lib.hid (show R = [] by
      rw [← HR.out]
      unfold plcL
      rw [if_neg]
      have := Hc.out
      unfold isPlB at this
      exact of_decide_eq_false this)
    go_wp2_with fail
    go_ret
    rw [HN.out]
    exact ⟨_, rfl, OwnC.nil_ _ _ _, E2.out⟩
  · have hp := of_decide_eq_true (show decide (0 ≤ p ∧ p < ((2 ^ dpN d : Nat) : Int)) = true from Hc.out)
    obtain ⟨P, rfl⟩ := Int.eq_ofNat_of_zero_le hp.1
    have hP : P < 2 ^ dpN d := by omega
    have HRK := Lib.hid (show R = clsK P (bitI (dpN d) b) (2 ^ dpN d) by
      rw [← HR.out, plcL_in rfl hP]
      rfl)
    have HLW := Lib.hid (fun i hi => lowN_class h5 (i := i) hi hP b)
    go_wp2_with (refine wpList_load_blk rfl _ _ rfl _ rfl _ _ HB2.out _ Try.underlying30 rfl (Try.ixFits HL.out) ?_)
    refine (xmany_any d t ht _).mono ?_; rintro e w3 ⟨rfl, hb3⟩
    have E3 := Lib.hid (bt E2.out hb3)
    have h32 := pow32 h5
    obtain ⟨M, hM⟩ : ∃ M : Nat, 2 ^ dpN d = M := ⟨_, rfl⟩
    obtain ⟨bb, hbb⟩ : ∃ bb, bitI (dpN d) b = bb := ⟨_, rfl⟩
    rw [hM] at hP HLW h32 HRK ⊢
    rw [hbb] at HLW HRK
    have cP : IntKind.u32.wrap (P : Int) = P := u32_nat P (by omega)
    clear hp hb3 hM hbb h5 Hc
    go_wp2_with fail
    go_loopw [7, 15] (fun u i wr => ∃ k : Nat, k ≤ M ∧ i = .int .i64 k ∧ OwnC wr w.heap.size 3 u (ivals (icast (clsK P bb k))) ∧ Below w.heap.size w wr) (fun _ i _ => M - (intOf i).toNat)
    case atStart => exact ⟨0, Nat.zero_le _, rfl, OwnC.nil_ _ _ _, E3.out⟩
    case round =>
      obtain ⟨k, hk, rfl, hu, hbw⟩ := hrel
      have Hu := Lib.hid hu
      have Hbw := Lib.hid hbw
      clear hu hbw
      by_cases hlt : k < M
      · have d0 : decide ((k : Int) < M) = true := by simp; omega
        have d1 : decide (k < M) = true := by simp; omega
        have cK : IntKind.u32.wrap (k : Int) = k := u32_nat k (by omega)
        have hkl := Lib.hid (clsK_len P bb k)
        have hl1 : (ivals (icast (clsK P bb k))).length + 1 ≤ maxLen := by rw [ivals_len, icast_len]; unfold maxLen; have := hkl.out; omega
        have hl2 : ((ivals (icast (clsK P bb k))).length + 1) * 8 ≤ 140737488355328 := by rw [ivals_len, icast_len]; have := hkl.out; omega
        have HT := Lib.hid (HLW.out k hlt)
        have HS := Lib.hid (clsK_succ P bb k)
        go_wp2_with fail
        refine (low_any k (by omega) b _).mono ?_; rintro e wx ⟨rfl, rfl⟩
        go_wp2_with fail
        refine (low_any P (by omega) b _).mono ?_; rintro e wx ⟨rfl, rfl⟩
        obtain ⟨x, hx⟩ : ∃ x, lowN k b = x := ⟨_, rfl⟩
        obtain ⟨y, hy⟩ : ∃ y, lowN P b = y := ⟨_, rfl⟩
        rw [hx, hy] at HT
        rw [hx, hy]
        clear hx hy
        by_cases hxy : x = y
        · have HN := Lib.hid (show clsK P bb (k + 1) = clsK P bb k ++ [k] by
            rw [HS.out, ← HT.out, hxy]; simp)
          subst hxy
          have d2 : ((x : Int) == (x : Int)) = true := by simp
          clear HS HT
          go_wp2_with (at_builtin; refine wpList_append_one rfl _ _ _ _ rfl Try.underlying52 (.int .i64 0) 8 Try.intInfo rfl w.heap.size _ _ rfl Hu.out (.int .i64 k) rfl rfl Hbw.out.size hl1 hl2 ?_)
          apply Stop.go
          intro v' w4 Hv' Ha'
          go_wp2_with fail
          go_roundw
          case rel => exact ⟨k + 1, by omega, by go_num, by rw [HN.out, icast_snoc, ← ivals_snoc]; exact Hv'.out, Hbw.out.trans Ha'.out.below⟩
          case measure => simp [intOf]; omega
        · have d2 : ((x : Int) == (y : Int)) = false := by simp; omega
          have HN := Lib.hid (show clsK P bb (k + 1) = clsK P bb k by
            rw [HS.out, ← HT.out, show (x == y) = false by simpa using hxy]; rfl)
          clear hxy HS HT
          go_wp2_with fail
          go_roundw
          case rel => exact ⟨k + 1, by omega, by go_num, by rw [HN.out]; exact Hu.out, Hbw.out⟩
          case measure => simp [intOf]; omega
      · obtain rfl : k = M := by omega
        go_wp2_with fail
        go_ret
        rw [HRK.out]
        exact ⟨_, rfl, Hu.out, Hbw.out⟩

set_option maxHeartbeats 1600000 in
theorem xset_any (d : Int) (t : List Int) (ht : t.length = 32) (p b v : Int) (w : World) :
    Calls Try.prog 29 #[.agg (icells (d :: t)), .int .i64 p, .int .i64 b, .int .i64 v] w fun e w' => e = .returned (.agg (icells (d :: setX d t p b v))) ∧ Below w.heap.size w w' := by
  have HL := Lib.hid ht
  have HzL := Lib.hid zeroT_len
  have h32 := pow32 (dpN_le d)
  obtain ⟨R, hR⟩ : ∃ R, plcL d p b = R := ⟨_, rfl⟩
  have Hlt := Lib.hid (show ∀ k (h : k < R.length), R[k] < 32 from fun k h => by
    have : R[k] ∈ plcL d p b := by rw [hR]; exact List.getElem_mem h
    have := plcL_lt this
    omega)
  have Hlen := Lib.hid (show R.length ≤ 32 from hR ▸ plcL_len d p b)
  have HS := Lib.hid (show setX d t p b v = setK t R v by unfold setX; rw [hR])
  have HR := Lib.hid hR
  rw [HS.out]
  clear hR h32
  go_enter Try.func29, Try.ntmps29
  go_wp2_with (refine wpList_box_row rfl _ _ rfl _ rfl ?_)
  apply Stop.go; intro w1 Hg1 Hb1
  go_wp2_with (refine wpList_alloc_row rfl _ rfl _ Try.ixZero ?_)
  apply Stop.go; intro w2 Hg2 Hb2
  have HB2 := Lib.hid (Hb1.out.ext Hg2.out.1)
  have z1 := Hg1.out.2
  have z2 := Hb2.out.lt
  have Hz := Lib.hid (show w.heap.size < w1.heap.size ∧ w1.heap.size < w2.heap.size by omega)
  have E2 := Lib.hid (bt Hg1.out.1 Hg2.out.1)
  clear z1 z2
  generalize w1.heap.size = g2 at *
  go_wp2_with (refine wpList_load_blk rfl _ _ rfl _ rfl _ _ HB2.out _ Try.underlying30 rfl (Try.ixFits HL.out) ?_)
  refine (places_any d t ht p b _).mono ?_; rintro e w3 ⟨V, rfl, ho3, hb3⟩
  rw [HR.out] at ho3
  obtain ⟨A, c, rfl, hc1, hc2, _⟩ := ho3.ints
  have Ho3 := Lib.hid ho3
  have HB3 := Lib.hid (HB2.out.ext hb3)
  have HR3 := Lib.hid (Hb2.out.ext hb3)
  have E3 := Lib.hid (bt E2.out hb3)
  have hn : (icast R).length = R.length := icast_len R
  obtain ⟨n, hn2⟩ : ∃ n, (icast R).length = n := ⟨_, rfl⟩
  rw [hn2] at hn hc1 ⊢
  have Hn := Lib.hid hn
  have hn32 : n ≤ 32 := by rw [hn]; exact Hlen.out
  have Hn2 := Lib.hid hn2
  rw [hn2] at Ho3
  clear ho3 hb3 hn hn2
  go_wp2_with fail
  go_loopw [16] (fun i wr => ∃ k : Nat, k ≤ n ∧ i = .int .i64 k ∧ Hid (Blk wr w.heap.size 30 (icells (d :: setK t (R.take k) v))) ∧ Hid (OwnC wr w2.heap.size 3 (.slice A n c) (ivals (icast R))) ∧ Hid (Blk wr g2 30 (icells (0 :: zeroT))) ∧ Hid (Below w.heap.size w wr)) (fun i _ => n - (intOf i).toNat)
  case atStart => exact ⟨0, Nat.zero_le _, rfl, HB3, Ho3, HR3, E3⟩
  case round =>
    obtain ⟨k, hk, rfl, HBk, Hok, HRk, Ek⟩ := hrel
    by_cases hlt : k < n
    · have d0 : decide ((k : Int) < n) = true := by simp; omega
      have d1 : decide (k < n) = true := by simp; omega
      have hkr : k < R.length := by rw [← Hn.out]; exact hlt
      obtain ⟨A2, c2, e2, _, _, hrc⟩ := Hok.out.ints
      injection e2 with e2a e2b e2c
      subst e2a
      obtain ⟨ad, rfl, hcell⟩ := hrc.int k (by rw [icast_len]; exact hkr)
      rw [icast_get R k hkr] at hcell
      have hj := Hlt.out k hkr
      have Hsn := Lib.hid (show setK t (R.take (k + 1)) v = (setK t (R.take k) v).set R[k] v by rw [List.take_succ_eq_append_getElem hkr, setK_snoc])
      have HLk := Lib.hid (show (setK t (R.take k) v).length = 32 by rw [setK_len, HL.out])
      generalize R[k] = j at *
      have p0 : 0 ≤ (j : Int) := by omega
      have p1 : (j : Int) < 32 := by omega
      have hfit : 1 + j < (icells (d :: setK t (R.take k) v)).size := by rw [icells_size, List.length_cons, HLk.out]; omega
      have Hfit := Lib.hid hfit
      clear e2b e2c hrc hfit
      go_wp2_with (first | refine wpList_store_cell rfl _ _ _ rfl Try.int1Size w.heap.size (1 + j) rfl (.int .i64 v) rfl rfl rfl _ _ HBk.out Hfit.out ?_)
      apply Stop.go; intro w5 Ho5 Hb5
      have hb5 := Hb5.out
      rw [icells_put, ← Hsn.out] at hb5
      have HB5 := Lib.hid hb5
      have HO5 := Lib.hid (Hok.out.only Ho5.out (by have := Hz.out; omega))
      have HR5 := Lib.hid (HRk.out.only Ho5.out (by have := Hz.out; omega))
      have E5 := Lib.hid (bonly Ek.out Ho5.out (Nat.le_refl _))
      clear hb5 Hb5 Ho5 HBk Hok HRk Ek hcell
      go_wp2_with fail
      go_roundw
      case rel => exact ⟨k + 1, by omega, by go_num, HB5, HO5, HR5, E5⟩
      case measure => simp [intOf]; omega
    · obtain rfl : k = n := by omega
      have HT := Lib.hid (show R.take k = R from List.take_of_length_le (by rw [← Hn.out]; exact Nat.le_refl _))
      rw [HT.out] at HBk
      have HLk := Lib.hid (show (setK t R v).length = 32 by rw [setK_len, HL.out])
      go_wp2_with (first | refine wpList_load_blk rfl _ _ rfl _ rfl _ _ HBk.out _ Try.underlying30 rfl (Try.ixFits HLk.out) ?_ | refine wpList_store_arr rfl _ _ _ rfl _ _ rfl rfl _ _ HRk.out (Try.ixFits HLk.out) (icells_same HzL.out HLk.out) (oneCell_icells _) ?_)
      apply Stop.go; intro w5 Ho5 Hb5
      go_wp2_with ((with_reducible show bodyPost _ _ _ _ _ _); refine bodyPost_struct rfl _ rfl _ _ Hb5.out _ Try.underlying30 rfl (Try.ixFits HLk.out) rfl ?_)
      apply Stop.go
      exact bonly Ek.out Ho5.out (Nat.le_of_lt Hz.out.1)

theorem bitI_nat {D b : Nat} (h : b ≤ D) : bitI D (b : Int) = b := by unfold bitI; omega
set_option maxHeartbeats 1600000 in
theorem isAlike_any (d : Int) (t : List Int) (ht : t.length = 32) (p b : Nat) (hp : p < 2 ^ dpN d) (hb : b ≤ dpN d) (w : World) :
    Calls Try.prog 45 #[.agg (icells (d :: t)), .int .i64 p, .int .i64 b] w fun e w' => e = .returned (.bool (sameB (dpN d) t p b)) ∧ Below w.heap.size w w' := by
  have HL := Lib.hid ht
  have h32 := pow32 (dpN_le d)
  obtain ⟨R, hR⟩ : ∃ R, clsL (dpN d) p b = R := ⟨_, rfl⟩
  have HR := Lib.hid (show plcL d p b = R by rw [plcL_in rfl hp, bitI_nat hb, hR])
  have Hlt := Lib.hid (show ∀ k (h : k < R.length), R[k] < 32 from fun k h => by
    have : R[k] ∈ clsL (dpN d) p b := by rw [hR]; exact List.getElem_mem h
    have := (clsL_mem.1 this).1
    omega)
  have Hyes := Lib.hid (show (∀ j (h : j < R.length), fld t R[j] = fld t p) → sameB (dpN d) t p b = true from fun h => sameB_iff.2 fun i hi hbi => by
    have hm : i ∈ R := by rw [← hR]; exact clsL_mem.2 ⟨hi, hbi⟩
    obtain ⟨j, hj, rfl⟩ := List.getElem_of_mem hm
    exact h j hj)
  have Hno := Lib.hid (show ∀ j (h : j < R.length), fld t R[j] ≠ fld t p → sameB (dpN d) t p b = false from fun j hj hne => by
    rw [Bool.eq_false_iff]
    intro hs
    have hm : R[j] ∈ clsL (dpN d) p b := by rw [hR]; exact List.getElem_mem hj
    exact hne (sameB_iff.1 hs _ (clsL_mem.1 hm).1 (clsL_mem.1 hm).2))
  obtain ⟨B, HB⟩ : ∃ B, Hid (sameB (dpN d) t p b = B) := ⟨_, Lib.hid rfl⟩
  rw [HB.out] at Hyes Hno ⊢
  have Hlen := Lib.hid (show R.length ≤ 32 by
    rw [← hR]
    unfold clsL
    exact Nat.le_trans (List.length_filter_le _ _) (by rw [List.length_range]; exact h32))
  have q1 : (p : Int) < 32 := by omega
  have q0 : 0 ≤ (p : Int) := by omega
  have qn : p < 32 := by omega
  clear hR h32
  go_enter Try.func45, Try.ntmps45
  go_wp2_with (refine wpList_box_row rfl _ _ rfl _ rfl ?_)
  apply Stop.go; intro w1 Hg1 Hb1
  go_wp2_with (refine wpList_load_blk rfl _ _ rfl _ rfl _ _ Hb1.out _ Try.underlying30 rfl (Try.ixFits HL.out) ?_)
  refine (places_any d t ht p b _).mono ?_; rintro e w3 ⟨V, rfl, ho3, hb3⟩
  rw [HR.out] at ho3
  obtain ⟨A, c, rfl, hc1, hc2, hrc⟩ := ho3.ints
  have HB3 := Lib.hid (Hb1.out.ext hb3)
  have E3 := Lib.hid (bt Hg1.out.1 hb3)
  have hn : (icast R).length = R.length := icast_len R
  obtain ⟨n, hn2⟩ : ∃ n, (icast R).length = n := ⟨_, rfl⟩
  rw [hn2] at hn hc1 ⊢
  have Hn := Lib.hid hn
  have hn32 : n ≤ 32 := by rw [hn]; exact Hlen.out
  have Hrc := Lib.hid hrc
  have cp := int_cell HB3.out p (by rw [ht]; exact qn)
  clear ho3 hb3 hn hn2 hrc Hb1 Hg1
  go_wp2_with fail
  go_loopw [14] (fun i wr => ∃ k : Nat, k ≤ n ∧ i = .int .i64 k ∧ (∀ j (h : j < R.length), j < k → fld t R[j] = fld t p) ∧ ∃ m, wr = w3.drewN m) (fun i _ => n - (intOf i).toNat)
  case atStart => exact ⟨0, Nat.zero_le _, rfl, fun j _ h => absurd h (Nat.not_lt_zero _), 0, rfl⟩
  case round =>
    obtain ⟨k, hk, rfl, hall, m, rfl⟩ := hrel
    have Hall := Lib.hid hall
    clear hall
    by_cases hlt : k < n
    · have d0 : decide ((k : Int) < n) = true := by simp; omega
      have d1 : decide (k < n) = true := by simp; omega
      have hkr : k < R.length := by rw [← Hn.out]; exact hlt
      obtain ⟨ad, rfl, hcell⟩ := Hrc.out.int k (by rw [icast_len]; exact hkr)
      rw [icast_get R k hkr] at hcell
      have hj := Hlt.out k hkr
      have Hnk := Lib.hid (Hno.out k hkr)
      have Hak := Lib.hid (show fld t R[k] = fld t p → ∀ j (h : j < R.length), j < k + 1 → fld t R[j] = fld t p from fun e j hj hjk => by
        by_cases h : j = k
        · subst h; exact e
        · exact Hall.out j hj (by omega))
      generalize R[k] = j at *
      have p0 : 0 ≤ (j : Int) := by omega
      have p1 : (j : Int) < 32 := by omega
      have cj := int_cell HB3.out j (by rw [HL.out]; exact hj)
      obtain ⟨y, hy⟩ : ∃ y, fld t p = y := ⟨_, rfl⟩
      obtain ⟨x, hx⟩ : ∃ x, fld t j = x := ⟨_, rfl⟩
      rw [hx] at cj
      rw [hy] at cp
      have Hx := Lib.hid hx
      have Hy := Lib.hid hy
      clear hx hy
      by_cases hxy : x = y
      · have HA := Lib.hid (Hak.out (by rw [Hx.out, Hy.out, hxy]))
        subst hxy
        have d2 : (x != x) = false := by simp
        go_wp2_with fail
        go_quiet (fail)
        go_wp2_with fail
        go_roundw
        case rel =>
          refine ⟨k + 1, by omega, by go_num, HA.out, m + nq, ?_⟩
          first | rfl | simp only [World.drewN_drewN]
        case measure => simp [intOf]; omega
      · have HF := Lib.hid (Hnk.out (by rw [Hx.out, Hy.out]; exact hxy))
        have d2 : (x != y) = true := by simpa using hxy
        clear hxy
        go_wp2_with fail
        go_quiet (fail)
        go_wp2_with fail
        go_ret
        rw [HF.out]
        refine ⟨rfl, ?_⟩
        first | exact bt E3.out (bdrew _ _) | (simp only [World.drewN_drewN]; exact bt E3.out (bdrew _ _))
    · obtain rfl : k = n := by omega
      have HT := Lib.hid (Hyes.out fun j hj => Hall.out j hj (by have := Hn.out; omega))
      go_wp2_with fail
      go_ret
      rw [HT.out]
      exact ⟨rfl, bt E3.out (bdrew _ _)⟩

def bitX (d : Int) (t : List Int) (p : Int) : Nat := if 0 ≤ p ∧ p < ((2 ^ dpN d : Nat) : Int) then xbitsN (dpN d) t p.toNat else 0
theorem bitX_le (d : Int) (t : List Int) (p : Int) : bitX d t p ≤ 5 := by
  unfold bitX
  split
  · exact Nat.le_trans (xbitsN_le _ _ _) (dpN_le d)
  · omega
theorem bitX_in {d : Int} {t : List Int} {p : Nat} (hp : p < 2 ^ dpN d) : bitX d t p = xbitsN (dpN d) t p := by
  unfold bitX
  rw [if_pos (by omega), Int.toNat_natCast]
set_option maxHeartbeats 1600000 in
theorem xbits_any (d : Int) (t : List Int) (ht : t.length = 32) (p : Int) (w : World) :
    Calls Try.prog 19 #[.agg (icells (d :: t)), .int .i64 p] w fun e w' => e = .returned (.int .i64 (bitX d t p : Nat)) ∧ Below w.heap.size w w' := by
  have HL := Lib.hid ht
  have h5 := dpN_le d
  obtain ⟨R, HR⟩ : ∃ R, Hid (bitX d t p = R) := ⟨_, Lib.hid rfl⟩
  rw [HR.out]
  go_enter Try.func19, Try.ntmps19
  go_wp2_with (refine wpList_box_row rfl _ _ rfl _ rfl ?_)
  apply Stop.go; intro w1 Hg1 Hb1
  go_wp2_with (refine wpList_load_blk rfl _ _ rfl _ rfl _ _ Hb1.out _ Try.underlying30 rfl (Try.ixFits HL.out) ?_)
  refine (xisPlace_any d t ht p _).mono ?_; rintro e w2 ⟨rfl, hb2⟩
  have E2 := Lib.hid (bt Hg1.out.1 hb2)
  have HB2 := Lib.hid (Hb1.out.ext hb2)
  clear hb2 Hb1 Hg1
  obtain ⟨c, Hc⟩ : ∃ c, Hid (isPlB d p = c) := ⟨_, Lib.hid rfl⟩
  rw [Hc.out]
  cases c
  · have HN := Lib.hid (show R = 0 by
      rw [← HR.out]
      unfold bitX
      rw [if_neg]
      have := Hc.out
      unfold isPlB at this
      exact of_decide_eq_false this)
    go_wp2_with fail
    go_ret
    rw [HN.out]
    exact ⟨rfl, E2.out⟩
  · have hp := of_decide_eq_true (show decide (0 ≤ p ∧ p < ((2 ^ dpN d : Nat) : Int)) = true from Hc.out)
    obtain ⟨P, rfl⟩ := Int.eq_ofNat_of_zero_le hp.1
    have hP : P < 2 ^ dpN d := by omega
    have h32 := pow32 h5
    have HRb := Lib.hid (show R = xbitsN (dpN d) t P by rw [← HR.out, bitX_in hP])
    have p0 : 0 ≤ (P : Int) := by omega
    have p1 : (P : Int) < 32 := by omega
    have cP := int_cell HB2.out P (by rw [ht]; omega)
    have HP := Lib.hid hP
    clear hp hP h32 Hc HR
    go_wp2_with (refine wpList_load_blk rfl _ _ rfl _ rfl _ _ HB2.out _ Try.underlying30 rfl (Try.ixFits HL.out) ?_)
    refine (depth_any d t _).mono ?_; rintro e w3 ⟨rfl, hb3⟩
    have E3 := Lib.hid (bt E2.out hb3)
    have HB3 := Lib.hid (HB2.out.ext hb3)
    have cP := int_cell HB3.out P (by rw [HL.out]; omega)
    have HAl := Lib.hid (fun b (hb : b ≤ dpN d) w => isAlike_any d t HL.out P b HP.out hb w)
    have HDn := Lib.hid (fun (k : Nat) (h0 : fld t P ≠ 0) (hk : k ≤ dpN d) => xbitsN_down (D := dpN d) (t := t) (p := P) h0 hk)
    have HTp := Lib.hid (sameB_top (t := t) HP.out)
    have Hz0 := Lib.hid (show fld t P = 0 → R = dpN d from fun h => by rw [HRb.out]; unfold xbitsN; rw [if_pos h])
    obtain ⟨D, hD⟩ : ∃ D, dpN d = D := ⟨_, rfl⟩
    rw [hD] at h5 HAl HDn HTp HRb Hz0 ⊢
    obtain ⟨y, hy⟩ : ∃ y, fld t P = y := ⟨_, rfl⟩
    rw [hy] at cP HDn Hz0
    clear hb3 hD hy HP HB2 E2
    by_cases h0 : y = 0
    · have HF := Lib.hid (Hz0.out h0)
      subst h0
      go_wp2_with fail
      go_ret
      rw [HF.out]
      exact ⟨rfl, E3.out⟩
    · have d0 : (y == 0) = false := by simpa using h0
      have HD2 := Lib.hid (fun (k : Nat) => HDn.out k h0)
      clear h0 HDn Hz0
      go_wp2_with fail
      go_loopw [5] (fun i wr => ∃ k : Nat, k ≤ D ∧ i = .int .i64 k ∧ Hid (sameB D t P k = true) ∧ Hid (Blk wr w.heap.size 30 (icells (d :: t))) ∧ Hid (Below w.heap.size w wr)) (fun i _ => (intOf i).toNat)
      case atStart => exact ⟨D, Nat.le_refl _, rfl, HTp, HB3, E3⟩
      case round =>
        obtain ⟨k, hk, rfl, HSk, HBk, Ek⟩ := hrel
        cases k with
        | zero =>
          have HF := Lib.hid (show R = 0 by rw [HRb.out]; exact HD2.out 0 hk HSk.out (Or.inl rfl))
          go_wp2_with fail
          go_ret
          rw [HF.out]
          exact ⟨rfl, Ek.out⟩
        | succ k =>
          have d1 : decide (0 < ((k + 1 : Nat) : Int)) = true := decide_eq_true (by omega)
          have e1 : (((k + 1 : Nat) : Int) - 1) = (k : Int) := by omega
          obtain ⟨T, hT⟩ : ∃ T : Int, ((k + 1 : Nat) : Int) = T := ⟨_, rfl⟩
          have HT := Lib.hid hT
          rw [hT] at d1 e1 ⊢
          have b1 : 0 < T := by omega
          have b2 : T ≤ 5 := by omega
          clear hT
          go_wp2_with (refine wpList_load_blk rfl _ _ rfl _ rfl _ _ HBk.out _ Try.underlying30 rfl (Try.ixFits HL.out) ?_)
          refine (HAl.out k (by omega) _).mono ?_; rintro e w4 ⟨rfl, hb4⟩
          have HB4 := Lib.hid (HBk.out.ext hb4)
          have E4 := Lib.hid (bt Ek.out hb4)
          obtain ⟨q, Hq⟩ : ∃ q, Hid (sameB D t P k = q) := ⟨_, Lib.hid rfl⟩
          rw [Hq.out]
          clear hb4 HBk Ek
          cases q
          · have HF := Lib.hid (show (R : Int) = T by rw [← HT.out, HRb.out, HD2.out (k + 1) hk HSk.out (Or.inr Hq.out)])
            go_wp2_with fail
            go_ret
            rw [HF.out]
            exact ⟨rfl, E4.out⟩
          · go_wp2_with fail
            go_roundw
            case rel => exact ⟨k, by omega, by first | rfl | go_num, Hq, HB4, E4⟩
            case measure => simp [intOf]; omega

end Go.Proofs.Ythcbjihdbkpkeaa
