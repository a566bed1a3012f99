/-
  Texts of this claim joined: FmpD, Fm1, Fm2, Fm3.
-/
import Derived.Test.YtcdbligdcikphaaGreatGrD
import Derived.Test.YtcdbligdcikphaaGreatFmpC
import Derived.Test.YtcdbligdcikphaaGreatVwC
import Derived.Test.YtcdbligdcikphaaGreatPts1
import Derived.Test.YtcdbligdcikphaaGreatAppM
import Derived.Test.YtcdbligdcikphaaGreatIdxO
import Derived.Test.YtcdbligdcikphaaGreatHeldT
import Derived.Test.YtcdbligdcikphaaGreatArrI
import Derived.Test.YtcdbligdcikphaaGreatRetI
import Derived.Test.YtcdbligdcikphaaGreatIno1

/-
  A file's numbers as they are told, then those of data blocks alone; what it owns, part by part. Plain; no program is named here.
-/
namespace Go.Proofs.YtcdbligdcikphaaGreat
open Go.RowKit

theorem ext_fld {n : Nat} {t u : List Int} (ht : t.length = n) (hu : u.length = n) (h : ∀ i, i < n → fld t i = fld u i) : t = u := by
  apply List.ext_getElem?
  intro i
  by_cases hi : i < n
  · rw [fld_get t i (by omega), fld_get u i (by omega), h i hi]
  · rw [List.getElem?_eq_none (by omega), List.getElem?_eq_none (by omega)]
theorem fld_take (l : List Int) (n k : Nat) (h : k < n) : fld (l.take n) k = fld l k := by
  unfold fld
  rw [List.getD_eq_getElem?_getD, List.getD_eq_getElem?_getD, List.getElem?_take_of_lt h]
theorem fld_drop (l : List Int) (n k : Nat) : fld (l.drop n) k = fld l (n + k) := by
  unfold fld
  rw [List.getD_eq_getElem?_getD, List.getD_eq_getElem?_getD, List.getElem?_drop]
theorem fld_map (f : Int → Int) (l : List Int) (k : Nat) (h : k < l.length) : fld (l.map f) k = f (fld l k) := by
  have e := fld_get l k h
  have e2 := fld_get (l.map f) k (by rw [List.length_map]; exact h)
  rw [List.getElem?_map, e] at e2
  exact (Option.some.inj e2).symm
theorem nmQ_zeros (k : Nat) : nmQ (zeros 256) k = 0 := by
  have h : ∀ n, leVal (List.replicate n (0 : UInt8)) = 0 := fun n => by
    induction n with
    | zero => rfl
    | succ n ih => rw [List.replicate_succ, leVal, ih]; rfl
  unfold nmQ leV zeros
  rw [List.drop_replicate, List.take_replicate, h]
  rfl
theorem getQ_zeros (k : Int) : getQ (zeros 256) k = 0 := by
  unfold getQ
  split
  · exact nmQ_zeros _
  · rfl
theorem datF_zero (l : Lay14) : datF l 0 = 0 := by unfold datF; split <;> rfl
theorem getQ_in (b : List UInt8) (k : Int) : 0 ≤ getQ b k ∧ getQ b k ≤ 65535 := by
  unfold getQ
  split
  · exact nmQ_in b _
  · omega

/-- The block that tells more of them; noughts, where there is none. -/
def ptrF (l : Lay14) (T : Int → List UInt8) (X : List Int) : List UInt8 := if l.isD (fld X 10) then vBk l T (fld X 10) else zeros 256
/-- The six that the inode tells. -/
def dirF (X : List Int) : List Int := (X.drop 4).take 6
theorem dirF_len {X : List Int} (h : X.length = 11) : (dirF X).length = 6 := by unfold dirF; rw [List.length_take, List.length_drop, h]; rfl
theorem dirF_at (X : List Int) {k : Nat} (h : k < 6) : fld (dirF X) k = fld X (4 + k) := by unfold dirF; rw [fld_take _ _ _ h, fld_drop]
/-- All 134, of the block's the first n. -/
def rawF (X : List Int) (b : List UInt8) (n : Nat) : List Int := (List.range 134).map fun j : Nat => if j < 6 then fld X (4 + j) else if j < 6 + n then nmQ b (j - 6) else 0
theorem rawF_len (X : List Int) (b : List UInt8) (n : Nat) : (rawF X b n).length = 134 := by unfold rawF; rw [List.length_map, List.length_range]
theorem rawF_at (X : List Int) (b : List UInt8) (n : Nat) {k : Nat} (hk : k < 134) : fld (rawF X b n) k = if k < 6 then fld X (4 + k) else if k < 6 + n then nmQ b (k - 6) else 0 := by
  unfold fld rawF
  rw [List.getD_eq_getElem?_getD, List.getElem?_map, List.getElem?_range hk]
  rfl
theorem fld_zeros (n k : Nat) : fld (List.replicate n (0 : Int)) k = 0 := by
  unfold fld
  rw [List.getD_eq_getElem?_getD, List.getElem?_replicate]
  split <;> rfl
theorem rawF_zero {X : List Int} (hX : X.length = 11) (b : List UInt8) {P : List Int} (hP : P = List.replicate 134 0) : P.take 0 ++ dirF X ++ P.drop (0 + 6) = rawF X b 0 := by
  subst hP
  have hd := dirF_len hX
  refine ext_fld (n := 134) ?_ (rawF_len _ _ _) fun i hi => ?_
  · rw [List.take_zero, List.nil_append, List.length_append, List.length_drop, List.length_replicate, hd]
  · rw [rawF_at _ _ _ hi, List.take_zero, List.nil_append]
    by_cases h : i < 6
    · rw [if_pos h, ← dirF_at X h]
      unfold fld
      rw [List.getD_eq_getElem?_getD, List.getD_eq_getElem?_getD, List.getElem?_append_left (by omega)]
    · rw [if_neg h, if_neg (by omega)]
      have e : fld (dirF X ++ (List.replicate 134 (0 : Int)).drop (0 + 6)) i = fld ((List.replicate 134 (0 : Int)).drop (0 + 6)) (i - 6) := by
        unfold fld
        rw [List.getD_eq_getElem?_getD, List.getD_eq_getElem?_getD, List.getElem?_append_right (by omega), hd]
      rw [e, fld_drop, fld_zeros]
theorem rawF_set (X : List Int) (b : List UInt8) {n : Nat} (hn : n < 128) : (rawF X b n).set (6 + n) (nmQ b n) = rawF X b (n + 1) := by
  refine ext134 (by rw [List.length_set, rawF_len]) (rawF_len _ _ _) fun i hi => ?_
  rw [fldQ_set _ (6 + n) i _ (by rw [rawF_len]; omega), rawF_at _ _ _ hi, rawF_at _ _ _ hi]
  by_cases h : i = 6 + n
  · subst h
    rw [if_pos rfl, if_neg (by omega), if_pos (by omega), show 6 + n - 6 = n from by omega]
  · rw [if_neg h]
    by_cases h6 : i < 6
    · rw [if_pos h6, if_pos h6]
    · rw [if_neg h6, if_neg h6]
      by_cases h2 : i < 6 + n
      · rw [if_pos h2, if_pos (by omega)]
      · rw [if_neg h2, if_neg (by omega)]
/-- .. the first n of them gone through: what is no data block is 0. -/
def mixF (l : Lay14) (r : List Int) (n : Nat) : List Int := (List.range 134).map fun j : Nat => if j < n then datF l (fld r j) else fld r j
theorem mixF_len (l : Lay14) (r : List Int) (n : Nat) : (mixF l r n).length = 134 := by unfold mixF; rw [List.length_map, List.length_range]
theorem mixF_at (l : Lay14) (r : List Int) (n : Nat) {k : Nat} (hk : k < 134) : fld (mixF l r n) k = if k < n then datF l (fld r k) else fld r k := by
  unfold fld mixF
  rw [List.getD_eq_getElem?_getD, List.getElem?_map, List.getElem?_range hk]
  rfl
theorem mixF_zero (l : Lay14) {r : List Int} (hr : r.length = 134) : mixF l r 0 = r := ext134 (mixF_len _ _ _) hr fun i hi => by rw [mixF_at _ _ _ hi, if_neg (by omega)]
theorem mixF_set (l : Lay14) (r : List Int) {n : Nat} (hn : n < 134) : (mixF l r n).set n (datF l (fld r n)) = mixF l r (n + 1) := by
  refine ext134 (by rw [List.length_set, mixF_len]) (mixF_len _ _ _) fun i hi => ?_
  rw [fldQ_set _ n i _ (by rw [mixF_len]; exact hn), mixF_at _ _ _ hi, mixF_at _ _ _ hi]
  by_cases h : i = n
  · subst h
    rw [if_pos rfl, if_pos (by omega)]
  · rw [if_neg h]
    by_cases h2 : i < n
    · rw [if_pos h2, if_pos (by omega)]
    · rw [if_neg h2, if_neg (by omega)]
section
variable {l : Lay14} {T : Int → List UInt8} {X : List Int}
theorem ptrF_len (hT : ∀ no, (T no).length = 256) : (ptrF l T X).length = 256 := by
  unfold ptrF
  split
  · exact vBk_len hT _
  · exact zeros_len _
theorem ptrF_yes (h : l.isD (fld X 10) = true) : ptrF l T X = vBk l T (fld X 10) := by unfold ptrF; rw [h]; rfl
theorem ptrF_no (h : l.isD (fld X 10) = false) : ptrF l T X = zeros 256 := by unfold ptrF; rw [h]; rfl
theorem atF_ptr (h : fld X 0 = 1) (k : Nat) : atF l T X (6 + k) = datF l (nmQ (ptrF l T X) k) := by
  cases hd : l.isD (fld X 10)
  · rw [atF_none hd (by omega), ptrF_no hd, nmQ_zeros, datF_zero]
  · rw [atF_high h hd, ptrF_yes hd]
theorem atI_ptr (h : fld X 0 = 1) {k : Int} (hk : 6 ≤ k) : atI l T X k = datF l (getQ (ptrF l T X) (k - 6)) := by
  by_cases h2 : k < 134
  · obtain ⟨q, rfl⟩ := Int.eq_ofNat_of_zero_le (show 0 ≤ k by omega)
    have := atF_ptr (l := l) (T := T) h (q - 6)
    rw [show 6 + (q - 6) = q from by omega] at this
    rw [atI_nat (by omega), this, show (q : Int) - 6 = ((q - 6 : Nat) : Int) from by omega, getQ_nat _ (by omega)]
  · rw [atI_off (by omega), getQ_no _ (by unfold placeQ; rw [decide_eq_false_iff_not]; omega), datF_zero]
theorem atI_low (h : fld X 0 = 1) {q : Nat} (hq : q < 6) : atI l T X (q : Int) = datF l (fld X (4 + q)) := by rw [atI_nat (by omega)]; exact atF_low h hq
theorem atI_kind (h : fld X 0 ≠ 1) (k : Int) : atI l T X k = 0 := by
  by_cases h2 : 0 ≤ k ∧ k < 134
  · obtain ⟨q, rfl⟩ := Int.eq_ofNat_of_zero_le h2.1
    rw [atI_nat (by omega)]
    exact atF_kind h q
  · exact atI_off h2
theorem mixF_all (h : fld X 0 = 1) : mixF l (rawF X (ptrF l T X) 128) 134 = allF l T X := by
  refine ext134 (mixF_len _ _ _) allF_len fun i hi => ?_
  rw [mixF_at _ _ _ hi, if_pos hi, rawF_at _ _ _ hi, allF_at hi]
  by_cases h6 : i < 6
  · rw [if_pos h6, atF_low h h6]
  · have := atF_ptr (l := l) (T := T) h (i - 6)
    rw [show 6 + (i - 6) = i from by omega] at this
    rw [if_neg h6, if_pos (by omega), this]
theorem allF_zero (h : fld X 0 ≠ 1) : allF l T X = List.replicate 134 0 := by
  have e : allF l T X = partF l T X 0 := (partF_kind h).symm
  rw [e, partF_zero]
end
/-! What is owned -/
theorem some_dat (l : Lay14) (t : List Int) : someF (t.map (datF l)) = dataF l t := by
  unfold someF dataF
  induction t with
  | nil => rfl
  | cons x t ih =>
    rw [List.map_cons]
    cases hd : l.isD x
    · rw [datF_no hd, List.filter_cons_of_neg (by simp), List.filter_cons_of_neg (by simp [hd]), ih]
    · rw [datF_yes hd, List.filter_cons_of_pos (by simpa using (isD_pos hd).1), List.filter_cons_of_pos hd, ih]
theorem data_some (l : Lay14) (t : List Int) : dataF l (someF t) = dataF l t := by
  unfold someF dataF
  rw [List.filter_filter]
  refine List.filter_congr fun x _ => ?_
  cases hd : l.isD x
  · rfl
  · have := (isD_pos hd).1
    simp [this]
theorem lis_some (b : List UInt8) : ∀ n, lisQ b n = someF ((List.range n).map (nmQ b))
  | 0 => rfl
  | n + 1 => by
    rw [List.range_succ, List.map_append, List.map_cons, List.map_nil, someF_snoc, ← lis_some b n]
    rfl
section
variable {l : Lay14} {T : Int → List UInt8} {X : List Int}
theorem all_dir (h : fld X 0 = 1) (hX : X.length = 11) : (allF l T X).take 6 = (dirF X).map (datF l) := by
  have hd := dirF_len hX
  refine ext_fld (n := 6) (by rw [List.length_take, allF_len]; rfl) (by rw [List.length_map, hd]) fun i hi => ?_
  rw [fld_take _ _ _ hi, fld_map _ _ _ (by omega), dirF_at X hi, allF_at (by omega), atF_low h hi]
theorem all_ptr (h : fld X 0 = 1) : (allF l T X).drop 6 = (numsQ (ptrF l T X)).map (datF l) := by
  refine ext_fld (n := 128) (by rw [List.length_drop, allF_len]) (by rw [List.length_map, numsQ_len]) fun i hi => ?_
  rw [fld_drop, fld_map _ _ _ (by rw [numsQ_len]; exact hi), numsQ_at _ hi, allF_at (by omega), atF_ptr h]
theorem data_zeros (l : Lay14) : dataF l (numsQ (zeros 256)) = [] := by
  rw [← data_some]
  have e : someF (numsQ (zeros 256)) = [] := by
    unfold someF
    rw [List.filter_eq_nil_iff]
    intro x hx
    unfold numsQ at hx
    obtain ⟨k, _, rfl⟩ := List.mem_map.1 hx
    rw [nmQ_zeros]
    decide
  rw [e]
  rfl
/-- .. of a file. -/
theorem own_file (h : fld X 0 = 1) (hX : X.length = 11) : ownF l T X = if l.isD (fld X 10) then (dataF l (dirF X) ++ [fld X 10]) ++ dataF l (lisQ (vBk l T (fld X 10)) 128) else dataF l (dirF X) := by
  unfold ownF
  rw [if_neg (by omega), all_dir h hX, all_ptr h, some_dat, some_dat]
  unfold indF
  rw [decide_eq_true h, Bool.true_and]
  cases hd : l.isD (fld X 10)
  · rw [ptrF_no hd, data_zeros]
    simp
  · rw [ptrF_yes hd, lis_some, data_some, if_pos rfl, if_pos rfl, ← List.append_assoc]
    rfl
theorem own_dir (h : fld X 0 = 2) : ownF l T X = if isF l T X then [fld X 4] ++ bukF l T X else [] := by
  unfold ownF
  rw [if_pos h]
  cases hi : isF l T X
  · unfold bukF
    rw [hi]
    rfl
  · rfl
theorem own_other (h1 : fld X 0 ≠ 1) (h2 : fld X 0 ≠ 2) : ownF l T X = [] := by
  have hz := all_none (l := l) (T := T) h1
  rw [someF_split _ 6, List.append_eq_nil_iff] at hz
  unfold ownF indF
  rw [if_neg h2, hz.1, hz.2, decide_eq_false h1]
  rfl
end

end Go.Proofs.YtcdbligdcikphaaGreat

/-
  Contracts of package fmap: ifData, pointers, keepData, At.
-/
namespace Go.Proofs.YtcdbligdcikphaaGreat
open Go.RowKit
set_option maxRecDepth 10000

set_option maxHeartbeats 800000 in
theorem fdata_any (l : Lay14) (f : Value) (no : Int) (w : World) :
    Calls Tryz.prog 84 #[.agg (vval l f), .int .i64 no] w fun e w' => e = .returned (.int .i64 (datF l no)) ∧ Below w.heap.size w w' := by
  have HY := Lib.hid (fun h => datF_yes (l := l) (no := no) h)
  have HN := Lib.hid (fun h => datF_no (l := l) (no := no) h)
  go_enter Tryz.func84, Tryz.ntmps84
  go_wp2_with (refine wpList_box_row rfl _ _ rfl _ rfl ?_)
  apply Stop.go; intro w1 Hg1 Hb1
  go_wp2_with (refine wpList_load_cells rfl _ _ rfl ⟨w.heap.size, 0, none⟩ rfl _ Tryz.underlying26 (Lay14.val l).toList Tryz.laySize (vval_cells Hb1.out) ?_)
  refine (isdata_any l no _).mono ?_; rintro e w2 ⟨rfl, hb2⟩
  have E2 := Lib.hid (bt Hg1.out.1 hb2)
  clear hb2 Hg1 Hb1
  cases hd : l.isD no
  · have H0 := Lib.hid (HN.out hd)
    clear hd HY HN
    go_wp2_with fail
    go_ret
    rw [H0.out]
    exact ⟨rfl, E2.out⟩
  · have H0 := Lib.hid (HY.out hd)
    clear hd HY HN
    go_wp2_with fail
    go_ret
    rw [H0.out]
    exact ⟨rfl, E2.out⟩

set_option maxHeartbeats 1600000 in
theorem fptr_any (l : Lay14) (f : Value) (T : Int → List UInt8) (hT : ∀ no, (T no).length = 256) (X : List Int) (hX : X.length = 11) (w : World) (hf : FV w l f T) :
    Calls Tryz.prog 82 #[.agg (vval l f), .agg (icells X)] w fun e w' => e = .returned (.agg (bcells (ptrF l T X))) ∧ Below w.heap.size w w' := by
  have HXL := Lib.hid hX
  have HF := Lib.hid hf
  have HzL : Hid ((zeros 256).length = 256) := Lib.hid (zeros_len _)
  obtain ⟨I, HI⟩ : ∃ I, Hid (fld X 10 = I) := ⟨_, Lib.hid rfl⟩
  have HBk := Lib.hid (fun w h => vblock_any l f T hT I w h)
  have HBL := Lib.hid (vBk_len (l := l) hT I)
  have HY := Lib.hid (fun h : l.isD I = true => show ptrF l T X = vBk l T I by rw [ptrF_yes (by rw [HI.out]; exact h), HI.out])
  have HN := Lib.hid (fun h : l.isD I = false => show ptrF l T X = zeros 256 from ptrF_no (by rw [HI.out]; exact h))
  clear hT hX hf
  go_enter Tryz.func82, Tryz.ntmps82
  go_wp2_with (refine wpList_box_row rfl _ _ rfl _ rfl ?_)
  apply Stop.go; intro w1 Hg1 Hb1
  go_wp2_with (refine wpList_box_row rfl _ _ rfl _ rfl ?_)
  apply Stop.go; intro w2 Hg2 Hb2
  have HV2 := Lib.hid (Hb1.out.ext Hg2.out.1)
  have E2 := Lib.hid (bt Hg1.out.1 Hg2.out.1)
  have z2 := Lib.hid (show w.heap.size < w1.heap.size ∧ w1.heap.size < w2.heap.size by have := Hg1.out.2; have := Hg2.out.2; omega)
  generalize w1.heap.size = g1 at *
  clear Hg1 Hb1 Hg2
  go_wp2_with (refine wpList_alloc_row rfl _ rfl _ Tryz.blockZero ?_)
  apply Stop.go; intro w3 Hg3 Hb3
  have HV3 := Lib.hid (HV2.out.ext Hg3.out.1)
  have HX3 := Lib.hid (Hb2.out.ext Hg3.out.1)
  have E3 := Lib.hid (bt E2.out Hg3.out.1)
  have z3 := Lib.hid (show w.heap.size < w2.heap.size ∧ g1 < w2.heap.size by have := z2.out; omega)
  generalize w2.heap.size = gz at *
  clear Hg3 Hb2 HV2 E2 z2
  have c10 : w3.cell? ⟨g1, 10, none⟩ = some (.int .i64 I) := by rw [← HI.out]; exact HX3.out.fld 10 (by rw [HXL.out]; omega)
  go_wp2_with (refine wpList_load_cells rfl _ _ rfl ⟨w.heap.size, 0, none⟩ rfl _ Tryz.underlying26 (Lay14.val l).toList Tryz.laySize (vval_cells HV3.out) ?_)
  refine (isdata_any l I _).mono ?_; rintro e w4 ⟨rfl, hb4⟩
  have HV4 := Lib.hid (HV3.out.ext hb4)
  have HX4 := Lib.hid (HX3.out.ext hb4)
  have HB4 := Lib.hid (Hb3.out.ext hb4)
  have E4 := Lib.hid (bt E3.out hb4)
  have HF4 := Lib.hid (HF.out.below E4.out)
  clear hb4 HV3 HX3 Hb3 E3 c10 HF
  cases hd : l.isD I
  · have H0 := Lib.hid (HN.out hd)
    clear hd HY HN
    go_wp2_with (first | refine wpList_build_zero rfl _ rfl _ Tryz.blockZero _ _ Tryz.underlying55 Tryz.byteSize ?_ | refine wpList_store_arr rfl _ _ _ rfl _ _ rfl rfl _ _ HB4.out (Tryz.blockFits HzL.out) rfl (oneCell_bcells _) ?_)
    apply Stop.go; intro we Hoe Hbe
    go_wp2_with ((with_reducible show bodyPost _ _ _ _ _ _); refine bodyPost_cell rfl _ rfl _ _ Hbe.out _ _ Tryz.underlying55 (Tryz.blockFits HzL.out) rfl ?_)
    apply Stop.go
    rw [H0.out]
    exact ⟨rfl, bonly E4.out Hoe.out (by have := z3.out; omega)⟩
  · have H0 := Lib.hid (HY.out hd)
    have c10 : w4.cell? ⟨g1, 10, none⟩ = some (.int .i64 I) := by rw [← HI.out]; exact HX4.out.fld 10 (by rw [HXL.out]; omega)
    clear hd HY HN
    go_wp2_with (refine wpList_load_blk rfl _ _ rfl _ rfl _ _ HV4.out _ Tryz.underlying29 rfl Tryz.viewSize ?_)
    refine (HBk.out _ HF4.out).mono ?_; rintro e w5 ⟨rfl, hb5⟩
    have HB5 := Lib.hid (HB4.out.ext hb5)
    have E5 := Lib.hid (bt E4.out hb5)
    clear hb5 HV4 HX4 HB4 E4 c10 HF4
    generalize vBk l T I = b at *
    go_wp2_with (refine wpList_store_arr rfl _ _ _ rfl _ _ rfl rfl _ _ HB5.out (Tryz.blockFits HBL.out) (by rw [bcells_size, bcells_size, HBL.out, HzL.out]) (oneCell_bcells _) ?_)
    apply Stop.go; intro we Hoe Hbe
    go_wp2_with ((with_reducible show bodyPost _ _ _ _ _ _); refine bodyPost_cell rfl _ rfl _ _ Hbe.out _ _ Tryz.underlying55 (Tryz.blockFits HBL.out) rfl ?_)
    apply Stop.go
    rw [H0.out]
    exact ⟨rfl, bonly E5.out Hoe.out (by have := z3.out; omega)⟩

set_option maxHeartbeats 1600000 in
theorem fkeep_any (l : Lay14) (f : Value) (A : Option Addr) (n cap : Nat) (t : List Int) (hn : t.length = n) (hm : n ≤ 134) (w : World) (hr : RC w A (ivals t)) :
    Calls Tryz.prog 71 #[.agg (vval l f), .slice A n cap] w (RetL w (dataF l t)) := by
  have Hn := Lib.hid hn
  have Hr := Lib.hid hr
  clear hn hr
  go_enter Tryz.func71, Tryz.ntmps71
  go_wp2_with (refine wpList_box_row rfl _ _ rfl _ rfl ?_)
  apply Stop.go; intro w1 Hg1 Hb1
  have HR1 := Lib.hid (Hr.out.below Hg1.out.1)
  have E1 := Lib.hid Hg1.out.1
  clear Hg1 Hr
  go_wp2_with fail
  go_loopw [5, 10] (fun u z wr => ∃ k : Nat, k ≤ n ∧ z = .int .i64 k ∧ Hid (Below w1.heap.size w1 wr) ∧ Hid (OwnC wr w1.heap.size 3 u (ivals (dataF l (t.take k))))) (fun _ z _ => n - (intOf z).toNat)
  case atStart => exact ⟨0, Nat.zero_le _, rfl, Lib.hid (Below.refl _ _), Lib.hid (OwnC.nil_ _ _ _)⟩
  case round =>
    obtain ⟨k, hk, rfl, E, HO⟩ := hrel
    by_cases hlt : k < n
    · have hkl : k < t.length := by rw [Hn.out]; exact hlt
      have d1 : decide ((k : Int) < (n : Int)) = true := by simp; omega
      have p0 : (0 : Int) ≤ (k : Int) := by omega
      have p1 : (k : Int) < (n : Int) := by omega
      have HV := Lib.hid (Hb1.out.ext E.out)
      have HRn := Lib.hid (HR1.out.below E.out)
      obtain ⟨ad, rfl, hcad⟩ := HRn.out.int k hkl
      have hfk : t[k] = fld t k := by
        have := fld_get t k hkl
        rw [List.getElem?_eq_getElem hkl] at this
        exact Option.some.inj this
      rw [hfk] at hcad
      have HNx := Lib.hid (dataF_next (l := l) hkl)
      have HLn := Lib.hid (show (dataF l (t.take k)).length ≤ k from Nat.le_trans (dataF_len _ _) (by rw [List.length_take]; omega))
      generalize fld t k = x at *
      clear hfk hkl
      go_wp2_with (refine wpList_load_cells rfl _ _ rfl ⟨w.heap.size, 0, none⟩ rfl _ Tryz.underlying26 (Lay14.val l).toList Tryz.laySize (vval_cells HV.out) ?_)
      refine (isdata_any l x _).mono ?_; rintro e wa ⟨rfl, hba⟩
      have HOa := Lib.hid (HO.out.ext hba)
      have Ea := Lib.hid (bt E.out hba)
      have Za := Lib.hid Ea.out.size
      clear hba HV HO E HRn hcad
      cases hdx : l.isD x
      · have HN := Lib.hid (show dataF l (t.take (k + 1)) = dataF l (t.take k) by rw [HNx.out, hdx]; rfl)
        clear hdx HNx
        go_wp2_with fail
        go_roundw
        case rel => exact ⟨k + 1, by omega, by go_num, Ea, Lib.hid (by rw [HN.out]; exact HOa.out)⟩
        case measure => simp [intOf]; omega
      · have HN := Lib.hid (show dataF l (t.take (k + 1)) = dataF l (t.take k) ++ [x] by rw [HNx.out, hdx]; rfl)
        have hl1 : (ivals (dataF l (t.take k))).length + 1 ≤ maxLen := by rw [ivals_len]; unfold maxLen; have := HLn.out; omega
        have hl2 : ((ivals (dataF l (t.take k))).length + 1) * 8 ≤ 140737488355328 := by rw [ivals_len]; have := HLn.out; omega
        clear hdx HNx
        go_wp2_with (at_builtin; refine wpList_append_one rfl _ _ _ _ rfl Tryz.underlying50 (.int .i64 0) 8 Tryz.intInfo rfl w1.heap.size _ _ rfl HOa.out (.int .i64 x) rfl rfl Za.out hl1 hl2 ?_)
        apply Stop.go
        intro v' wb Hv' Ha'
        have HO3 := Lib.hid (show OwnC wb w1.heap.size 3 v' (ivals (dataF l (t.take (k + 1)))) by rw [HN.out, ← ivals_snoc]; exact Hv'.out)
        have E3 := Lib.hid (Ea.out.trans Ha'.out.below)
        clear Hv' Ha' HOa Ea hl1 hl2 HLn Za
        go_wp2_with fail
        go_roundw
        case rel => exact ⟨k + 1, by omega, by go_num, E3, HO3⟩
        case measure => simp [intOf]; omega
    · obtain rfl : k = n := by omega
      have d1 : decide ((k : Int) < (k : Int)) = false := by simp
      rw [List.take_of_length_le (by rw [Hn.out]; omega)] at HO
      go_wp2_with fail
      go_ret
      exact ⟨_, rfl, HO.out.low E1.out.size, bt E1.out E.out⟩


end Go.Proofs.YtcdbligdcikphaaGreat

/-
  Contract of package fmap: blocks, all 134 of a file by value.
-/
namespace Go.Proofs.YtcdbligdcikphaaGreat
open Go.RowKit
set_option maxRecDepth 10000

/-- 134 noughts. -/
def zeroF : List Int := List.replicate 134 0
theorem zeroF_len : zeroF.length = 134 := List.length_replicate
theorem sameF {t u : List Int} (h : t.length = 134) (h' : u.length = 134) : (icells t).size = (icells u).size := by rw [icells_size, icells_size, h, h']

theorem Tryz.zeroFd : (Tryz.prog.info? 89).map (·.zero) = some (some (.agg (icells zeroF))) := by kernel_rfl
theorem Tryz.fitsF {l : List Int} (h : l.length = 134) : (Tryz.prog.info? 89).map (·.size) = some (icells l).size := by rw [icells_size, h]; kernel_rfl
set_option maxHeartbeats 6400000 in
theorem fall_any (l : Lay14) (f : Value) (T : Int → List UInt8) (hT : ∀ no, (T no).length = 256) (X : List Int) (hX : X.length = 11) (w : World) (hf : FV w l f T) :
    Calls Tryz.prog 48 #[.agg (vval l f), .agg (icells X)] w fun e w' => e = .returned (.agg (icells (allF l T X))) ∧ Below w.heap.size w w' := by
  have HXL := Lib.hid hX
  have HF := Lib.hid hf
  have HzL := Lib.hid zeroF_len
  obtain ⟨K, HK⟩ : ∃ K, Hid (fld X 0 = K) := ⟨_, Lib.hid rfl⟩
  obtain ⟨al, HAL⟩ : ∃ al, Hid (allF l T X = al) := ⟨_, Lib.hid rfl⟩
  have HPt := Lib.hid (fun w h => fptr_any l f T hT X hX w h)
  have HPL := Lib.hid (ptrF_len (l := l) (X := X) hT)
  have HDt := Lib.hid (fun no (w : World) => fdata_any l f no w)
  have HN := Lib.hid (fun h : K ≠ 1 => show al = zeroF by rw [← HAL.out]; exact allF_zero (by rw [HK.out]; exact h))
  obtain ⟨b, HB⟩ : ∃ b, Hid (ptrF l T X = b) := ⟨_, Lib.hid rfl⟩
  have HY := Lib.hid (fun h : K = 1 => show mixF l (rawF X b 128) 134 = al by rw [← HAL.out, ← HB.out]; exact mixF_all (by rw [HK.out]; exact h))
  have HR0 := Lib.hid (rawF_zero hX b (P := zeroF) rfl)
  have HDL := Lib.hid (dirF_len hX)
  have HRL := Lib.hid (rawF_len X b)
  have HRS := Lib.hid (fun (n : Nat) (h : n < 128) => rawF_set X b h)
  have HG := Lib.hid (fun (k : Nat) (hk : k < 128) w => show Calls Tryz.prog 83 #[.agg (bcells b), .int .i64 (k : Int)] w fun e w' => e = .returned (.int .i64 (nmQ b k)) ∧ Below w.heap.size w w' by
    have := qget_any b (by rw [← HB.out]; exact HPL.out) (k : Int) w
    rw [getQ_nat b hk] at this
    exact this)
  rw [HB.out] at HPt HPL
  rw [HAL.out]
  clear hT hX hf HAL HB
  go_enter Tryz.func48, Tryz.ntmps48
  go_wp2_with (refine wpList_box_row rfl _ _ rfl _ rfl ?_)
  apply Stop.go; intro w1 Hg1 Hb1
  go_wp2_with (refine wpList_box_row rfl _ _ rfl _ rfl ?_)
  apply Stop.go; intro w2 Hg2 Hb2
  have HV2 := Lib.hid (Hb1.out.ext Hg2.out.1)
  have E2 := Lib.hid (bt Hg1.out.1 Hg2.out.1)
  have z2 := Lib.hid (show w.heap.size < w1.heap.size ∧ w1.heap.size < w2.heap.size by have := Hg1.out.2; have := Hg2.out.2; omega)
  generalize w1.heap.size = g1 at *
  clear Hg1 Hb1 Hg2
  go_wp2_with (refine wpList_alloc_row rfl _ rfl _ Tryz.zeroFd ?_)
  apply Stop.go; intro w3 Hg3 Hb3
  have HV3 := Lib.hid (HV2.out.ext Hg3.out.1)
  have HX3 := Lib.hid (Hb2.out.ext Hg3.out.1)
  have E3 := Lib.hid (bt E2.out Hg3.out.1)
  have z3 := Lib.hid (show w.heap.size < w2.heap.size ∧ g1 < w2.heap.size ∧ w2.heap.size < w3.heap.size by have := z2.out; have := Hg3.out.2; omega)
  generalize w2.heap.size = gz at *
  clear Hg3 Hb2 HV2 E2 z2
  go_wp2_with (refine wpList_alloc_row rfl _ rfl _ Tryz.zeroFd ?_)
  apply Stop.go; intro w4 Hg4 Hb4
  have HV4 := Lib.hid (HV3.out.ext Hg4.out.1)
  have HX4 := Lib.hid (HX3.out.ext Hg4.out.1)
  have HZ4 := Lib.hid (Hb3.out.ext Hg4.out.1)
  have E4 := Lib.hid (bt E3.out Hg4.out.1)
  have z4 := Lib.hid (show w.heap.size < gz ∧ g1 < gz ∧ gz < w3.heap.size ∧ w3.heap.size < w4.heap.size by have := z3.out; have := Hg4.out.2; omega)
  generalize w3.heap.size = gl at *
  clear Hg4 Hb3 HV3 HX3 E3 z3
  have c0 : w4.cell? ⟨g1, 0, none⟩ = some (.int .i64 K) := by rw [← HK.out]; exact HX4.out.fld 0 (by rw [HXL.out]; omega)
  by_cases hK : K = 1
  rotate_left
  · have q1 : (K != 1) = true := by simpa using hK
    obtain rfl := HN.out hK
    clear hK HN HY
    go_wp2_with (first | refine wpList_load_blk rfl _ _ rfl _ rfl _ _ Hb4.out _ Tryz.underlying89 rfl (Tryz.fitsF HzL.out) ?_ | refine wpList_store_arr rfl _ _ _ rfl _ _ rfl rfl _ _ HZ4.out (Tryz.fitsF HzL.out) (sameF HzL.out HzL.out) (oneCell_icells _) ?_)
    apply Stop.go; intro we Hoe Hbe
    go_wp2_with ((with_reducible show bodyPost _ _ _ _ _ _); refine bodyPost_cell rfl _ rfl _ _ Hbe.out _ _ Tryz.underlying89 (Tryz.fitsF HzL.out) rfl ?_)
    apply Stop.go
    exact bonly E4.out Hoe.out (by have := z4.out; omega)
  · have q1 : (K != 1) = false := by simpa using hK
    have HY := Lib.hid (HY.out hK)
    clear hK HN
    go_wp2_with fail
    refine WT.start 3 (S := fun w' : World => Blk w' gl 89 (icells zeroF) ∧ Blk w' g1 39 (icells X)) [false, false, false, false] 4 rfl rfl (by kernel_rfl) ⟨Hb4.out.ext (bdrew w4 1), HX4.out.ext (bdrew w4 1)⟩ (fun hSn => ?_); obtain ⟨wS, hwS⟩ : ∃ x, (w4).drew = x := ⟨_, rfl⟩; have HE := Lib.hid (show Below (w4).heap.size (w4) wS from hwS ▸ bdrew w4 1); rw [hwS] at hSn ⊢; clear hwS
    refine WT.tv 0 rfl (fun w' hSw => exec_slice_whole _ _ rfl 134 _ Tryz.underlying89 Tryz.int1Size gl 0 rfl) ?_; simp only [setL]
    refine WT.tk 1 ?_; simp only [setL]
    refine WT.tv 2 rfl (fun w' hSw => exec_slice_whole _ _ rfl 6 _ Tryz.underlying37 Tryz.int1Size g1 4 rfl) ?_; simp only [setL]
    refine WT.last _ rfl (by kernel_rfl) rfl (fun K hK => ?_)
    have hrc : RC wS (some ⟨g1, 4, none⟩) (ivals (dirF X)) := RC.of_blk_at hSn.2 4 6
    refine ow_copy_ints_at _ _ _ _ rfl _ Tryz.underlying50 Tryz.int1Size gl 0 134 134 zeroF _ rfl hSn.1 ⟨g1, 4, none⟩ 6 6 (dirF X) rfl HDL.out (by omega) (by rw [HzL.out]; omega) hrc ?_
    apply Stop.go; intro w5 Ho5 Hb5
    have HR5 := Lib.hid (show Blk w5 gl 89 (icells (rawF X b 0)) by
      have h := Hb5.out
      rw [HR0.out] at h
      exact h)
    have HV5 := Lib.hid ((HV4.out.ext HE.out).only Ho5.out (by have := z4.out; omega))
    have HX5 := Lib.hid ((HX4.out.ext HE.out).only Ho5.out (by have := z4.out; omega))
    have HZ5 := Lib.hid ((HZ4.out.ext HE.out).only Ho5.out (by have := z4.out; omega))
    have E5 := Lib.hid (bonly (bt E4.out HE.out) Ho5.out (by have := z4.out; omega))
    refine hK _ _ ?_; clear hK; clear K; simp only [setL]; refine WT.done (by kernel_rfl) ?_
    clear hrc HE hSn Ho5 Hb5 HV4 HX4 HZ4 E4 HR0 HDL c0 Hb4
    have HF5 := Lib.hid (HF.out.below E5.out)
    go_wp2_with (first | refine wpList_load_blk rfl _ _ rfl _ rfl _ _ HV5.out _ Tryz.underlying29 rfl Tryz.viewSize ?_ | refine wpList_load_blk rfl _ _ rfl _ rfl _ _ HX5.out _ Tryz.underlying39 rfl (Tryz.inoFits HXL.out) ?_)
    refine (HPt.out _ HF5.out).mono ?_; rintro e w6 ⟨rfl, hb6⟩
    have HV6 := Lib.hid (HV5.out.ext hb6)
    have HR6 := Lib.hid (HR5.out.ext hb6)
    have HZ6 := Lib.hid (HZ5.out.ext hb6)
    have E6 := Lib.hid (bt E5.out hb6)
    clear hb6 HV5 HR5 HZ5 E5 HX5 HF5 HF HPt
    have HbzL : Hid ((zeros 256).length = 256) := Lib.hid (zeros_len _)
    go_wp2_with (refine wpList_alloc_row rfl _ rfl _ Tryz.blockZero ?_)
    apply Stop.go; intro w7 Hg7 Hb7
    go_wp2_with (refine wpList_store_arr rfl _ _ _ rfl _ _ rfl rfl _ _ Hb7.out (Tryz.blockFits HPL.out) (by rw [bcells_size, bcells_size, HPL.out, HbzL.out]) (oneCell_bcells _) ?_)
    apply Stop.go; intro w8 Ho8 Hb8
    have D := Lib.hid (bonly Hg7.out.1 Ho8.out (Nat.le_refl _))
    have HV8 := Lib.hid (HV6.out.ext D.out)
    have HR8 := Lib.hid (HR6.out.ext D.out)
    have HZ8 := Lib.hid (HZ6.out.ext D.out)
    have E8 := Lib.hid (bt E6.out D.out)
    have z8 := Lib.hid (show w.heap.size < gz ∧ gz < gl ∧ gl < w6.heap.size by have := z4.out; have := HR6.out.lt; omega)
    generalize w6.heap.size = gt at *
    clear Hg7 Hb7 Ho8 D HV6 HR6 HZ6 E6 z4
    go_wp2_with fail
    go_loopw [21] (fun z wr => ∃ k : Nat, k ≤ 128 ∧ z = .int .i64 k ∧ Hid (Below w.heap.size w wr) ∧ Hid (Blk wr w.heap.size 29 (vval l f)) ∧ Hid (Blk wr gz 89 (icells zeroF)) ∧ Hid (Blk wr gt 55 (bcells b)) ∧ Hid (Blk wr gl 89 (icells (rawF X b k)))) (fun z _ => 128 - (intOf z).toNat)
    case atStart => exact ⟨0, Nat.zero_le _, rfl, E8, HV8, HZ8, Hb8, HR8⟩
    case round =>
      obtain ⟨k, hk, rfl, E, HV, HZ, HB, HR⟩ := hrel
      clear E8 HV8 HZ8 Hb8 HR8
      by_cases hlt : k < 128
      · have d1 : decide ((k : Int) < 128) = true := by simp; omega
        have HGk := Lib.hid (HG.out k hlt)
        have HS := Lib.hid (HRS.out k hlt)
        obtain ⟨q, hq⟩ : ∃ q, 6 + k = q := ⟨_, rfl⟩
        rw [hq] at HS
        have hw : IntKind.i64.wrap (6 + (k : Int)) = (q : Int) := by rw [IntWalk.i64_in _ (by omega)]; omega
        have p0 : (0 : Int) ≤ (q : Int) := by omega
        have p1 : (q : Int) < 134 := by omega
        have Hq := Lib.hid (show q < 134 by omega)
        have HRk := Lib.hid (HRL.out k)
        obtain ⟨P1, HP1⟩ : ∃ P1, Hid (rawF X b (k + 1) = P1) := ⟨_, Lib.hid rfl⟩
        rw [HP1.out] at HS
        obtain ⟨P0, HP0⟩ : ∃ P0, Hid (rawF X b k = P0) := ⟨_, Lib.hid rfl⟩
        rw [HP0.out] at HS HRk HR
        generalize nmQ b k = x at *
        clear hq HP0
        go_wp2_with (refine wpList_load_arr rfl _ _ rfl _ rfl _ _ HB.out _ _ Tryz.underlying55 (Tryz.blockFits HPL.out) ?_)
        refine (HGk.out _).mono ?_; rintro e wa ⟨rfl, hba⟩
        have HVa := Lib.hid (HV.out.ext hba)
        have HZa := Lib.hid (HZ.out.ext hba)
        have HBa := Lib.hid (HB.out.ext hba)
        have HRa := Lib.hid (HR.out.ext hba)
        have Ea := Lib.hid (bt E.out hba)
        clear hba HV HZ HB HR E HGk
        go_wp2_with (refine wpList_store_cell rfl _ _ _ rfl Tryz.int1Size gl q rfl (.int .i64 x) rfl rfl rfl _ _ HRa.out (by rw [icells_size, HRk.out]; exact Hq.out) ?_)
        apply Stop.go; intro wb Hob Hbb
        have HRb := Lib.hid (show Blk wb gl 89 (icells P1) by
          have h := Hbb.out
          rw [icells_set, HS.out] at h
          exact h)
        have HVb := Lib.hid (HVa.out.only Hob.out (by have := z8.out; omega))
        have HZb := Lib.hid (HZa.out.only Hob.out (by have := z8.out; omega))
        have HBb := Lib.hid (HBa.out.only Hob.out (by have := z8.out; omega))
        have Eb := Lib.hid (bonly Ea.out Hob.out (by have := z8.out; omega))
        clear Hob Hbb HRa HVa HZa HBa Ea p0 p1 hw
        go_wp2_with fail
        go_roundw
        case rel => exact ⟨k + 1, by omega, by go_num, Eb, HVb, HZb, HBb, Lib.hid (by rw [HP1.out]; exact HRb.out)⟩
        case measure => simp [intOf]; omega
      · obtain rfl : k = 128 := by omega
        have HrL := Lib.hid (HRL.out 128)
        obtain ⟨r, Hr⟩ : ∃ r, Hid (rawF X b 128 = r) := ⟨_, Lib.hid rfl⟩
        rw [Hr.out] at HR HrL HY
        have HM0 := Lib.hid (show Blk wr gl 89 (icells (mixF l r 0)) by rw [mixF_zero l HrL.out]; exact HR.out)
        clear HB HRL HRS HG
        go_wp2_with (refine wpList_load_blk rfl _ _ rfl _ rfl _ _ HR.out _ Tryz.underlying89 rfl (Tryz.fitsF HrL.out) ?_)
        clear HR
        go_loopw [32] (fun z wq => ∃ k : Nat, k ≤ 134 ∧ z = .int .i64 k ∧ Hid (Below w.heap.size w wq) ∧ Hid (Blk wq w.heap.size 29 (vval l f)) ∧ Hid (Blk wq gz 89 (icells zeroF)) ∧ Hid (Blk wq gl 89 (icells (mixF l r k)))) (fun z _ => 134 - (intOf z).toNat)
        case atStart => exact ⟨0, Nat.zero_le _, rfl, E, HV, HZ, HM0⟩
        case round =>
          obtain ⟨j, hj, rfl, E', HV', HZ', HM⟩ := hrel
          clear E HV HZ HM0
          by_cases hlt2 : j < 134
          · have d2 : decide ((j : Int) < 134) = true := by simp; omega
            have p0 : (0 : Int) ≤ (j : Int) := by omega
            have p1 : (j : Int) < 134 := by omega
            have HS := Lib.hid (mixF_set l r hlt2)
            have HMk := Lib.hid (mixF_len l r j)
            have Hj := Lib.hid hlt2
            obtain ⟨P1, HP1⟩ : ∃ P1, Hid (mixF l r (j + 1) = P1) := ⟨_, Lib.hid rfl⟩
            rw [HP1.out] at HS
            obtain ⟨P0, HP0⟩ : ∃ P0, Hid (mixF l r j = P0) := ⟨_, Lib.hid rfl⟩
            rw [HP0.out] at HS HMk HM
            obtain ⟨x, Hx⟩ : ∃ x, Hid (fld r j = x) := ⟨_, Lib.hid rfl⟩
            rw [Hx.out] at HS
            clear HP0
            go_wp2_with (first | (refine wpList_index_ints rfl _ _ _ rfl 134 _ Tryz.underlying89 Tryz.underlying3 Tryz.int1Size r rfl .i64 _ rfl j rfl Hj.out (by rw [HrL.out]; exact Hj.out) ?_; rw [Hx.out]) | refine wpList_load_blk rfl _ _ rfl _ rfl _ _ HV'.out _ Tryz.underlying29 rfl Tryz.viewSize ?_)
            refine (HDt.out x _).mono ?_; rintro e wa ⟨rfl, hba⟩
            have HVa := Lib.hid (HV'.out.ext hba)
            have HZa := Lib.hid (HZ'.out.ext hba)
            have HMa := Lib.hid (HM.out.ext hba)
            have Ea := Lib.hid (bt E'.out hba)
            generalize datF l x = y at *
            clear hba HV' HZ' HM E'
            go_wp2_with (refine wpList_store_cell rfl _ _ _ rfl Tryz.int1Size gl j rfl (.int .i64 y) rfl rfl rfl _ _ HMa.out (by rw [icells_size, HMk.out]; exact Hj.out) ?_)
            apply Stop.go; intro wb Hob Hbb
            have HMb := Lib.hid (show Blk wb gl 89 (icells P1) by
              have h := Hbb.out
              rw [icells_set, HS.out] at h
              exact h)
            have HVb := Lib.hid (HVa.out.only Hob.out (by have := z8.out; omega))
            have HZb := Lib.hid (HZa.out.only Hob.out (by have := z8.out; omega))
            have Eb := Lib.hid (bonly Ea.out Hob.out (by have := z8.out; omega))
            clear Hob Hbb HMa HVa HZa Ea
            go_wp2_with fail
            go_roundw
            case rel => exact ⟨j + 1, by omega, by go_num, Eb, HVb, HZb, Lib.hid (by rw [HP1.out]; exact HMb.out)⟩
            case measure => simp [intOf]; omega
          · obtain rfl : j = 134 := by omega
            have HaL := Lib.hid (show al.length = 134 by rw [← HY.out]; exact mixF_len l r 134)
            rw [HY.out] at HM
            go_wp2_with (first | refine wpList_load_blk rfl _ _ rfl _ rfl _ _ HM.out _ Tryz.underlying89 rfl (Tryz.fitsF HaL.out) ?_ | refine wpList_store_arr rfl _ _ _ rfl _ _ rfl rfl _ _ HZ'.out (Tryz.fitsF HaL.out) (sameF HzL.out HaL.out) (oneCell_icells _) ?_)
            apply Stop.go; intro we Hoe Hbe
            go_wp2_with ((with_reducible show bodyPost _ _ _ _ _ _); refine bodyPost_cell rfl _ rfl _ _ Hbe.out _ _ Tryz.underlying89 (Tryz.fitsF HaL.out) rfl ?_)
            apply Stop.go
            exact bonly E'.out Hoe.out (by have := z8.out; omega)

end Go.Proofs.YtcdbligdcikphaaGreat

/-
  Contracts of package fmap: Blocks, Beyond.
-/
namespace Go.Proofs.YtcdbligdcikphaaGreat
open Go.RowKit
set_option maxRecDepth 10000

set_option maxHeartbeats 3200000 in
theorem fblocks_any (l : Lay14) (f : Value) (T : Int → List UInt8) (hT : ∀ no, (T no).length = 256) (X : List Int) (hX : X.length = 11) (w : World) (hf : FV w l f T) :
    Calls Tryz.prog 18 #[.agg (vval l f), .agg (icells X)] w (RetL w (someF (allF l T X))) := by
  have HXL := Lib.hid hX
  have HF := Lib.hid hf
  have HA := Lib.hid (fun w h => fall_any l f T hT X hX w h)
  obtain ⟨al, HAL⟩ : ∃ al, Hid (allF l T X = al) := ⟨_, Lib.hid rfl⟩
  have HL := Lib.hid (show al.length = 134 by rw [← HAL.out]; exact allF_len)
  rw [HAL.out] at HA ⊢
  clear hX hT hf HAL
  go_enter Tryz.func18, Tryz.ntmps18
  go_wp2_with (refine wpList_box_row rfl _ _ rfl _ rfl ?_)
  apply Stop.go; intro w1 Hg1 Hb1
  go_wp2_with (refine wpList_box_row rfl _ _ rfl _ rfl ?_)
  apply Stop.go; intro w2 Hg2 Hb2
  have HV2 := Lib.hid (Hb1.out.ext Hg2.out.1)
  have E2 := Lib.hid (bt Hg1.out.1 Hg2.out.1)
  have HF2 := Lib.hid (HF.out.below E2.out)
  generalize w1.heap.size = g1 at *
  clear Hg1 Hb1 Hg2 HF
  go_wp2_with (first | refine wpList_load_blk rfl _ _ rfl _ rfl _ _ HV2.out _ Tryz.underlying29 rfl Tryz.viewSize ?_ | refine wpList_load_blk rfl _ _ rfl _ rfl _ _ Hb2.out _ Tryz.underlying39 rfl (Tryz.inoFits HXL.out) ?_)
  refine (HA.out _ HF2.out).mono ?_; rintro e w3 ⟨rfl, hb3⟩
  have E3 := Lib.hid (bt E2.out hb3)
  clear hb3 HA HF2 HV2 Hb2 E2
  go_wp2_with fail
  go_loopw [5, 11] (fun u z wr => ∃ k : Nat, k ≤ 134 ∧ z = .int .i64 k ∧ Hid (Below w3.heap.size w3 wr) ∧ Hid (OwnC wr w3.heap.size 3 u (ivals (someF (al.take k))))) (fun _ z _ => 134 - (intOf z).toNat)
  case atStart => exact ⟨0, Nat.zero_le _, rfl, Lib.hid (Below.refl _ _), Lib.hid (OwnC.nil_ _ _ _)⟩
  case round =>
    obtain ⟨k, hk, rfl, E, HO⟩ := hrel
    by_cases hlt : k < 134
    · have d1 : decide ((k : Int) < 134) = true := by simp; omega
      have Hk := Lib.hid hlt
      have HNx := Lib.hid (someF_next (t := al) (k := k) (by rw [HL.out]; exact hlt))
      have HLn := Lib.hid (show (someF (al.take k)).length ≤ k from Nat.le_trans (someF_len _) (by rw [List.length_take]; omega))
      have Z := Lib.hid E.out.size
      obtain ⟨x, Hx⟩ : ∃ x, Hid (fld al k = x) := ⟨_, Lib.hid rfl⟩
      rw [Hx.out] at HNx
      by_cases hx : x = 0
      · have HN := Lib.hid (show someF (al.take (k + 1)) = someF (al.take k) by rw [HNx.out, if_pos hx])
        have d2 : (x != 0) = false := by simpa using hx
        clear hx HNx
        go_wp2_with (refine wpList_index_ints rfl _ _ _ rfl 134 _ Tryz.underlying89 Tryz.underlying3 Tryz.int1Size al rfl .i64 _ rfl k rfl Hk.out (by rw [HL.out]; exact Hk.out) ?_; rw [Hx.out])
        go_roundw
        case rel => exact ⟨k + 1, by omega, by go_num, E, Lib.hid (by rw [HN.out]; exact HO.out)⟩
        case measure => simp [intOf]; omega
      · have HN := Lib.hid (show someF (al.take (k + 1)) = someF (al.take k) ++ [x] by rw [HNx.out, if_neg hx])
        have d2 : (x != 0) = true := by simpa using hx
        have hl1 : (ivals (someF (al.take k))).length + 1 ≤ maxLen := by rw [ivals_len]; unfold maxLen; have := HLn.out; omega
        have hl2 : ((ivals (someF (al.take k))).length + 1) * 8 ≤ 140737488355328 := by rw [ivals_len]; have := HLn.out; omega
        clear hx HNx
        go_wp2_with (first | (refine wpList_index_ints rfl _ _ _ rfl 134 _ Tryz.underlying89 Tryz.underlying3 Tryz.int1Size al rfl .i64 _ rfl k rfl Hk.out (by rw [HL.out]; exact Hk.out) ?_; rw [Hx.out]) | (at_builtin; refine wpList_append_one rfl _ _ _ _ rfl Tryz.underlying50 (.int .i64 0) 8 Tryz.intInfo rfl w3.heap.size _ _ rfl HO.out (.int .i64 x) rfl rfl Z.out hl1 hl2 ?_))
        apply Stop.go
        intro v' wb Hv' Ha'
        have HO3 := Lib.hid (show OwnC wb w3.heap.size 3 v' (ivals (someF (al.take (k + 1)))) by rw [HN.out, ← ivals_snoc]; exact Hv'.out)
        have E4 := Lib.hid (E.out.trans Ha'.out.below)
        clear Hv' Ha' HO E hl1 hl2 HLn Z
        go_wp2_with fail
        go_roundw
        case rel => exact ⟨k + 1, by omega, by go_num, E4, HO3⟩
        case measure => simp [intOf]; omega
    · obtain rfl : k = 134 := by omega
      rw [List.take_of_length_le (by rw [HL.out]; omega)] at HO
      go_wp2_with fail
      go_ret
      exact ⟨_, rfl, HO.out.low E3.out.size, bt E3.out E.out⟩

set_option maxHeartbeats 3200000 in
theorem fbeyond_any (l : Lay14) (f : Value) (T : Int → List UInt8) (hT : ∀ no, (T no).length = 256) (X : List Int) (hX : X.length = 11) (w : World) (hf : FV w l f T) :
    Calls Tryz.prog 19 #[.agg (vval l f), .agg (icells X)] w (RetL w (beyF l T X 134)) := by
  have HXL := Lib.hid hX
  have HF := Lib.hid hf
  have HA := Lib.hid (fun w h => fall_any l f T hT X hX w h)
  obtain ⟨S, HS⟩ : ∃ S, Hid (fld X 2 = S) := ⟨_, Lib.hid rfl⟩
  obtain ⟨B, HB⟩ : ∃ B, Hid (blocksI S = B) := ⟨_, Lib.hid rfl⟩
  have HBc := Lib.hid (fun w => blocks_any S w)
  rw [HB.out] at HBc
  have HNo := Lib.hid (fun k (h : ¬ (B ≤ ((k : Nat) : Int) ∧ atF l T X k ≠ 0)) => show beyF l T X (k + 1) = beyF l T X k by rw [beyF_next, HS.out, HB.out, if_neg h])
  have HYes := Lib.hid (fun k (h : B ≤ ((k : Nat) : Int) ∧ atF l T X k ≠ 0) => show beyF l T X (k + 1) = beyF l T X k ++ [(k : Int)] by rw [beyF_next, HS.out, HB.out, if_pos h])
  obtain ⟨al, HAL⟩ : ∃ al, Hid (allF l T X = al) := ⟨_, Lib.hid rfl⟩
  have HL := Lib.hid (show al.length = 134 by rw [← HAL.out]; exact allF_len)
  have HAt := Lib.hid (fun k (h : k < 134) => show atF l T X k = fld al k by rw [← HAL.out]; exact (allF_at h).symm)
  rw [HAL.out] at HA
  clear hX hT hf HAL HB
  go_enter Tryz.func19, Tryz.ntmps19
  go_wp2_with (refine wpList_box_row rfl _ _ rfl _ rfl ?_)
  apply Stop.go; intro w1 Hg1 Hb1
  go_wp2_with (refine wpList_box_row rfl _ _ rfl _ rfl ?_)
  apply Stop.go; intro w2 Hg2 Hb2
  have HV2 := Lib.hid (Hb1.out.ext Hg2.out.1)
  have E2 := Lib.hid (bt Hg1.out.1 Hg2.out.1)
  have HF2 := Lib.hid (HF.out.below E2.out)
  generalize w1.heap.size = g1 at *
  clear Hg1 Hb1 Hg2 HF
  have c2 : w2.cell? ⟨g1, 2, none⟩ = some (.int .i64 S) := by rw [← HS.out]; exact Hb2.out.fld 2 (by rw [HXL.out]; omega)
  clear HS
  go_wp2_with fail
  refine (HBc.out _).mono ?_; rintro e wx ⟨rfl, rfl⟩
  clear HBc c2
  go_wp2_with (first | refine wpList_load_blk rfl _ _ rfl _ rfl _ _ HV2.out _ Tryz.underlying29 rfl Tryz.viewSize ?_ | refine wpList_load_blk rfl _ _ rfl _ rfl _ _ Hb2.out _ Tryz.underlying39 rfl (Tryz.inoFits HXL.out) ?_)
  refine (HA.out _ HF2.out).mono ?_; rintro e w3 ⟨rfl, hb3⟩
  have E3 := Lib.hid (bt E2.out hb3)
  clear hb3 HA HF2 HV2 Hb2 E2
  go_wp2_with fail
  go_loopw [5, 15] (fun u z wr => ∃ k : Nat, k ≤ 134 ∧ z = .int .i64 k ∧ Hid (Below w3.heap.size w3 wr) ∧ Hid (OwnC wr w3.heap.size 3 u (ivals (beyF l T X k)))) (fun _ z _ => 134 - (intOf z).toNat)
  case atStart => exact ⟨0, Nat.zero_le _, rfl, Lib.hid (Below.refl _ _), Lib.hid (OwnC.nil_ _ _ _)⟩
  case round =>
    obtain ⟨k, hk, rfl, E, HO⟩ := hrel
    by_cases hlt : k < 134
    · have d1 : decide ((k : Int) < 134) = true := by simp; omega
      have Hk := Lib.hid hlt
      have HN0 := Lib.hid (HNo.out k)
      have HY0 := Lib.hid (HYes.out k)
      have HLn := Lib.hid (@beyF_len l T X k)
      have Z := Lib.hid E.out.size
      obtain ⟨x, Hx⟩ : ∃ x, Hid (fld al k = x) := ⟨_, Lib.hid rfl⟩
      rw [HAt.out k hlt, Hx.out] at HN0 HY0
      by_cases hB : B ≤ (k : Int)
      rotate_left
      · have d2 : decide (B ≤ (k : Int)) = false := decide_eq_false hB
        have HN := Lib.hid (HN0.out (by omega))
        clear hB HN0 HY0
        go_wp2_with (refine wpList_index_ints rfl _ _ _ rfl 134 _ Tryz.underlying89 Tryz.underlying3 Tryz.int1Size al rfl .i64 _ rfl k rfl Hk.out (by rw [HL.out]; exact Hk.out) ?_; rw [Hx.out])
        go_roundw
        case rel => exact ⟨k + 1, by omega, by go_num, E, Lib.hid (by rw [HN.out]; exact HO.out)⟩
        case measure => simp [intOf]; omega
      · have d2 : decide (B ≤ (k : Int)) = true := decide_eq_true hB
        have HN1 := Lib.hid (fun h : x = 0 => HN0.out (fun h' => h'.2 h))
        have HY1 := Lib.hid (fun h : x ≠ 0 => HY0.out ⟨hB, h⟩)
        clear hB HN0 HY0
        by_cases hx : x = 0
        · have HN := Lib.hid (HN1.out hx)
          have d3 : (x != 0) = false := by simpa using hx
          clear hx HN1 HY1
          go_wp2_with (refine wpList_index_ints rfl _ _ _ rfl 134 _ Tryz.underlying89 Tryz.underlying3 Tryz.int1Size al rfl .i64 _ rfl k rfl Hk.out (by rw [HL.out]; exact Hk.out) ?_; rw [Hx.out])
          go_roundw
          case rel => exact ⟨k + 1, by omega, by go_num, E, Lib.hid (by rw [HN.out]; exact HO.out)⟩
          case measure => simp [intOf]; omega
        · have HN := Lib.hid (HY1.out hx)
          have d3 : (x != 0) = true := by simpa using hx
          have hl1 : (ivals (beyF l T X k)).length + 1 ≤ maxLen := by rw [ivals_len]; unfold maxLen; have := HLn.out; omega
          have hl2 : ((ivals (beyF l T X k)).length + 1) * 8 ≤ 140737488355328 := by rw [ivals_len]; have := HLn.out; omega
          clear hx HN1 HY1
          go_wp2_with (first | (refine wpList_index_ints rfl _ _ _ rfl 134 _ Tryz.underlying89 Tryz.underlying3 Tryz.int1Size al rfl .i64 _ rfl k rfl Hk.out (by rw [HL.out]; exact Hk.out) ?_; rw [Hx.out]) | (at_builtin; refine wpList_append_one rfl _ _ _ _ rfl Tryz.underlying50 (.int .i64 0) 8 Tryz.intInfo rfl w3.heap.size _ _ rfl HO.out (.int .i64 (k : Int)) rfl rfl Z.out hl1 hl2 ?_))
          apply Stop.go
          intro v' wb Hv' Ha'
          have HO3 := Lib.hid (show OwnC wb w3.heap.size 3 v' (ivals (beyF l T X (k + 1))) by rw [HN.out, ← ivals_snoc]; exact Hv'.out)
          have E4 := Lib.hid (E.out.trans Ha'.out.below)
          clear Hv' Ha' HO E hl1 hl2 HLn Z
          go_wp2_with fail
          go_roundw
          case rel => exact ⟨k + 1, by omega, by go_num, E4, HO3⟩
          case measure => simp [intOf]; omega
    · obtain rfl : k = 134 := by omega
      go_wp2_with fail
      go_ret
      exact ⟨_, rfl, HO.out.low E3.out.size, bt E3.out E.out⟩

end Go.Proofs.YtcdbligdcikphaaGreat
