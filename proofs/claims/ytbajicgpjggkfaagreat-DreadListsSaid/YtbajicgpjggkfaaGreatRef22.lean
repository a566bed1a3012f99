/-
  Contracts of the document's answers of layer 22: Data (of 21), Block, Some, All, Index, Buckets, Owns.
-/
import Derived.Test.YtbajicgpjggkfaaGreatGrD
import Derived.Test.YtbajicgpjggkfaaGreatGrI
import Derived.Test.YtbajicgpjggkfaaGreatGrJ
import Derived.Test.YtbajicgpjggkfaaGreatGrX
namespace Go.Proofs.YtbajicgpjggkfaaGreat
open Go.RowKit
set_option maxRecDepth 10000
theorem fld_in {X : List Int} (hX : ∀ z ∈ X, z < 9223372036854775808) (k : Nat) : fld X k < 9223372036854775808 := by
  unfold fld
  rw [List.getD_eq_getElem?_getD]
  by_cases h : k < X.length
  · rw [List.getElem?_eq_getElem h]
    exact hX _ (List.getElem_mem h)
  · rw [List.getElem?_eq_none (by omega)]
    decide

theorem area_data (l : Lay14) (no : Int) : decide (l.area no = 4) = l.isD no := by
  cases hm : l.may
  · rw [Lay14.area_off hm, Lay14.isD_off hm]; decide
  · rw [Lay14.isD_on hm]
    exact decide_eq_decide.2 (Lay14.area4_iff hm no)
set_option maxHeartbeats 800000 in
theorem rdata_any (l : Lay14) (no : Int) (hno : no < 9223372036854775808) (w : World) :
    Calls Tryz.prog 36 #[.agg l.val, .int .i64 no] w fun e w' => e = .returned (.bool (l.isD no)) ∧ Below w.heap.size w w' := by
  have HA := Lib.hid (area_data l no)
  go_enter Tryz.func36, Tryz.ntmps36
  go_wp2_with (refine wpList_box_row rfl _ _ rfl _ rfl ?_)
  apply Stop.go; intro w1 Hg1 Hb1
  go_wp2_with (refine wpList_load_blk rfl _ _ rfl _ rfl _ _ Hb1.out _ Tryz.underlying26 rfl Tryz.laySize ?_)
  refine (area_any l no hno _).mono ?_; rintro e w2 ⟨rfl, hb2⟩
  generalize l.area no = q at *
  go_wp2_with fail
  go_ret
  refine ⟨?_, bt Hg1.out.1 hb2⟩
  rw [← HA.out]
  congr 2

set_option maxHeartbeats 1600000 in
theorem rblock22_any (A : Option Addr) (n cap : Nat) (L : List (List UInt8)) (hn : L.length = n) (hL : Bks L) (hm : n ≤ maxLen) (no : Int) (w : World) (hr : RK w A L) :
    Calls Tryz.prog 24 #[.slice A n cap, .int .i64 no] w fun e w' => ∃ A', e = .returned (.slice A' 256 256) ∧ RB w' A' (bkV L no) ∧ Below w.heap.size w w' := by
  unfold maxLen at hm
  have Hn := Lib.hid hn
  by_cases h : no < 0 ∨ 0 ≤ no ∧ (n : Int) ≤ no
  · have H0 := Lib.hid (bkV_off (L := L) (no := no) (by rw [hn]; omega))
    clear hn hL hr
    rcases h with h | ⟨h, h2⟩
    focus (
      have d0 : decide (no < 0) = true := decide_eq_true h
      clear h)
    rotate_left
    focus (
      have d0 : decide (no < 0) = false := decide_eq_false (by omega)
      have d1 : decide ((n : Int) ≤ no) = true := decide_eq_true h2
      clear h h2)
    all_goals
      go_enter Tryz.func24, Tryz.ntmps24
      go_wp2_with (refine wpList_make_bytes rfl _ _ _ _ rfl Tryz.underlying70 Tryz.byteInfo _ _ _ _ 256 rfl rfl rfl rfl (by omega) ?_)
      apply Stop.go; intro w1 Hg1 Hb1
      go_wp2_with fail
      go_ret
      rw [H0.out]
      exact ⟨_, rfl, RB.of_blk0 Hb1.out, Hg1.out.1⟩
  · obtain ⟨q, rfl⟩ := Int.eq_ofNat_of_zero_le (show 0 ≤ no by omega)
    have hqL : q < L.length := by omega
    obtain ⟨ad, rfl⟩ := hr.addr (by omega)
    have H0 := Lib.hid (bkV_at hqL)
    have HR := Lib.hid (hr.at_ hL hqL)
    have d0 : decide ((q : Int) < 0) = false := decide_eq_false (by omega)
    have d1 : decide ((n : Int) ≤ (q : Int)) = false := decide_eq_false (by omega)
    have d2 : decide (n ≤ q) = false := decide_eq_false (by omega)
    have p0 : (0 : Int) ≤ (q : Int) := by omega
    have p1 : (q : Int) < (n : Int) := by omega
    clear hn hL hr h
    go_enter Tryz.func24, Tryz.ntmps24
    go_wp2_with (refine wpList_slice_ad rfl _ _ rfl 256 _ Tryz.underlying76 Tryz.byteSize _ rfl ?_)
    go_wp2_with fail
    go_ret
    rw [H0.out]
    exact ⟨_, rfl, HR.out, Below.refl _ _⟩



set_option maxHeartbeats 3200000 in
theorem rix22_any (A : Option Addr) (n cap : Nat) (L : List (List UInt8)) (hn : L.length = n) (hL : Bks L) (hm : n ≤ maxLen) (l : Lay14) (hly : layW L = some l) (X : List Int) (hX : X.length = 11) (hXi : ∀ z ∈ X, z < 9223372036854775808) (w : World) (hr : RK w A L) :
    Calls Tryz.prog 39 #[.slice A n cap, .agg l.val, .agg (icells X)] w fun e w' => e = .returned (.tuple #[.agg (icells (ixD l (bkV L) X :: ixT l (bkV L) X)), .bool (isF l (bkV L) X)]) ∧ Below w.heap.size w w' := by
  have Hr := Lib.hid hr
  have HXL := Lib.hid hX
  obtain ⟨K, HK⟩ : ∃ K, Hid (fld X 0 = K) := ⟨_, Lib.hid rfl⟩
  obtain ⟨I, HI⟩ : ∃ I, Hid (fld X 4 = I) := ⟨_, Lib.hid rfl⟩
  have HIb := Lib.hid (show I < 9223372036854775808 by rw [← HI.out]; exact fld_in hXi 4)
  have HBk := Lib.hid (fun w h => rblock22_any A n cap L hn hL hm I w h)
  have HBL := Lib.hid (bkV_len hL I)
  obtain ⟨RD, HRD⟩ : ∃ RD, Hid (ixD l (bkV L) X = RD) := ⟨_, Lib.hid rfl⟩
  obtain ⟨RT, HRT⟩ : ∃ RT, Hid (ixT l (bkV L) X = RT) := ⟨_, Lib.hid rfl⟩
  obtain ⟨rb, HRB⟩ : ∃ rb, Hid (isF l (bkV L) X = rb) := ⟨_, Lib.hid rfl⟩
  have HOff := Lib.hid (fun h : K ≠ 2 ∨ l.isD I = false => show rb = false ∧ RD = 0 ∧ RT = zeroT by
    rw [← HRD.out, ← HRT.out, ← HRB.out]
    exact ix_off (by rw [HK.out, HI.out]; exact h))
  have HOn := Lib.hid (fun (h : K = 2) (hd : l.isD I = true) => show getB (bkV L I) = rb ∧ getD_ (bkV L I) = RD ∧ getT_ (bkV L I) = RT by
    have e := ix_on (l := l) (T := bkV L) (X := X) (by rw [HK.out]; exact h) (by rw [HI.out]; exact hd)
    rw [HI.out, vBk_is hly, HRD.out, HRT.out, HRB.out] at e
    exact ⟨e.1.symm, e.2.1.symm, e.2.2.symm⟩)
  have HzL := Lib.hid zeroT_len
  have HTL := Lib.hid (show RT.length = 32 by rw [← HRT.out]; exact ixT_len)
  rw [HRD.out, HRT.out, HRB.out]
  clear hr hX hXi hly HRD HRT HRB
  go_enter Tryz.func39, Tryz.ntmps39
  go_wp2_with (refine wpList_box_row rfl _ _ rfl _ rfl ?_)
  apply Stop.go; intro w1 Hg1 Hb1
  go_wp2_with (refine wpList_box_row rfl _ _ rfl _ rfl ?_)
  apply Stop.go; intro w2 Hg2 Hb2
  have HL2 := Lib.hid (Hb1.out.ext Hg2.out.1)
  have E2 := Lib.hid (bt Hg1.out.1 Hg2.out.1)
  have z2 := Lib.hid (show w.heap.size < w1.heap.size ∧ w1.heap.size < w2.heap.size by have := Hg1.out.2; have := Hg2.out.2; omega)
  generalize w1.heap.size = g5 at *
  clear Hg1 Hb1 Hg2
  go_wp2_with (refine wpList_alloc_row rfl _ rfl _ Tryz.rxZero ?_)
  apply Stop.go; intro w3 Hg3 Hb3
  have HL3 := Lib.hid (HL2.out.ext Hg3.out.1)
  have HX3 := Lib.hid (Hb2.out.ext Hg3.out.1)
  have E3 := Lib.hid (bt E2.out Hg3.out.1)
  have z3 := Lib.hid (show w.heap.size < w2.heap.size ∧ g5 < w2.heap.size by have := z2.out; omega)
  generalize w2.heap.size = gl at *
  clear Hg3 Hb2 HL2 E2 z2
  have c0 : w3.cell? ⟨g5, 0, none⟩ = some (.int .i64 K) := by rw [← HK.out]; exact HX3.out.fld 0 (by rw [HXL.out]; omega)
  by_cases hK : K = 2
  rotate_left
  · have d0 : (K != 2) = true := by simpa using hK
    obtain ⟨rfl, rfl, rfl⟩ := HOff.out (.inl hK)
    clear hK HOff HOn
    go_upto_region 2 with fail
    go_wp2_with (first | refine wpList_build_nil rfl _ rfl _ Tryz.rxBuilt0 ?_ | refine wpList_store_arr rfl _ _ _ rfl _ _ rfl rfl _ _ Hb3.out (Tryz.rxFits HzL.out) (icells_same HzL.out HzL.out) (oneCell_icells _) ?_)
    apply Stop.go; intro we Hoe Hbe
    go_wp2_with ((with_reducible show bodyPost _ _ _ _ _ _); refine bodyPost_struct_tmp rfl _ rfl _ _ Hbe.out _ Tryz.underlying95 rfl (Tryz.rxFits HzL.out) rfl _ rfl ?_)
    apply Stop.go
    exact bonly E3.out Hoe.out (by have := z3.out; omega)
  · have HOn1 := Lib.hid (HOn.out hK)
    have HOf1 := Lib.hid (fun h => HOff.out (.inr h))
    subst hK
    have d0 : ((2 : Int) != 2) = false := rfl
    clear HOff HOn
    have c4 : w3.cell? ⟨g5, 4, none⟩ = some (.int .i64 I) := by rw [← HI.out]; exact HX3.out.fld 4 (by rw [HXL.out]; omega)
    go_wp2_with (refine wpList_load_blk rfl _ _ rfl _ rfl _ _ HL3.out _ Tryz.underlying26 rfl Tryz.laySize ?_)
    refine (rdata_any l I HIb.out _).mono ?_; rintro e w4 ⟨rfl, hb4⟩
    have HX4 := Lib.hid (HX3.out.ext hb4)
    have HR4 := Lib.hid (Hb3.out.ext hb4)
    have E4 := Lib.hid (bt E3.out hb4)
    clear hb4 HL3 HX3 Hb3 E3 c0 c4
    cases hd : l.isD I
    · obtain ⟨rfl, rfl, rfl⟩ := HOf1.out hd
      clear hd HOf1 HOn1
      go_upto_region 2 with fail
      go_wp2_with (first | refine wpList_build_nil rfl _ rfl _ Tryz.rxBuilt0 ?_ | refine wpList_store_arr rfl _ _ _ rfl _ _ rfl rfl _ _ HR4.out (Tryz.rxFits HzL.out) (icells_same HzL.out HzL.out) (oneCell_icells _) ?_)
      apply Stop.go; intro we Hoe Hbe
      go_wp2_with ((with_reducible show bodyPost _ _ _ _ _ _); refine bodyPost_struct_tmp rfl _ rfl _ _ Hbe.out _ Tryz.underlying95 rfl (Tryz.rxFits HzL.out) rfl _ rfl ?_)
      apply Stop.go
      exact bonly E4.out Hoe.out (by have := z3.out; omega)
    · have HN := Lib.hid (HOn1.out hd)
      have c4 : w4.cell? ⟨g5, 4, none⟩ = some (.int .i64 I) := by rw [← HI.out]; exact HX4.out.fld 4 (by rw [HXL.out]; omega)
      clear hd HOf1 HOn1
      go_wp2_with fail
      refine (HBk.out _ (Hr.out.below E4.out)).mono ?_; rintro e w5 ⟨A5, rfl, hr5, hb5⟩
      have HR5 := Lib.hid (HR4.out.ext hb5)
      have Hr5 := Lib.hid hr5
      have E5 := Lib.hid (bt E4.out hb5)
      clear hr5 hb5 HX4 HR4 E4 c4
      generalize bkV L I = b at *
      go_wp2_with fail
      refine (rget19_any A5 256 b HBL.out _ Hr5.out).mono ?_; rintro e w6 ⟨rfl, hb6⟩
      rw [HN.out.1, HN.out.2.1, HN.out.2.2]
      have HR6 := Lib.hid (HR5.out.ext hb6)
      have E6 := Lib.hid (bt E5.out hb6)
      clear hb6 HR5 E5 Hr5
      go_wp2_with (refine wpList_store_arr rfl _ _ _ rfl _ _ rfl rfl _ _ HR6.out (Tryz.rxFits HTL.out) (icells_same HzL.out HTL.out) (oneCell_icells _) ?_)
      apply Stop.go; intro we Hoe Hbe
      go_wp2_with ((with_reducible show bodyPost _ _ _ _ _ _); refine bodyPost_struct_tmp rfl _ rfl _ _ Hbe.out _ Tryz.underlying95 rfl (Tryz.rxFits HTL.out) rfl _ rfl ?_)
      apply Stop.go
      exact bonly E6.out Hoe.out (by have := z3.out; omega)

theorem ixT_in {l : Lay14} {T : Int → List UInt8} {X : List Int} : ∀ z ∈ ixT l T X, z < 9223372036854775808 := by
  have hz : ∀ z ∈ zeroT, z < 9223372036854775808 := by decide
  unfold ixT
  split
  · unfold getT_
    split
    · intro z h
      unfold gotT gotX mapT at h
      obtain ⟨i, _, rfl⟩ := List.mem_map.1 h
      unfold gotF
      split
      · have := leV2_lt (vBk l T (fld X 4)) (32 + 2 * i)
        omega
      · decide
    · exact hz
  · exact hz
set_option maxHeartbeats 3200000 in
theorem rbuk22_any (A : Option Addr) (n cap : Nat) (L : List (List UInt8)) (hn : L.length = n) (hL : Bks L) (hm : n ≤ maxLen) (l : Lay14) (hly : layW L = some l) (X : List Int) (hX : X.length = 11) (hXi : ∀ z ∈ X, z < 9223372036854775808) (w : World) (hr : RK w A L) :
    Calls Tryz.prog 22 #[.slice A n cap, .agg l.val, .agg (icells X)] w (RetL w (bukF l (bkV L) X)) := by
  have Hr := Lib.hid hr
  have HXL := Lib.hid hX
  have HIx := Lib.hid (fun w h => rix22_any A n cap L hn hL hm l hly X hX hXi w h)
  obtain ⟨RD, HRD⟩ : ∃ RD, Hid (ixD l (bkV L) X = RD) := ⟨_, Lib.hid rfl⟩
  obtain ⟨RT, HRT⟩ : ∃ RT, Hid (ixT l (bkV L) X = RT) := ⟨_, Lib.hid rfl⟩
  obtain ⟨rb, HRB⟩ : ∃ rb, Hid (isF l (bkV L) X = rb) := ⟨_, Lib.hid rfl⟩
  obtain ⟨bs, HBs⟩ : ∃ bs, Hid (buckK RT (2 ^ dpN RD) = bs) := ⟨_, Lib.hid rfl⟩
  obtain ⟨tl, HTl⟩ : ∃ tl, Hid (bukF l (bkV L) X = tl) := ⟨_, Lib.hid rfl⟩
  have HU := Lib.hid (show tl = if rb then dataF l bs else [] by
    rw [← HTl.out, ← HBs.out, ← HRD.out, ← HRT.out, ← HRB.out]; rfl)
  have HzL := Lib.hid zeroT_len
  have HTL := Lib.hid (show RT.length = 32 by rw [← HRT.out]; exact ixT_len)
  have HBu := Lib.hid (fun w => rbuckets_any RD RT HTL.out w)
  have HKl := Lib.hid (show bs.length ≤ 32 by rw [← HBs.out]; exact Nat.le_trans (buckK_len RT _) (pow32 (dpN_le RD)))
  have HTi : ∀ z ∈ RT, z < 9223372036854775808 := by rw [← HRT.out]; exact ixT_in
  have HKi := Lib.hid (show ∀ k, fld bs k < 9223372036854775808 by
    rw [← HBs.out]
    refine fld_in fun z hz => ?_
    by_cases e : z = 0
    · subst e; decide
    · obtain ⟨i, _, rfl⟩ := (buckK_mem e).1 hz
      exact fld_in HTi i)
  rw [HRD.out, HRT.out, HRB.out] at HIx
  rw [HTl.out]
  rw [HBs.out] at HBu
  clear hr hX hXi hly HRD HRT HRB HTl HBs HTi
  go_enter Tryz.func22, Tryz.ntmps22
  go_wp2_with (refine wpList_box_row rfl _ _ rfl _ rfl ?_)
  apply Stop.go; intro w1 Hg1 Hb1
  go_wp2_with (refine wpList_box_row rfl _ _ rfl _ rfl ?_)
  apply Stop.go; intro w2 Hg2 Hb2
  have HL2 := Lib.hid (Hb1.out.ext Hg2.out.1)
  have E2 := Lib.hid (bt Hg1.out.1 Hg2.out.1)
  have z2 := Lib.hid (show w.heap.size < w1.heap.size ∧ w1.heap.size < w2.heap.size by have := Hg1.out.2; have := Hg2.out.2; omega)
  generalize w1.heap.size = g5 at *
  clear Hg1 Hb1 Hg2
  go_wp2_with (first | refine wpList_load_blk rfl _ _ rfl _ rfl _ _ HL2.out _ Tryz.underlying26 rfl Tryz.laySize ?_ | refine wpList_load_blk rfl _ _ rfl _ rfl _ _ Hb2.out _ Tryz.underlying39 rfl (Tryz.inoFits HXL.out) ?_)
  refine (HIx.out _ (Hr.out.below E2.out)).mono ?_; rintro e w3 ⟨rfl, hb3⟩
  have HL3 := Lib.hid (HL2.out.ext hb3)
  have E3 := Lib.hid (bt E2.out hb3)
  clear hb3 HL2 E2 Hb2
  go_wp2_with (refine wpList_alloc_row rfl _ rfl _ Tryz.rxZero ?_)
  apply Stop.go; intro w4 Hg4 Hb4
  have HL4 := Lib.hid (HL3.out.ext Hg4.out.1)
  have E4 := Lib.hid (bt E3.out Hg4.out.1)
  have z4 := Lib.hid (show w.heap.size < w3.heap.size by have := HL3.out.lt; omega)
  generalize w3.heap.size = gx at *
  clear Hg4 HL3 E3 z2
  go_wp2_with (refine wpList_store_arr rfl _ _ _ rfl _ _ rfl rfl _ _ Hb4.out (Tryz.rxFits HTL.out) (icells_same HzL.out HTL.out) (oneCell_icells _) ?_)
  apply Stop.go; intro w5 Ho5 Hb5
  have HL5 := Lib.hid (HL4.out.only Ho5.out (by have := z4.out; omega))
  have E5 := Lib.hid (bonly E4.out Ho5.out (by have := z4.out; omega))
  clear Ho5 Hb4 HL4 E4
  cases rb
  · obtain rfl : tl = [] := HU.out
    clear HU
    go_wp2_with fail
    go_ret
    exact ⟨_, rfl, OwnC.nil_ _ _ _, E5.out⟩
  · have HU1 := Lib.hid (show tl = dataF l bs from HU.out)
    clear HU
    go_wp2_with (refine wpList_load_blk rfl _ _ rfl _ rfl _ _ Hb5.out _ Tryz.underlying95 rfl (Tryz.rxFits HTL.out) ?_)
    refine (HBu.out _).mono ?_; rintro e w6 ⟨v6, rfl, hv6, hb6⟩
    have HL6 := Lib.hid (HL5.out.ext hb6)
    have E6 := Lib.hid (bt E5.out hb6)
    have HO6 := Lib.hid hv6
    clear hv6 hb6 HL5 Hb5 E5
    obtain ⟨Ab, cb, rfl, hcb, hmb, hrb⟩ := HO6.out.ints
    have HR6 := Lib.hid hrb
    obtain ⟨m, Hm⟩ : ∃ m, Hid (bs.length = m) := ⟨_, Lib.hid rfl⟩
    rw [Hm.out] at HKl ⊢
    clear hcb hmb hrb HO6
    have h32 := HKl.out
    go_wp2_with fail
    go_loopw [7, 11] (fun u z wr => ∃ k : Nat, k ≤ m ∧ z = .int .i64 k ∧ Hid (Below w6.heap.size w6 wr) ∧ Hid (OwnC wr w6.heap.size 3 u (ivals (dataF l (bs.take k))))) (fun _ z _ => m - (intOf z).toNat)
    case atStart => exact ⟨0, Nat.zero_le _, rfl, Lib.hid (Below.refl _ _), Lib.hid (OwnC.nil_ _ _ _)⟩
    case round =>
      obtain ⟨k, hk, rfl, E, HO⟩ := hrel
      by_cases hlt : k < m
      · have hkl : k < bs.length := by rw [Hm.out]; exact hlt
        have d1 : decide ((k : Int) < (m : Int)) = true := by simp; omega
        have p0 : (0 : Int) ≤ (k : Int) := by omega
        have p1 : (k : Int) < (m : Int) := by omega
        have HV := Lib.hid (HL6.out.ext E.out)
        have HRn := Lib.hid (HR6.out.below E.out)
        obtain ⟨ad, rfl, hcad⟩ := HRn.out.int k hkl
        have hfk : bs[k] = fld bs k := by
          have := fld_get bs k hkl
          rw [List.getElem?_eq_getElem hkl] at this
          exact Option.some.inj this
        have Hcx := Lib.hid (fun w' (h : RC w' (some ad) (ivals bs)) => show w'.cell? (ad.add k) = some (.int .i64 (fld bs k)) by
          obtain ⟨ad', e, hc⟩ := h.int k hkl
          injection e with e
          subst e
          rw [← hfk]
          exact hc)
        have HNx := Lib.hid (dataF_next (l := l) hkl)
        have HLn := Lib.hid (show (dataF l (bs.take k)).length ≤ k from Nat.le_trans (dataF_len _ _) (by rw [List.length_take]; omega))
        have Hxb := Lib.hid (HKi.out k)
        have Z := Lib.hid E.out.size
        generalize fld bs k = x at *
        clear hcad hfk hkl
        go_wp2_with fail
        refine WH.start (S := fun w' : World => Blk w' w.heap.size 26 l.val ∧ RC w' (some ad) (ivals bs)) [false, false, false, false, false, false] 6 rfl rfl (by kernel_rfl) ⟨HV.out.ext (bdrew wr 1), HRn.out.below (bdrew wr 1)⟩ (fun hSn => ?_); obtain ⟨wS, hwS⟩ : ∃ x, (wr).drew = x := ⟨_, rfl⟩; have HE := Lib.hid (show Below (wr).heap.size (wr) wS from hwS ▸ bdrew wr 1); rw [hwS] at hSn ⊢; clear hwS
        refine WH.tv 0 rfl (fun w' hSw => exec_load_blk _ _ rfl _ rfl _ _ (hSw.1) _ (Tryz.underlying26) rfl (Tryz.laySize)) ?_; simp only [setL]
        refine WH.tk 1 ?_; simp only [setL]
        refine WH.tk 2 ?_; simp only [setL]
        refine WH.tk 3 ?_; simp only [setL]
        refine WH.tv 4 rfl (fun w' hSw => exec_load_cell _ _ rfl (ad.add k) rfl (.int .i64 x) (Hcx.out _ hSw.2) _ Tryz.underlying3 rfl) ?_; simp only [setL]
        refine WH.only 5 _ rfl (by kernel_rfl) rfl (fun K hK => ?_)
        go_simp; refine (rdata_any l x Hxb.out _).mono ?_; rintro e wa ⟨rfl, hba⟩; go_simp
        have HE := Lib.hid (bt HE.out hba)
        have hSn := And.intro (hSn.1.ext hba) (hSn.2.below hba); refine hK _ _ hSn ?_; clear hK; clear K; simp only [setL]
        refine WH.done (by kernel_rfl) ?_
        have HOa := Lib.hid (HO.out.ext HE.out)
        have Ea := Lib.hid (bt E.out HE.out)
        have Za := Lib.hid Ea.out.size
        have cx : wa.cell? (ad.add k) = some (.int .i64 x) := Hcx.out _ hSn.2
        clear hSn HE hba HV HO E HRn Z
        cases hdx : l.isD x
        · have HN := Lib.hid (show dataF l (bs.take (k + 1)) = dataF l (bs.take k) by rw [HNx.out, hdx]; rfl)
          clear hdx HNx
          go_wp2_with fail
          go_roundw
          case rel => exact ⟨k + 1, by omega, by go_num, Ea, Lib.hid (by rw [HN.out]; exact HOa.out)⟩
          case measure => simp [intOf]; omega
        · have HN := Lib.hid (show dataF l (bs.take (k + 1)) = dataF l (bs.take k) ++ [x] by rw [HNx.out, hdx]; rfl)
          have hl1 : (ivals (dataF l (bs.take k))).length + 1 ≤ maxLen := by rw [ivals_len]; unfold maxLen; have := HLn.out; omega
          have hl2 : ((ivals (dataF l (bs.take k))).length + 1) * 8 ≤ 140737488355328 := by rw [ivals_len]; have := HLn.out; omega
          clear hdx HNx
          go_wp2_with (at_builtin; refine wpList_append_one rfl _ _ _ _ rfl Tryz.underlying63 (.int .i64 0) 8 Tryz.intInfo rfl w6.heap.size _ _ rfl HOa.out (.int .i64 x) rfl rfl Za.out hl1 hl2 ?_)
          apply Stop.go
          intro v' wb Hv' Ha'
          have HO3 := Lib.hid (show OwnC wb w6.heap.size 3 v' (ivals (dataF l (bs.take (k + 1)))) by rw [HN.out, ← ivals_snoc]; exact Hv'.out)
          have E3 := Lib.hid (Ea.out.trans Ha'.out.below)
          clear Hv' Ha' HOa Ea hl1 hl2 HLn cx Za
          go_wp2_with fail
          go_roundw
          case rel => exact ⟨k + 1, by omega, by go_num, E3, HO3⟩
          case measure => simp [intOf]; omega
      · obtain rfl : k = m := by omega
        have d1 : decide ((k : Int) < (k : Int)) = false := by simp
        rw [List.take_of_length_le (by rw [Hm.out]; omega), ← HU1.out] at HO
        go_wp2_with fail
        go_ret
        exact ⟨_, rfl, HO.out.low (E6.out.size), bt E6.out E.out⟩


end Go.Proofs.YtbajicgpjggkfaaGreat
