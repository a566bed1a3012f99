/-
  Contracts of the document's answer 18: Empty, Head, Find, Room, Fix, Right.
-/
import Derived.Test.YtmojappbgghpbaaRef18
import Derived.Test.YtmojappbgghpbaaSame
namespace Go.Proofs.Ytmojappbgghpbaa
open Go.RowKit

set_option maxRecDepth 4000 in
set_option maxHeartbeats 1600000 in
theorem rempty18_any (A : Option Addr) (cap : Nat) (b : List UInt8) (hb : b.length = 256) (k : Nat) (hk : k < 7) (w : World) (hr : RB w A b) :
    Calls Try.prog 41 #[.slice A 256 cap, .int .i64 k] w fun e w' => e = .returned (.bool (emptyS b k)) ∧ Below w.heap.size w w' := by
  have HzL : Hid ((zeros 32).length = 32) := Lib.hid (zeros_len _)
  have Hr := Lib.hid hr
  have HRW := Lib.hid (fun w (h : RB w A b) => rcut_any A 256 cap b hb (by omega) (32 + 32 * (k : Int)) 32 w h)
  rw [rawS_cut b k] at HRW
  have HRL := Lib.hid (rawS_len hb hk)
  have HF := Lib.hid (show emptyS b k = decide (rawS b k = zeros 32) by unfold emptyS; exact Bool.eq_iff_iff.2 (by simp))
  have hw1 : IntKind.i64.wrap (32 * (k : Int)) = 32 * (k : Int) := IntWalk.i64_in _ (by omega)
  have hw3 : IntKind.i64.wrap (32 + 32 * (k : Int)) = 32 + 32 * (k : Int) := IntWalk.i64_in _ (by omega)
  obtain ⟨X, hX⟩ : ∃ X, rawS b k = X := ⟨_, rfl⟩
  rw [hX] at HRW HRL HF
  clear hb hr hX
  go_enter Try.func41, Try.ntmps41
  go_wp2_with fail
  refine WH.start (S := fun w' : World => Below w.heap.size w w') [false, false, false, false, false, false, false, false] 8 rfl rfl (by kernel_rfl) (bdrew w 1) (fun hSn => ?_); obtain ⟨wS, hwS⟩ : ∃ x, (w).drew = x := ⟨_, rfl⟩; have HE := Lib.hid (show Below (w).heap.size (w) wS from hwS ▸ bdrew w 1); rw [hwS] at hSn ⊢; clear hwS
  refine WH.tk 0 ?_; simp only [setL]
  refine WH.tk 1 ?_; simp only [setL]
  refine WH.tk 2 ?_; simp only [setL]
  refine WH.tk 3 ?_; simp only [setL]
  refine WH.two 4 5 _ _ rfl rfl (by kernel_rfl) rfl rfl (fun K hK => ?_) (fun K hK => ?_)
  · go_simp; refine (HRW.out _ (Hr.out.below HE.out)).mono ?_; rintro e wa ⟨A2, n2, c2, rfl, hl2, hc2, hm2, hr2, hb2⟩; go_simp
    obtain rfl : n2 = 32 := by rw [← hl2, HRL.out]
    have HE := Lib.hid (bt HE.out hb2)
    have HR2 := Lib.hid hr2
    clear hl2 hc2 hm2 hr2 hb2
    have hSn := HE.out; refine hK _ _ hSn ?_; clear hK; clear K; simp only [setL]
    refine WH.only 5 _ rfl (by kernel_rfl) rfl (fun K hK => ?_)
    refine ow_make_bytes _ _ _ _ rfl Try.underlying30 Try.byteInfo .i64 .i64 _ _ 32 rfl rfl rfl rfl (by decide) ?_
    apply Stop.go; intro wb Hgb Hbb
    have HE := Lib.hid (bt HE.out Hgb.out.1)
    have hSn := HE.out; refine hK _ _ hSn ?_; clear hK; clear K; simp only [setL]
    refine WH.only 6 _ rfl (by kernel_rfl) rfl (fun K hK => ?_)
    go_simp; refine (same_any _ 32 _ X HRL.out _ 32 _ (zeros 32) HzL.out (by unfold maxLen; omega) (by unfold maxLen; omega) _ (HR2.out.below Hgb.out.1) (RB.of_blk0 Hbb.out)).mono ?_; rintro e wc ⟨rfl, k4, rfl⟩; go_simp
    have HE := Lib.hid (bt HE.out (bdrew wb k4))
    have hSn := HE.out; refine hK _ _ hSn ?_; clear hK; clear K; simp only [setL]
    refine WH.tk 7 ?_; simp only [setL]
    refine WH.done (by kernel_rfl) ?_
    go_wp2_with fail
    go_ret
    rw [HF.out]
    exact ⟨rfl, HE.out⟩
  · refine ow_make_bytes _ _ _ _ rfl Try.underlying30 Try.byteInfo .i64 .i64 _ _ 32 rfl rfl rfl rfl (by decide) ?_
    apply Stop.go; intro wb Hgb Hbb
    have HE := Lib.hid (bt HE.out Hgb.out.1)
    have hSn := HE.out; refine hK _ _ hSn ?_; clear hK; clear K; simp only [setL]
    refine WH.only 4 _ rfl (by kernel_rfl) rfl (fun K hK => ?_)
    go_simp; refine (HRW.out _ (Hr.out.below HE.out)).mono ?_; rintro e wa ⟨A2, n2, c2, rfl, hl2, hc2, hm2, hr2, hb2⟩; go_simp
    obtain rfl : n2 = 32 := by rw [← hl2, HRL.out]
    have HE := Lib.hid (bt HE.out hb2)
    have HR2 := Lib.hid hr2
    have HZ2 := Lib.hid (Hbb.out.ext hb2)
    clear hl2 hc2 hm2 hr2 hb2
    have hSn := HE.out; refine hK _ _ hSn ?_; clear hK; clear K; simp only [setL]
    refine WH.only 6 _ rfl (by kernel_rfl) rfl (fun K hK => ?_)
    go_simp; refine (same_any _ 32 _ X HRL.out _ 32 _ (zeros 32) HzL.out (by unfold maxLen; omega) (by unfold maxLen; omega) _ HR2.out (RB.of_blk0 HZ2.out)).mono ?_; rintro e wc ⟨rfl, k4, rfl⟩; go_simp
    have HE := Lib.hid (bt HE.out (bdrew wa k4))
    have hSn := HE.out; refine hK _ _ hSn ?_; clear hK; clear K; simp only [setL]
    refine WH.tk 7 ?_; simp only [setL]
    refine WH.done (by kernel_rfl) ?_
    go_wp2_with fail
    go_ret
    rw [HF.out]
    exact ⟨rfl, HE.out⟩

theorem rhead_lay : rlayL (zeros 256) 0 head4 = headB := by decide +kernel
set_option maxRecDepth 4000 in
set_option maxHeartbeats 800000 in
theorem rhead18_any (w : World) : Calls Try.prog 34 #[] w (RetB w headB) := by
  have HzL : Hid ((zeros 256).length = 256) := Lib.hid (zeros_len _)
  have HN := Lib.hid rhead_lay
  go_enter Try.func34, Try.ntmps34
  go_wp2_with (refine wpList_make_bytes rfl _ _ _ _ rfl Try.underlying30 Try.byteInfo _ _ _ _ 256 rfl rfl rfl rfl (by omega) ?_)
  apply Stop.go; intro w1 Hg1 Hb1
  go_wp2_with (refine wpList_conv_text rfl _ _ _ rfl Try.underlying30 Try.underlying5 head4 _ rfl _ _ rfl ?_)
  apply Stop.go; intro w2 Hg2 Hr2
  go_wp2_with fail
  refine (rlay_any _ 256 _ (zeros 256) HzL.out (by omega) 0 _ 4 _ head4 rfl _ (RB.of_blk0 (Hb1.out.ext Hg2.out.1)) Hr2.out).mono ?_; rintro e w3 ⟨A3, n3, c3, rfl, hl3, hc3, hm3, hr3, hb3⟩
  rw [HN.out] at hl3 hr3
  have HR3 := Lib.hid hr3
  have HL3 := Lib.hid hl3
  clear hr3 hl3
  go_wp2_with fail
  go_ret
  exact ⟨A3, n3, c3, rfl, HL3.out, hc3, hm3, HR3.out, bt (bt Hg1.out.1 Hg2.out.1) hb3⟩

def findZ (b : List UInt8) (s : ByteArray) : Int := match findS b s with
  | some k => (k : Int)
  | none => -1
theorem findZ_some {b : List UInt8} {s : ByteArray} {k : Nat} (h : findS b s = some k) : findZ b s = (k : Int) := by unfold findZ; rw [h]
theorem findZ_none {b : List UInt8} {s : ByteArray} (h : findS b s = none) : findZ b s = -1 := by unfold findZ; rw [h]
set_option maxRecDepth 4000 in
set_option maxHeartbeats 1600000 in
theorem rfind18_any (A : Option Addr) (cap : Nat) (b : List UInt8) (hb : b.length = 256) (s : ByteArray) (w : World) (hr : RB w A b) :
    Calls Try.prog 17 #[.slice A 256 cap, .string s] w fun e w' => e = .returned (.int .i64 (findZ b s)) ∧ Below w.heap.size w w' := by
  have HbL := Lib.hid hb
  have Hr := Lib.hid hr
  clear hb hr
  go_enter Try.func17, Try.ntmps17
  go_wp2_with fail
  go_loopw [5] (fun i wr => ∃ k : Nat, k ≤ 7 ∧ i = .int .i64 k ∧ (∀ j, j < k → hasS b s j = false) ∧ Below w.heap.size w wr) (fun i _ => 7 - (intOf i).toNat)
  case atStart => exact ⟨0, Nat.zero_le _, rfl, fun j hj => absurd hj (by omega), Below.refl _ _⟩
  case round =>
    obtain ⟨k, hk, rfl, hno, hek⟩ := hrel
    have HN := Lib.hid hno
    have HEk := Lib.hid hek
    clear hno hek
    by_cases hlt : k < 7
    · have d0 : decide ((k : Int) < 7) = true := by simp; omega
      have d1 : decide (k < 7) = true := by simp; omega
      have hwk : IntKind.i64.wrap ((k : Int) + 1) = (k : Int) + 1 := IntWalk.i64_in _ (by omega)
      go_wp2_with fail
      refine (rread18_any A cap b HbL.out k hlt _ (Hr.out.below HEk.out)).mono ?_; rintro e w4 ⟨rfl, hb4⟩
      have E4 := Lib.hid (bt HEk.out hb4)
      have z4 := Lib.hid (show w.heap.size ≤ w4.heap.size from E4.out.size)
      clear hb4 HEk
      obtain ⟨o, ho⟩ : ∃ o, entS b k = o := ⟨_, rfl⟩
      have HEs := Lib.hid ho
      rw [ho]
      clear ho
      go_wp2_with (refine wpList_alloc_row rfl _ rfl _ Try.entZero ?_)
      apply Stop.go; intro w5 Hg5 Hb5
      go_wp2_with (refine wpList_store_arr rfl _ _ _ rfl _ (ecells (entV o)) rfl rfl _ _ Hb5.out Try.entSize rfl (by simp [ecells, Value.oneCell']) ?_)
      apply Stop.go; intro w6 Ho6 Hb6
      have E6 := Lib.hid (bonly (bt E4.out Hg5.out.1) Ho6.out z4.out)
      generalize w4.heap.size = g4 at *
      clear Hg5 Hb5 Ho6 E4
      cases o with
      | none =>
        have HN1 := Lib.hid (hasS_no (s := s) HEs.out)
        rw [show (none : Option En).isSome = false from rfl]
        go_wp2_with fail
        go_roundw
        case rel =>
          refine ⟨k + 1, by omega, by go_num, fun j hj => ?_, E6.out⟩
          rcases Nat.lt_or_ge j k with h | h
          · exact HN.out j h
          · rw [show j = k from by omega]; exact HN1.out
        case measure => simp [intOf]; omega
      | some e =>
        have HN1 := Lib.hid (hasS_some (s := s) HEs.out)
        have c0 : w6.cell? ⟨g4, 0, none⟩ = some (.string e.name) := Hb6.out.cell 0
        rw [show (some e).isSome = true from rfl]
        cases heq : e.name.toList == s.toList
        · have HN1 := Lib.hid (show hasS b s k = false by rw [HN1.out, ← text_eq, heq])
          go_wp2_with fail
          go_roundw
          case rel =>
            refine ⟨k + 1, by omega, by go_num, fun j hj => ?_, E6.out⟩
            rcases Nat.lt_or_ge j k with h | h
            · exact HN.out j h
            · rw [show j = k from by omega]; exact HN1.out
          case measure => simp [intOf]; omega
        · have HF : Hid (findS b s = some k) := Lib.hid (fstB_some.2 ⟨hlt, by rw [HN1.out, ← text_eq, heq], HN.out⟩)
          go_wp2_with fail
          go_ret
          rw [findZ_some HF.out]
          exact ⟨rfl, E6.out⟩
    · obtain rfl : k = 7 := by omega
      have d0 : decide (((7 : Nat) : Int) < 7) = false := by simp
      have HF : Hid (findS b s = none) := Lib.hid (fstB_none.2 HN.out)
      go_wp2_with fail
      go_ret
      rw [findZ_none HF.out]
      exact ⟨rfl, HEk.out⟩

def roomZ (b : List UInt8) : Int := match roomS b with
  | some k => (k : Int)
  | none => -1
theorem roomZ_some {b : List UInt8} {k : Nat} (h : roomS b = some k) : roomZ b = (k : Int) := by unfold roomZ; rw [h]
theorem roomZ_none {b : List UInt8} (h : roomS b = none) : roomZ b = -1 := by unfold roomZ; rw [h]
set_option maxRecDepth 4000 in
set_option maxHeartbeats 1600000 in
theorem rroom18_any (A : Option Addr) (cap : Nat) (b : List UInt8) (hb : b.length = 256) (w : World) (hr : RB w A b) :
    Calls Try.prog 19 #[.slice A 256 cap] w fun e w' => e = .returned (.int .i64 (roomZ b)) ∧ Below w.heap.size w w' := by
  have HbL := Lib.hid hb
  have Hr := Lib.hid hr
  clear hb hr
  go_enter Try.func19, Try.ntmps19
  go_wp2_with fail
  go_loopw [3] (fun i wr => ∃ k : Nat, k ≤ 7 ∧ i = .int .i64 k ∧ (∀ j, j < k → emptyS b j = false) ∧ Below w.heap.size w wr) (fun i _ => 7 - (intOf i).toNat)
  case atStart => exact ⟨0, Nat.zero_le _, rfl, fun j hj => absurd hj (by omega), Below.refl _ _⟩
  case round =>
    obtain ⟨k, hk, rfl, hno, hek⟩ := hrel
    have HN := Lib.hid hno
    have HEk := Lib.hid hek
    clear hno hek
    by_cases hlt : k < 7
    · have d0 : decide ((k : Int) < 7) = true := by simp; omega
      have d1 : decide (k < 7) = true := by simp; omega
      have hwk : IntKind.i64.wrap ((k : Int) + 1) = (k : Int) + 1 := IntWalk.i64_in _ (by omega)
      go_wp2_with fail
      refine (rempty18_any A cap b HbL.out k hlt _ (Hr.out.below HEk.out)).mono ?_; rintro e w4 ⟨rfl, hb4⟩
      have E4 := Lib.hid (bt HEk.out hb4)
      clear hb4 HEk
      cases he : emptyS b k
      · have HN1 := Lib.hid he
        clear he
        go_wp2_with fail
        go_roundw
        case rel =>
          refine ⟨k + 1, by omega, by go_num, fun j hj => ?_, E4.out⟩
          rcases Nat.lt_or_ge j k with h | h
          · exact HN.out j h
          · rw [show j = k from by omega]; exact HN1.out
        case measure => simp [intOf]; omega
      · have HF : Hid (roomS b = some k) := Lib.hid (fstB_some.2 ⟨hlt, he, HN.out⟩)
        clear he
        go_wp2_with fail
        go_ret
        rw [roomZ_some HF.out]
        exact ⟨rfl, E4.out⟩
    · obtain rfl : k = 7 := by omega
      have d0 : decide (((7 : Nat) : Int) < 7) = false := by simp
      have HF : Hid (roomS b = none) := Lib.hid (fstB_none.2 HN.out)
      go_wp2_with fail
      go_ret
      rw [roomZ_none HF.out]
      exact ⟨rfl, HEk.out⟩

theorem rlay_put {b r : List UInt8} (hb : b.length = 256) (hr : r.length = 32) {q : Nat} (hq : q < 7) : rlayL b (32 + 32 * (q : Int)) r = putS b q r := by
  unfold rlayL putS
  rw [hb, decide_eq_true (by omega), decide_eq_true (by omega), show (32 + 32 * (q : Int)).toNat = 32 + 32 * q from by omega, List.take_of_length_le (by omega)]
  rfl
theorem fixS_yes {b : List UInt8} {k : Nat} (h : keptB b k = true) : fixS b (k + 1) = putS (fixS b k) k (rawS b k) := by
  show (if keptB b k then _ else _) = _
  rw [h]
  rfl
theorem fixS_not {b : List UInt8} {k : Nat} (h : keptB b k = false) : fixS b (k + 1) = fixS b k := by
  show (if keptB b k then _ else _) = _
  rw [h]
  rfl
theorem keptZ {b : List UInt8} {k : Nat} {e : En} (h : entS b k = some e) : keptB b k = (findZ b e.name == (k : Int)) := by
  rw [keptB_some h]
  unfold findZ
  cases findS b e.name with
  | none => simp
  | some q =>
    rw [Bool.eq_iff_iff]
    simp
    omega
set_option maxRecDepth 4000 in
set_option maxHeartbeats 3200000 in
theorem rfix18_any (A : Option Addr) (cap : Nat) (b : List UInt8) (hb : b.length = 256) (w : World) (hr : RB w A b) :
    Calls Try.prog 22 #[.slice A 256 cap] w (RetB w (fixS b 7)) := by
  have HbL := Lib.hid hb
  have Hr := Lib.hid hr
  have HhL := Lib.hid headB_len
  have HFL := Lib.hid (fun k (h : k ≤ 7) => fixS_len hb h)
  clear hb hr
  go_enter Try.func22, Try.ntmps22
  go_wp2_with fail
  refine (rhead18_any _).mono ?_; rintro e w1 ⟨A1, n1, c1, rfl, hl1, hc1, hm1, hr1, hb1⟩
  obtain rfl : n1 = 256 := by rw [← hl1, HhL.out]
  have HR1 := Lib.hid hr1
  have HB1 := Lib.hid hb1
  have HC1 := Lib.hid (And.intro hc1 hm1)
  clear hl1 hc1 hm1 hr1 hb1
  go_wp2_with fail
  go_loopw [3, 4] (fun o i wr => ∃ k : Nat, ∃ A3 c3, k ≤ 7 ∧ i = .int .i64 k ∧ o = .slice A3 256 c3 ∧ 256 ≤ c3 ∧ c3 ≤ maxLen ∧ RB wr A3 (fixS b k) ∧ Below w.heap.size w wr) (fun _ i _ => 7 - (intOf i).toNat)
  case atStart => exact ⟨0, A1, c1, Nat.zero_le _, rfl, rfl, HC1.out.1, HC1.out.2, HR1.out, HB1.out⟩
  case round =>
    obtain ⟨k, A3, c3, hk, rfl, rfl, hc3, hm3, hr3, hek⟩ := hrel
    have HC := Lib.hid (And.intro hc3 hm3)
    have HR := Lib.hid hr3
    have HEk := Lib.hid hek
    have HFk := Lib.hid (HFL.out k hk)
    clear hc3 hm3 hr3 hek
    by_cases hlt : k < 7
    · have d0 : decide ((k : Int) < 7) = true := by simp; omega
      have d1 : decide (k < 7) = true := by simp; omega
      have hwk : IntKind.i64.wrap ((k : Int) + 1) = (k : Int) + 1 := IntWalk.i64_in _ (by omega)
      have hw1 : IntKind.i64.wrap (32 * (k : Int)) = 32 * (k : Int) := IntWalk.i64_in _ (by omega)
      have hw3 : IntKind.i64.wrap (32 + 32 * (k : Int)) = 32 + 32 * (k : Int) := IntWalk.i64_in _ (by omega)
      go_wp2_with fail
      refine (rread18_any A cap b HbL.out k hlt _ (Hr.out.below HEk.out)).mono ?_; rintro e w4 ⟨rfl, hb4⟩
      have HR4 := Lib.hid (HR.out.below hb4)
      have E4 := Lib.hid (bt HEk.out hb4)
      have z4 := Lib.hid (show w.heap.size ≤ w4.heap.size from E4.out.size)
      clear hb4 HEk HR
      obtain ⟨o, ho⟩ : ∃ o, entS b k = o := ⟨_, rfl⟩
      have HEs := Lib.hid ho
      rw [ho]
      clear ho
      go_wp2_with (refine wpList_alloc_row rfl _ rfl _ Try.entZero ?_)
      apply Stop.go; intro w5 Hg5 Hb5
      go_wp2_with (refine wpList_store_arr rfl _ _ _ rfl _ (ecells (entV o)) rfl rfl _ _ Hb5.out Try.entSize rfl (by simp [ecells, Value.oneCell']) ?_)
      apply Stop.go; intro w6 Ho6 Hb6
      have D6 := Lib.hid (bonly Hg5.out.1 Ho6.out (Nat.le_refl _))
      have HR6 := Lib.hid (HR4.out.below D6.out)
      have E6 := Lib.hid (bt E4.out D6.out)
      generalize w4.heap.size = g4 at *
      clear Hg5 Hb5 Ho6 E4 D6 HR4
      cases o with
      | none =>
        have HF1 := Lib.hid (fixS_not (keptB_no HEs.out))
        rw [show (none : Option En).isSome = false from rfl]
        go_wp2_with fail
        go_roundw
        case rel => exact ⟨k + 1, A3, c3, by omega, by go_num, rfl, HC.out.1, HC.out.2, by rw [HF1.out]; exact HR6.out, E6.out⟩
        case measure => simp [intOf]; omega
      | some e =>
        have HKz := Lib.hid (keptZ HEs.out)
        have hmr := readE_iff.1 (show readE (rawS b k) = some e from HEs.out)
        have HME := Lib.hid hmr.1
        have HBE := Lib.hid hmr.2
        clear hmr
        have c0 : w6.cell? ⟨g4, 0, none⟩ = some (.string e.name) := Hb6.out.cell 0
        rw [show (some e).isSome = true from rfl]
        go_wp2_with fail
        refine (rfind18_any A cap b HbL.out e.name _ (Hr.out.below E6.out)).mono ?_; rintro e w7 ⟨rfl, hb7⟩
        have HR7 := Lib.hid (HR6.out.below hb7)
        have HX7 := Lib.hid (Hb6.out.ext hb7)
        have E7 := Lib.hid (bt E6.out hb7)
        clear hb7 HR6 Hb6 E6 c0
        obtain ⟨z, hz⟩ : ∃ z, findZ b e.name = z := ⟨_, rfl⟩
        rw [hz] at HKz ⊢
        clear hz
        cases hzk : (z == (k : Int))
        · have HF1 := Lib.hid (fixS_not (HKz.out.trans hzk))
          go_wp2_with fail
          go_roundw
          case rel => exact ⟨k + 1, A3, c3, by omega, by go_num, rfl, HC.out.1, HC.out.2, by rw [HF1.out]; exact HR7.out, E7.out⟩
          case measure => simp [intOf]; omega
        · have HF1 := Lib.hid (fixS_yes (HKz.out.trans hzk))
          have HYL := Lib.hid (bytesE_len HME.out)
          have HLP := Lib.hid (rlay_put HFk.out HYL.out hlt)
          rw [HBE.out] at HLP
          have HRLn := Lib.hid (rawS_len HbL.out hlt)
          have HPL := Lib.hid (putS_len HFk.out hlt HRLn.out)
          have HW := Lib.hid (fun w => rbytes18_any e HME.out w)
          rw [HBE.out] at HW
          obtain ⟨Y, hY⟩ : ∃ Y, rawS b k = Y := ⟨_, rfl⟩
          rw [hY] at HW HLP HRLn HPL HF1
          obtain ⟨X, hX⟩ : ∃ X, fixS b k = X := ⟨_, rfl⟩
          rw [hX] at HLP HPL HF1 HFk HR7
          clear hY hX HBE
          go_wp2_with (refine wpList_load_blk rfl _ _ rfl _ rfl _ _ HX7.out _ Try.underlying39 rfl Try.entSize ?_)
          refine (HW.out _).mono ?_; rintro e w8 ⟨A8, n8, c8, rfl, hl8, hc8, hm8, hr8, hb8⟩
          have HL8 := Lib.hid hl8
          have HR8 := Lib.hid (HR7.out.below hb8)
          have HY8 := Lib.hid hr8
          have E8 := Lib.hid (bt E7.out hb8)
          clear hl8 hc8 hm8 hr8 hb8 HR7 HX7 E7
          go_wp2_with fail
          refine (rlay_any A3 256 c3 X HFk.out (by omega) (32 + 32 * (k : Int)) A8 n8 c8 Y HL8.out _ HR8.out HY8.out).mono ?_; rintro e w9 ⟨A9, n9, c9, rfl, hl9, hc9, hm9, hr9, hb9⟩
          rw [HLP.out] at hl9 hr9
          obtain rfl : n9 = 256 := by rw [← hl9, HPL.out]
          have HR9 := Lib.hid hr9
          have HC9 := Lib.hid (And.intro hc9 hm9)
          have E9 := Lib.hid (bt E8.out hb9)
          clear hl9 hc9 hm9 hr9 hb9 HR8 HY8 E8
          go_wp2_with fail
          go_roundw
          case rel => exact ⟨k + 1, A9, c9, by omega, by go_num, rfl, HC9.out.1, HC9.out.2, by rw [HF1.out]; exact HR9.out, E9.out⟩
          case measure => simp [intOf]; omega
    · obtain rfl : k = 7 := by omega
      have d0 : decide (((7 : Nat) : Int) < 7) = false := by simp
      go_wp2_with fail
      go_ret
      exact ⟨A3, 256, c3, rfl, HFk.out, HC.out.1, HC.out.2, HR.out, HEk.out⟩

set_option maxHeartbeats 800000 in
theorem rright18_any (A : Option Addr) (cap : Nat) (b : List UInt8) (hb : b.length = 256) (w : World) (hr : RB w A b) :
    Calls Try.prog 21 #[.slice A 256 cap] w fun e w' => e = .returned (.bool (rightS b)) ∧ Below w.heap.size w w' := by
  have HbL := Lib.hid hb
  have Hr := Lib.hid hr
  have HF := Lib.hid (show rightS b = decide (fixS b 7 = b) by unfold rightS; exact Bool.eq_iff_iff.2 (by simp))
  have HFL := Lib.hid (fixS_len hb (Nat.le_refl 7))
  clear hb hr
  go_enter Try.func21, Try.ntmps21
  go_wp2_with fail
  refine (rfix18_any A cap b HbL.out _ Hr.out).mono ?_; rintro e w1 ⟨A1, n1, c1, rfl, hl1, hc1, hm1, hr1, hb1⟩
  obtain rfl : n1 = 256 := by rw [← hl1, HFL.out]
  have HR1 := Lib.hid hr1
  have HB1 := Lib.hid hb1
  clear hl1 hc1 hm1 hr1 hb1
  go_wp2_with fail
  refine (same_any _ _ _ (fixS b 7) HFL.out _ _ _ b HbL.out (by unfold maxLen; omega) (by unfold maxLen; omega) _ HR1.out (Hr.out.below HB1.out)).mono ?_; rintro e wa ⟨rfl, q, rfl⟩
  rw [← HF.out]
  have E := Lib.hid (bt HB1.out (bdrew w1 q))
  generalize w1.drewN q = wb at *
  go_wp2_with fail
  go_ret
  exact ⟨rfl, E.out⟩

end Go.Proofs.Ytmojappbgghpbaa
