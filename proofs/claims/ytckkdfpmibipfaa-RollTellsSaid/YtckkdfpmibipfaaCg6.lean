/-
  Contracts of what package ready's Ready calls: a search among bools, among needs; what is left and not ready; what marks bytes.
-/
import Derived.Test.YtckkdfpmibipfaaCg3
import Derived.Test.YtckkdfpmibipfaaSetI
import Derived.Test.YtckkdfpmibipfaaBools
import Derived.Test.YtckkdfpmibipfaaReadyD
namespace Go.Proofs.Ytckkdfpmibipfaa
open Go.RowKit

theorem Try.boolSize : (Try.prog.info? 4).map (·.size) = some 1 := by kernel_rfl
theorem Try.unitZero : (Try.prog.info? 87).map (·.zero) = some (some (.agg #[])) := by kernel_rfl
theorem Try.unitSize : (Try.prog.info? 87).map (·.size) = some 0 := by kernel_rfl

/-- The first of n that is so, or -1. -/
def FirstN (f : Nat → Bool) (n : Nat) (i : Int) : Prop := decide (0 ≤ i) = anyN f n
theorem FirstN.yes {f : Nat → Bool} {n k : Nat} (hk : k < n) (h : f k = true) : FirstN f n k := by
  unfold FirstN
  rw [anyN_iff.2 ⟨k, hk, h⟩]
  simp
theorem FirstN.no {f : Nat → Bool} {n : Nat} (h : ∀ j, j < n → f j = false) : FirstN f n (-1) := by
  have e : anyN f n = false := Bool.eq_false_iff.2 (fun hh => by obtain ⟨j, h1, h2⟩ := anyN_iff.1 hh; rw [h j h1] at h2; cases h2)
  unfold FirstN
  rw [e]
  simp

set_option maxHeartbeats 800000 in
theorem idxb_any (ad : Addr) (n c : Nat) (f : Nat → Bool) (hm : n ≤ 9223372036854775807) (w : World) (hr : ∀ j, j < n → w.cell? (ad.add j) = some (.bool (f j))) :
    Calls Try.prog 69 #[.slice (some ad) n c, .bool true] w fun e w' => (∃ i : Int, e = .returned (.int .i64 i) ∧ FirstN f n i) ∧ w = w' := by
  have Hr := Lib.hid hr
  clear hr
  go_enter Try.func69, Try.ntmps69
  go_wp2_with fail
  go_loop [8] (fun i => ∃ k : Nat, k ≤ n ∧ i = .int .i64 k ∧ ∀ j, j < k → f j = false) (fun i => n - (intOf i).toNat)
  case atStart => exact ⟨0, Nat.zero_le _, rfl, fun j h => absurd h (Nat.not_lt_zero _)⟩
  case round =>
    obtain ⟨k, hk, rfl, hno⟩ := hrel
    have Hno := Lib.hid hno
    clear hno
    by_cases hlt : k < n
    · have d0 : decide ((k : Int) < n) = true := by simpa using hlt
      have hc := Hr.out k hlt
      cases hf : f k
      · rw [hf] at hc
        have HF := Lib.hid hf
        clear hf
        go_wp2_with fail
        refine ⟨⟨k + 1, by omega, by go_num, fun j hj => ?_⟩, by simp [intOf]; omega⟩
        by_cases h : j = k
        · subst h; exact HF.out
        · exact Hno.out j (by omega)
      · rw [hf] at hc
        have HF := Lib.hid (FirstN.yes hlt hf)
        clear hf
        go_wp2_with fail
        go_ret
        exact ⟨⟨k, rfl, HF.out⟩, rfl⟩
    · have d0 : decide ((k : Int) < n) = false := by simpa using hlt
      have HF := Lib.hid (FirstN.no (f := f) (n := n) fun j hj => Hno.out j (by omega))
      go_wp2_with fail
      go_ret
      exact ⟨⟨-1, rfl, HF.out⟩, rfl⟩
theorem conb_any (ad : Addr) (n c : Nat) (f : Nat → Bool) (hm : n ≤ 9223372036854775807) (w : World) (hr : ∀ j, j < n → w.cell? (ad.add j) = some (.bool (f j))) :
    Calls Try.prog 61 #[.slice (some ad) n c, .bool true] w fun e w' => e = .returned (.bool (anyN f n)) ∧ w = w' := by
  have HC := Lib.hid (idxb_any ad n c f hm w hr)
  obtain ⟨b, hb⟩ : ∃ b, anyN f n = b := ⟨_, rfl⟩
  rw [hb]
  have Hb := Lib.hid hb
  clear hr hm hb
  go_enter Try.func61, Try.ntmps61
  go_wp2_with fail
  refine (HC.out).mono ?_; rintro e w2 ⟨⟨i, rfl, hi⟩, rfl⟩
  have d0 : decide (0 ≤ i) = b := Hb.out ▸ hi
  clear hi
  go_wp2_with fail
  go_ret
  first | exact ⟨rfl, rfl⟩ | (rw [d0]; exact ⟨rfl, rfl⟩)

/-- Where one is so. -/
def anyL (B : Int → Bool) (l : List Int) : Bool := anyN (fun j => B (l.getD j 0)) l.length
theorem anyL_any (B : Int → Bool) (l : List Int) : anyL B l = l.any B := by
  rw [Bool.eq_iff_iff]
  unfold anyL
  rw [anyN_iff, List.any_eq_true]
  constructor
  · rintro ⟨j, hj, h⟩
    simp only [List.getD, List.getElem?_eq_getElem hj, Option.getD_some] at h
    exact ⟨l[j], List.getElem_mem hj, h⟩
  · rintro ⟨x, hx, h⟩
    obtain ⟨j, hj, rfl⟩ := List.getElem_of_mem hx
    exact ⟨j, hj, by simp only [List.getD, List.getElem?_eq_getElem hj, Option.getD_some]; exact h⟩

set_option maxHeartbeats 1600000 in
theorem idxi_any (A : Option Addr) (n c : Nat) (l : List Int) (hn : l.length = n) (hm : n ≤ maxLen) (q6 q2 : Value) (B : Int → Bool) (w : World) (hr : RC w A (ivals l))
    (hf : ∀ x ∈ l, ∀ w', Below w.heap.size w w' → Calls Try.prog 58 #[.int .i64 x, q6, q2] w' fun e w'' => e = .returned (.bool (B x)) ∧ Below w'.heap.size w' w'') :
    Calls Try.prog 70 #[.slice A n c, .func (.func 58) #[] #[q6, q2]] w fun e w' => (∃ i : Int, e = .returned (.int .i64 i) ∧ FirstN (fun j => B (l.getD j 0)) n i) ∧ Below w.heap.size w w' := by
  unfold maxLen at hm
  have Hn := Lib.hid hn
  have Hr := Lib.hid hr
  have HF := Lib.hid hf
  clear hr hf hn
  go_enter Try.func70, Try.ntmps70
  go_wp2_with fail
  go_loopw [8] (fun i wr => ∃ k : Nat, k ≤ n ∧ i = .int .i64 k ∧ (∀ j, j < k → B (l.getD j 0) = false) ∧ Below w.heap.size w wr) (fun i _ => n - (intOf i).toNat)
  case atStart => exact ⟨0, Nat.zero_le _, rfl, fun j h => absurd h (Nat.not_lt_zero _), Below.refl _ _⟩
  case round =>
    obtain ⟨k, hk, rfl, hno, hbw⟩ := hrel
    have Hno := Lib.hid hno
    have Hbw := Lib.hid hbw
    clear hno hbw
    by_cases hlt : k < n
    · have d0 : decide ((k : Int) < n) = true := by simpa using hlt
      have hkl : k < l.length := by rw [Hn.out]; exact hlt
      obtain ⟨ad, rfl, hc⟩ := (Hr.out.below Hbw.out).int k hkl
      have HC := Lib.hid (HF.out l[k] (List.getElem_mem hkl) wr Hbw.out)
      have He := Lib.hid (show l.getD k 0 = l[k] by simp [List.getD, hkl])
      generalize l[k] = x at *
      go_wp2_with fail
      refine (HC.out).mono ?_; rintro e w2 ⟨rfl, hb2⟩
      have Hb2 := Lib.hid (bt Hbw.out hb2)
      clear hb2
      cases hb : B x
      · have Hx := Lib.hid hb
        clear hb
        go_wp2_with fail
        go_roundw
        case rel => exact ⟨k + 1, by omega, by go_num, fun j hj => by
          by_cases h : j = k
          · subst h; rw [He.out]; exact Hx.out
          · exact Hno.out j (by omega), Hb2.out⟩
        case measure => simp [intOf]; omega
      · have Hx := Lib.hid (FirstN.yes (f := fun j => B (l.getD j 0)) hlt (by rw [He.out]; exact hb))
        clear hb
        go_wp2_with fail
        go_ret
        exact ⟨⟨k, rfl, Hx.out⟩, Hb2.out⟩
    · have d0 : decide ((k : Int) < n) = false := by simpa using hlt
      have Hx := Lib.hid (FirstN.no (f := fun j => B (l.getD j 0)) (n := n) fun j hj => Hno.out j (by omega))
      go_wp2_with fail
      go_ret
      exact ⟨⟨-1, rfl, Hx.out⟩, Hbw.out⟩
theorem coni_any (A : Option Addr) (n c : Nat) (l : List Int) (hn : l.length = n) (hm : n ≤ maxLen) (q6 q2 : Value) (B : Int → Bool) (w : World) (hr : RC w A (ivals l))
    (hf : ∀ x ∈ l, ∀ w', Below w.heap.size w w' → Calls Try.prog 58 #[.int .i64 x, q6, q2] w' fun e w'' => e = .returned (.bool (B x)) ∧ Below w'.heap.size w' w'') :
    Calls Try.prog 62 #[.slice A n c, .func (.func 58) #[] #[q6, q2]] w fun e w' => e = .returned (.bool (l.any B)) ∧ Below w.heap.size w w' := by
  have HC := Lib.hid (idxi_any A n c l hn hm q6 q2 B w hr hf)
  have HL := Lib.hid (show anyN (fun j => B (l.getD j 0)) n = l.any B by rw [← hn]; exact anyL_any B l)
  clear hr hf hm hn
  obtain ⟨b, hb⟩ : ∃ b, l.any B = b := ⟨_, rfl⟩
  rw [hb] at HL ⊢
  clear hb
  go_enter Try.func62, Try.ntmps62
  go_wp2_with fail
  refine (HC.out).mono ?_; rintro e w2 ⟨⟨i, rfl, hi⟩, hb2⟩
  have d0 : decide (0 ≤ i) = b := HL.out ▸ hi
  have Hb2 := Lib.hid hb2
  clear hi hb2
  go_wp2_with fail
  go_ret
  first | exact ⟨rfl, Hb2.out⟩ | (rw [d0]; exact ⟨rfl, Hb2.out⟩)

set_option maxHeartbeats 1600000 in
/-- What is left, and not ready. -/
theorem rdy1_any (g2 g6 gm : Nat) (t2 t6 : TypeId) (cnt : Nat) (m : Int → Bool) (A : Option Addr) (n cap : Nat) (l : List Cg) (hn : l.length = n) (hm : n ≤ 4096) (hmay : mayC l = true) (x : Int) (hx : (Lit.int .i64 x).wf = true) (w : World) (hr : RdL RdC w A 5 l)
    (h2 : Blk w g2 t2 #[.slice A n cap]) (h6 : Blk w g6 t6 #[.map (some gm)]) (hM : SetI w Try.prog 3 gm cnt m) :
    Calls Try.prog 58 #[.int .i64 x, .pointer (some ⟨g6, 0, none⟩), .pointer (some ⟨g2, 0, none⟩)] w fun e w' => e = .returned (.bool (hasId l x && !m x)) ∧ Below w.heap.size w w' := by
  have Hr := Lib.hid hr
  have H2 := Lib.hid h2
  have HM := Lib.hid hM
  have Hn := Lib.hid hn
  have Hmay := Lib.hid hmay
  have c6 : w.cell? ⟨g6, 0, none⟩ = some (.map (some gm)) := h6.cell 0
  clear hr h2 h6 hM hn hmay
  obtain ⟨b, hb⟩ : ∃ b, m x = b := ⟨_, rfl⟩
  obtain ⟨q', hq'⟩ : ∃ q, hasId l x = q := ⟨_, rfl⟩
  obtain ⟨r, hr⟩ : ∃ r, (q' && !b) = r := ⟨_, rfl⟩
  rw [hb, hq', hr]
  have Hb := Lib.hid hb
  have Hq := Lib.hid hq'
  have Hrr := Lib.hid hr
  clear hb hq' hr
  go_enter Try.func58, Try.ntmps58
  go_wp2_with (first | refine wpList_set_look rfl _ _ _ rfl _ _ Try.underlying3 Try.underlying86 Try.unitZero rfl HM.out x rfl hx b Hb.out ?_ | refine wpList_alloc_row rfl _ rfl _ Try.unitZero ?_)
  apply Stop.go; intro w1 Hg1 Hb1
  go_wp2_with (refine wpList_store_arr rfl _ _ _ rfl _ #[] rfl rfl _ _ Hb1.out Try.unitSize rfl (by simp) ?_)
  apply Stop.go; intro w2 Ho2 Hb2
  have D2 := Lib.hid (bonly Hg1.out.1 Ho2.out (Nat.le_refl _))
  have c2 : w2.cell? ⟨g2, 0, none⟩ = some (.slice A n cap) := (H2.out.ext D2.out).cell 0
  clear c6
  go_wp2_with fail
  refine (place_any A n cap l Hn.out hm x Hmay.out _ (Hr.out.below D2.out)).mono ?_; rintro e w3 ⟨p, q, rfl, hf, hb3⟩
  have Hb3 := Lib.hid (bt D2.out hb3)
  have Hf := Lib.hid (Hq.out.symm.trans (show hasId l x = q by
    cases q
    · exact Bool.eq_false_iff.2 fun h => by
        obtain ⟨c, hc, he⟩ := hasId_iff.1 h
        exact hf.2 rfl c hc he
    · obtain ⟨h, he⟩ := hf.1 rfl
      exact hasId_iff.2 ⟨_, List.getElem_mem h, he⟩))
  clear hf hb3
  cases q
  · have HE : Hid (r = false) := Lib.hid (by rw [← Hrr.out, Hf.out]; rfl)
    go_wp2_with fail
    go_ret
    rw [HE.out]
    exact ⟨rfl, Hb3.out⟩
  · have HE : Hid (r = !b) := Lib.hid (by rw [← Hrr.out, Hf.out]; rfl)
    go_wp2_with fail
    go_ret
    rw [HE.out]
    exact ⟨rfl, Hb3.out⟩

/-- Bools, true from a place on too. -/
def fromTo (f : Nat → Bool) (q j : Nat) (i : Nat) : Bool := f i || decide (q ≤ i ∧ i < q + j)
theorem fromTo_zero (f : Nat → Bool) (q i : Nat) : fromTo f q 0 i = f i := by
  unfold fromTo
  rw [decide_eq_false (by omega), Bool.or_false]
theorem fromTo_next (f : Nat → Bool) (q j i : Nat) : (fromTo f q j i || decide (i = q + j)) = fromTo f q (j + 1) i := by
  unfold fromTo
  rw [Bool.or_assoc]
  congr 1
  by_cases h1 : i = q + j
  · rw [decide_eq_true h1, Bool.or_true, decide_eq_true (by omega)]
  · rw [decide_eq_false h1, Bool.or_false]
    by_cases h2 : q ≤ i ∧ i < q + j
    · rw [decide_eq_true h2, decide_eq_true (by omega)]
    · rw [decide_eq_false h2, decide_eq_false (by omega)]
set_option maxHeartbeats 1600000 in
theorem mark_any (gh q n c N : Nat) (t : TypeId) (f : Nat → Bool) (hq : q + n ≤ N) (hN : N ≤ 65536) (w : World) (hb : Blk w gh t (fbools N f)) :
    Calls Try.prog 63 #[.slice (some ⟨gh, q, none⟩) n c] w fun e w' => e = .returned (.tuple #[]) ∧ Only w w' gh ∧ Blk w' gh t (fbools N (fromTo f q n)) := by
  have Hb := Lib.hid hb
  clear hb
  go_enter Try.func63, Try.ntmps63
  go_wp2_with fail
  go_loopw [5] (fun i wr => ∃ k : Nat, k ≤ n ∧ i = .int .i64 k ∧ Only w wr gh ∧ Blk wr gh t (fbools N (fromTo f q k))) (fun i _ => n - (intOf i).toNat)
  case atStart => exact ⟨0, Nat.zero_le _, rfl, Only.refl _ _, by rw [show fromTo f q 0 = f from funext (fromTo_zero f q)]; exact Hb.out⟩
  case round =>
    obtain ⟨k, hk, rfl, ho, hbk⟩ := hrel
    have Ho := Lib.hid ho
    have Hbk := Lib.hid hbk
    clear ho hbk
    by_cases hlt : k < n
    · have d0 : decide ((k : Int) < n) = true := by simpa using hlt
      have hz : (⟨gh, q, none⟩ : Addr).add k = ⟨gh, q + k, none⟩ := by unfold Addr.add; split <;> simp_all
      go_wp2_with (refine wpList_store_cell rfl _ _ _ rfl Try.boolSize gh (q + k) (by first | rfl | (rw [← hz]; rfl)) (.bool true) rfl rfl rfl _ _ Hbk.out (by rw [fbools_size]; omega) ?_)
      apply Stop.go; intro w2 Ho2 Hb2
      rw [fbools_set, show (fun i => fromTo f q k i || decide (i = q + k)) = fromTo f q (k + 1) from funext (fromTo_next f q k)] at Hb2
      go_wp2_with fail
      go_roundw
      case rel => exact ⟨k + 1, by omega, by go_num, Ho.out.trans Ho2.out, Hb2.out⟩
      case measure => simp [intOf]; omega
    · have d0 : decide ((k : Int) < n) = false := by simpa using hlt
      have e1 : k = n := by omega
      rw [e1] at Hbk
      clear e1
      go_wp2_with fail
      go_end0
      exact ⟨rfl, Ho.out, Hbk.out⟩

end Go.Proofs.Ytckkdfpmibipfaa
