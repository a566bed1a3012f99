/-
  Contracts of the document's answer 18: Much, New.
-/
import Derived.Test.YtmojappbgghpbaaRef18b
import Derived.Test.YtmojappbgghpbaaBck6
namespace Go.Proofs.Ytmojappbgghpbaa
open Go.RowKit

/-- More than is gone through? -/
def muchB (l : List En) (m : Nat) : Bool := decide (m < l.length) || l.any fun e => decide (60 < e.name.size)
theorem muchB_no {l : List En} {m : Nat} (h : muchB l m = false) : l.length ≤ m ∧ ∀ e ∈ l, e.name.size ≤ 60 := by
  unfold muchB at h
  simp only [Bool.or_eq_false_iff, decide_eq_false_iff_not, List.any_eq_false, decide_eq_true_eq] at h
  exact ⟨by omega, fun e he => by have := h.2 e he; omega⟩
theorem muchB_long {l : List En} {m : Nat} (h : m < l.length) : muchB l m = true := by unfold muchB; rw [decide_eq_true h]; rfl
theorem muchB_name {l : List En} {m : Nat} {k : Nat} {e : En} (h : l[k]? = some e) (h' : 60 < e.name.size) : muchB l m = true := by
  unfold muchB
  have : l.any (fun e => decide (60 < e.name.size)) = true := List.any_eq_true.2 ⟨e, List.mem_of_getElem? h, decide_eq_true h'⟩
  rw [this, Bool.or_true]
theorem muchB_all {l : List En} {m n : Nat} (hn : l.length = n) (h : n ≤ m) (h' : ∀ j e, j < n → l[j]? = some e → e.name.size ≤ 60) : muchB l m = false := by
  unfold muchB
  rw [decide_eq_false (by omega), Bool.false_or, List.any_eq_false]
  intro e he
  obtain ⟨j, hj, rfl⟩ := List.getElem_of_mem he
  have := h' j _ (by omega) (List.getElem?_eq_getElem hj)
  simp
  omega
set_option maxRecDepth 4000 in
set_option maxHeartbeats 1600000 in
theorem rmuch18_any (A : Option Addr) (n cap : Nat) (l : List En) (hn : l.length = n) (_hm : n ≤ maxLen) (m : Nat) (hmm : m ≤ 100) (w : World) (hr : RN w A 2 (erows l)) :
    Calls Try.prog 8 #[.slice A n cap, .int .i64 m] w fun e w' => e = .returned (.bool (muchB l m)) ∧ Below w.heap.size w w' := by
  have Hn := Lib.hid hn
  have Hr := Lib.hid hr
  by_cases hbig : m < n
  · have HM := Lib.hid (muchB_long (show m < l.length by omega))
    have d0 : decide ((m : Int) < (n : Int)) = true := by simp; omega
    have d1 : decide (m < n) = true := decide_eq_true hbig
    clear hn hr hbig
    go_enter Try.func8, Try.ntmps8
    go_wp2_with fail
    go_ret
    rw [HM.out]
    exact ⟨rfl, Below.refl _ _⟩
  · have d0 : decide ((m : Int) < (n : Int)) = false := by simp; omega
    have d1 : decide (m < n) = false := decide_eq_false hbig
    have HNM := Lib.hid (show n ≤ m by omega)
    have Hmm := Lib.hid hmm
    clear hn hr hbig hmm _hm
    go_enter Try.func8, Try.ntmps8
    go_wp2_with fail
    go_loopw [5] (fun i wr => ∃ k : Nat, k ≤ n ∧ i = .int .i64 k ∧ (∀ j e, j < k → l[j]? = some e → e.name.size ≤ 60) ∧ Below w.heap.size w wr) (fun i _ => n - (intOf i).toNat)
    case atStart => exact ⟨0, Nat.zero_le _, rfl, fun j e hj => absurd hj (by omega), Below.refl _ _⟩
    case round =>
      obtain ⟨k, hk, rfl, hmk, h3⟩ := hrel
      have HK := Lib.hid hmk
      have HW := Lib.hid h3
      clear hmk h3
      have hwk : IntKind.i64.wrap ((k : Int) + 1) = (k : Int) + 1 := IntWalk.i64_in _ (by have := HNM.out; have := Hmm.out; omega)
      by_cases hlt : k < n
      · have hkl : k < l.length := by rw [Hn.out]; exact hlt
        obtain ⟨e, hx⟩ : ∃ x, l[k]? = some x := ⟨_, List.getElem?_eq_getElem hkl⟩
        have h4 := Hr.out.below HW.out
        obtain ⟨ad, rfl⟩ := h4.adr (k := k) (by rw [erows_len]; exact hkl) (by decide)
        have hrow := h4.row (erow_at hx) rfl
        have c0 : wr.cell? (ad.add (k * 2)) = some (.string e.name) := by have := hrow 0 _ rfl; rwa [add_of_add] at this
        have HX := Lib.hid hx
        have e1 : decide (k < n) = true := decide_eq_true hlt
        have e2 : decide ((k : Int) < (n : Int)) = true := by simp; omega
        have z1 : (k : Int) < n := by omega
        have Hlt := Lib.hid hlt
        clear h4 hrow hx hkl hlt hk
        by_cases hs : 60 < e.name.size
        · have HM := Lib.hid (muchB_name (m := m) HX.out hs)
          have f1 : decide ((60 : Int) < (e.name.size : Int)) = true := by simp; omega
          have f2 : decide (60 < e.name.size) = true := decide_eq_true hs
          clear hs
          go_wp2_with fail
          go_ret
          rw [HM.out]
          exact ⟨rfl, HW.out⟩
        · have f1 : decide ((60 : Int) < (e.name.size : Int)) = false := by simp; omega
          have f2 : decide (60 < e.name.size) = false := decide_eq_false hs
          have HK1 := Lib.hid (show ∀ j e', j < k + 1 → l[j]? = some e' → e'.name.size ≤ 60 from fun j e' hj hj' => by
            rcases Nat.lt_or_ge j k with h | h
            · exact HK.out j e' h hj'
            · have h : j = k := by omega
              subst h
              rw [HX.out] at hj'
              injection hj' with hj'
              subst hj'
              omega)
          clear hs
          go_wp2_with fail
          go_roundw
          case rel => exact ⟨k + 1, by have := Hlt.out; omega, by go_num, HK1.out, HW.out⟩
          case measure => have := Hlt.out; simp [intOf]; omega
      · have hkn : k = n := by omega
        subst hkn
        have d2 : decide (k < k) = false := by simp
        have d3 : decide ((k : Int) < k) = false := by simp
        have HM := Lib.hid (muchB_all Hn.out HNM.out HK.out)
        clear hk hlt
        go_wp2_with fail
        go_ret
        rw [HM.out]
        exact ⟨rfl, HW.out⟩

/-- 18.1: New, as the document has it. -/
def newD (l : List En) : List UInt8 := if errB l = 0 then newS l l.length else []
theorem newD_err {l : List En} (h : errB l ≠ 0) : newD l = [] := by unfold newD; rw [if_neg h]
theorem newD_ok {l : List En} (h : errB l = 0) : newD l = newS l l.length := by unfold newD; rw [if_pos h]
theorem newS_lenk {l : List En} (hl : l.length ≤ 7) : ∀ {k : Nat}, k ≤ l.length → (∀ j e, j < k → l[j]? = some e → mayE e = true) → (newS l k).length = 256
  | 0, _, _ => headB_len
  | k + 1, h, hm => by
    have hx : l[k]? = some l[k] := List.getElem?_eq_getElem (by omega)
    rw [newS_step hx]
    exact putS_len (newS_lenk hl (by omega) fun j e hj => hm j e (by omega)) (by omega) (bytesE_len (hm k _ (by omega) hx))
theorem inN_zero (s : ByteArray) (l : List En) : inN s l 0 = false := by simp [inN]
theorem inN_next {s : ByteArray} {l : List En} {k : Nat} {x : En} (h : l[k]? = some x) : inN s l (k + 1) = (inN s l k || decide (x.name = s)) := by
  obtain ⟨hk, rfl⟩ := List.getElem?_eq_some_iff.1 h
  unfold inN
  rw [List.take_succ_eq_append_getElem hk, List.any_append]
  simp
theorem inN_mono {s : ByteArray} {l : List En} {j k : Nat} (h : j ≤ k) (hd : inN s l j = true) : inN s l k = true := by
  obtain ⟨i, hi, hj, e⟩ := inN_iff.1 hd
  exact inN_iff.2 ⟨i, hi, by omega, e⟩
set_option maxRecDepth 4000 in
set_option maxHeartbeats 3200000 in
theorem rnew18_any (A : Option Addr) (n cap : Nat) (l : List En) (hn : l.length = n) (_hm : n ≤ maxLen) (hs : ∀ e ∈ l, e.name.size ≤ maxLen) (w : World) (hr : RN w A 2 (erows l)) :
    Calls Try.prog 11 #[.slice A n cap] w (RetBE w (newD l) (errB l)) := by
  have HhL := Lib.hid headB_len
  have Hr := Lib.hid hr
  have Hs := Lib.hid hs
  have Hn := Lib.hid hn
  by_cases hbig : 7 < n
  · have HE := Lib.hid (errB_big (show 7 < l.length by omega))
    have HB := Lib.hid (newD_err (show errB l ≠ 0 by rw [HE.out]; decide))
    have d0 : decide (7 < n) = true := decide_eq_true hbig
    have d1 : decide ((7 : Int) < n) = true := by simp; omega
    clear hr hs hn
    go_enter Try.func11, Try.ntmps11
    go_wp2_with fail
    go_ret2
    rw [HE.out, HB.out]
    exact ⟨none, 0, 0, rfl, rfl, Nat.le_refl _, by unfold maxLen; omega, RB.nil_ _ _, Below.refl _ _⟩
  · have d0 : decide (7 < n) = false := decide_eq_false hbig
    have d1 : decide ((7 : Int) < n) = false := by simp; omega
    have Hn7 := Lib.hid (show n ≤ 7 by omega)
    have HEA := Lib.hid (fun k e (h : l[k]? = some e) (h' : mayE e = false) => errB_arg (show l.length ≤ 7 by omega) h h')
    have HSL := Lib.hid (fun k (h : k ≤ n) (h' : ∀ j e, j < k → l[j]? = some e → mayE e = true) => newS_lenk (l := l) (by omega) (k := k) (by omega) h')
    clear hr hs hn hbig _hm
    go_enter Try.func11, Try.ntmps11
    go_wp2_with fail
    refine (rhead18_any _).mono ?_; rintro e w1 ⟨A1, n1, c1, rfl, hl1, hc1, hm1, hr1, hb1⟩
    obtain rfl : n1 = 256 := by rw [← hl1, HhL.out]
    have HR1 := Lib.hid hr1
    have HB1 := Lib.hid hb1
    have HC1 := Lib.hid (And.intro hc1 hm1)
    clear hl1 hc1 hm1 hr1 hb1
    go_wp2_with fail
    go_loopw [4, 5] (fun o i wr => ∃ k : Nat, ∃ A3 c3, k ≤ n ∧ i = .int .i64 k ∧ (∀ j e, j < k → l[j]? = some e → mayE e = true) ∧ o = .slice A3 256 c3 ∧ 256 ≤ c3 ∧ c3 ≤ maxLen ∧ RB wr A3 (newS l k) ∧ Below w.heap.size w wr) (fun _ i _ => n - (intOf i).toNat)
    case atStart => exact ⟨0, A1, c1, Nat.zero_le _, rfl, fun j e hj => absurd hj (by omega), rfl, HC1.out.1, HC1.out.2, HR1.out, HB1.out⟩
    case round =>
      obtain ⟨k, A3, c3, hk, rfl, hmk, rfl, hc3, hm3, hr3, hek⟩ := hrel
      have HM := Lib.hid hmk
      have HC := Lib.hid (And.intro hc3 hm3)
      have HR := Lib.hid hr3
      have HW := Lib.hid hek
      have HTk := Lib.hid (HSL.out k hk hmk)
      clear hc3 hm3 hr3 hek hmk
      have hwk : IntKind.i64.wrap ((k : Int) + 1) = (k : Int) + 1 := IntWalk.i64_in _ (by have := Hn7.out; omega)
      by_cases hlt : k < n
      · have hkl : k < l.length := by rw [Hn.out]; exact hlt
        obtain ⟨e, hx⟩ : ∃ x, l[k]? = some x := ⟨_, List.getElem?_eq_getElem hkl⟩
        have h4 := Hr.out.below HW.out
        obtain ⟨ad, rfl⟩ := h4.adr (k := k) (by rw [erows_len]; exact hkl) (by decide)
        have hrow := h4.row (erow_at hx) rfl
        have HCr := Lib.hid hrow
        have HX := Lib.hid hx
        have Hse := Lib.hid (Hs.out e (List.mem_of_getElem? hx))
        have HNs := Lib.hid (newS_step hx)
        have e1 : decide (k < n) = true := decide_eq_true hlt
        have e2 : decide ((k : Int) < (n : Int)) = true := by simp; omega
        have z1 : (k : Int) < n := by omega
        have Hlt := Lib.hid hlt
        have hq : k < 7 := by have := Hn7.out; omega
        have Hq := Lib.hid hq
        have hw1 : IntKind.i64.wrap (32 * (k : Int)) = 32 * (k : Int) := IntWalk.i64_in _ (by omega)
        have hw3 : IntKind.i64.wrap (32 + 32 * (k : Int)) = 32 + 32 * (k : Int) := IntWalk.i64_in _ (by omega)
        clear h4 hrow hx hkl hlt hk hq
        go_wp2_with (refine wpList_load_cells rfl _ _ rfl (ad.add (k * 2)) rfl _ Try.underlying39 [.string e.name, .int .i64 e.ino] Try.entSize HCr.out ?_)
        refine (rmay18_any e Hse.out _).mono ?_; rintro e w4 ⟨rfl, hb4⟩
        have HR4 := Lib.hid (HR.out.below hb4)
        have W4 := Lib.hid (bt HW.out hb4)
        clear hb4 HR HW
        cases hme : mayE e
        · have HE := Lib.hid (HEA.out k e HX.out hme)
          have HB := Lib.hid (newD_err (show errB l ≠ 0 by rw [HE.out]; decide))
          clear hme
          go_wp2_with fail
          go_ret2
          rw [HE.out, HB.out]
          exact ⟨none, 0, 0, rfl, rfl, Nat.le_refl _, by unfold maxLen; omega, RB.nil_ _ _, W4.out⟩
        · have HM1 := Lib.hid (show ∀ j e', j < k + 1 → l[j]? = some e' → mayE e' = true from fun j e' hj hj' => by
            rcases Nat.lt_or_ge j k with h | h
            · exact HM.out j e' h hj'
            · have h : j = k := by omega
              subst h
              rw [HX.out] at hj'
              injection hj' with hj'
              subst hj'
              exact hme)
          have HYL := Lib.hid (bytesE_len hme)
          have HLP := Lib.hid (rlay_put HTk.out HYL.out Hq.out)
          have HPL := Lib.hid (putS_len HTk.out Hq.out HYL.out)
          have HWr := Lib.hid (fun w => rbytes18_any e hme w)
          obtain ⟨Y, hY⟩ : ∃ Y, bytesE e = Y := ⟨_, rfl⟩
          rw [hY] at HYL HLP HPL HWr HNs
          obtain ⟨X, hX⟩ : ∃ X, newS l k = X := ⟨_, rfl⟩
          rw [hX] at HLP HPL HNs HTk HR4
          have hC4 := (Hr.out.below W4.out).row (erow_at HX.out) rfl
          have HC4 := Lib.hid hC4
          clear hme hY hX hC4
          go_wp2_with (refine wpList_load_cells rfl _ _ rfl (ad.add (k * 2)) rfl _ Try.underlying39 [.string e.name, .int .i64 e.ino] Try.entSize HC4.out ?_)
          refine (HWr.out _).mono ?_; rintro e w8 ⟨A8, n8, c8, rfl, hl8, hc8, hm8, hr8, hb8⟩
          have HL8 := Lib.hid hl8
          have HR8 := Lib.hid (HR4.out.below hb8)
          have HY8 := Lib.hid hr8
          have E8 := Lib.hid (bt W4.out hb8)
          clear hl8 hc8 hm8 hr8 hb8 HR4 W4
          go_wp2_with fail
          refine (rlay_any A3 256 c3 X HTk.out (by omega) (32 + 32 * (k : Int)) A8 n8 c8 Y HL8.out _ HR8.out HY8.out).mono ?_; rintro e w9 ⟨A9, n9, c9, rfl, hl9, hc9, hm9, hr9, hb9⟩
          rw [HLP.out] at hl9 hr9
          obtain rfl : n9 = 256 := by rw [← hl9, HPL.out]
          have HR9 := Lib.hid hr9
          have HC9 := Lib.hid (And.intro hc9 hm9)
          have E9 := Lib.hid (bt E8.out hb9)
          clear hl9 hc9 hm9 hr9 hb9 HR8 HY8 E8
          go_wp2_with fail
          go_roundw
          case rel => exact ⟨k + 1, A9, c9, by have := Hlt.out; omega, by go_num, HM1.out, rfl, HC9.out.1, HC9.out.2, by rw [HNs.out]; exact HR9.out, E9.out⟩
          case measure => have := Hlt.out; simp [intOf]; omega
      · have hkn : k = n := by omega
        subst hkn
        have d2 : decide (k < k) = false := by simp
        have d3 : decide ((k : Int) < k) = false := by simp
        have HMA := Lib.hid (mayE_upto Hn.out HM.out)
        have HEd := Lib.hid (fun j (hj : j < l.length) (h : dupE l (j + 1) = true) => errB_dup (show l.length ≤ 7 by rw [Hn.out]; exact Hn7.out) HMA.out hj h)
        have HEo := Lib.hid (fun (h : dupE l l.length = false) => errB_ok (show l.length ≤ 7 by rw [Hn.out]; exact Hn7.out) HMA.out h)
        obtain ⟨X, hX⟩ : ∃ X, newS l k = X := ⟨_, rfl⟩
        rw [hX] at HTk HR
        have HX := Lib.hid hX
        clear hk hlt hwk HM hX
        generalize wr = wq at *
        go_wp2_with fail
        go_loopw [6] (fun i wr => ∃ j : Nat, j ≤ k ∧ i = .int .i64 j ∧ dupE l j = false ∧ Below wq.heap.size wq wr) (fun i _ => k - (intOf i).toNat)
        case atStart => exact ⟨0, Nat.zero_le _, rfl, rfl, Below.refl _ _⟩
        case round =>
          obtain ⟨j, hj, rfl, hdj, h4⟩ := hrel
          have HD := Lib.hid hdj
          have HV := Lib.hid h4
          clear hdj h4
          have hwj : IntKind.i64.wrap ((j : Int) + 1) = (j : Int) + 1 := IntWalk.i64_in _ (by have := Hn7.out; omega)
          by_cases hlt : j < k
          · have hkl : j < l.length := by rw [Hn.out]; exact hlt
            obtain ⟨e, hx⟩ : ∃ x, l[j]? = some x := ⟨_, List.getElem?_eq_getElem hkl⟩
            have HXe := Lib.hid hx
            have HDn := Lib.hid (show dupE l (j + 1) = inN e.name l j by rw [dupE_at hx, HD.out]; rfl)
            have e1 : decide (j < k) = true := decide_eq_true hlt
            have e2 : decide ((j : Int) < (k : Int)) = true := by simp; omega
            have z1 : (j : Int) < k := by omega
            have Hlt := Lib.hid hlt
            have HI0 := Lib.hid (inN_zero e.name l)
            clear hx hkl hlt hj
            generalize wr = wp at *
            go_wp2_with fail
            go_loopw [7] (fun i wr => ∃ p : Nat, p ≤ j ∧ i = .int .i64 p ∧ inN e.name l p = false ∧ Below wq.heap.size wq wr) (fun i _ => j - (intOf i).toNat)
            case atStart => exact ⟨0, Nat.zero_le _, rfl, HI0.out, HV.out⟩
            case round =>
              obtain ⟨p, hp, rfl, hip, h5⟩ := hrel
              have HP := Lib.hid hip
              have HU := Lib.hid h5
              clear hip h5
              have hwp : IntKind.i64.wrap ((p : Int) + 1) = (p : Int) + 1 := IntWalk.i64_in _ (by have := Hn7.out; have := Hlt.out; omega)
              by_cases hpj : p < j
              · have hpl : p < l.length := by rw [Hn.out]; have := Hlt.out; omega
                obtain ⟨x, hxp⟩ : ∃ x, l[p]? = some x := ⟨_, List.getElem?_eq_getElem hpl⟩
                have h6 := Hr.out.below (bt HW.out HU.out)
                obtain ⟨ad, rfl⟩ := h6.adr (k := p) (by rw [erows_len]; exact hpl) (by decide)
                have c0 : wr.cell? (ad.add (p * 2)) = some (.string x.name) := by have := h6.row (erow_at hxp) rfl 0 _ rfl; rwa [add_of_add] at this
                have c1 : wr.cell? (ad.add (j * 2)) = some (.string e.name) := by have := h6.row (erow_at HXe.out) rfl 0 _ rfl; rwa [add_of_add] at this
                have HNx := Lib.hid (inN_next (s := e.name) hxp)
                have f1 : decide (p < j) = true := decide_eq_true hpj
                have f2 : decide ((p : Int) < (j : Int)) = true := by simp; omega
                have z2 : (p : Int) < j := by omega
                have z3 : (p : Int) < k := by omega
                have Hpj := Lib.hid hpj
                clear h6 hxp hpl hpj hp
                cases heq : x.name.toList == e.name.toList
                · have HP1 := Lib.hid (show inN e.name l (p + 1) = false by rw [HNx.out, HP.out, ← text_eq, heq]; rfl)
                  go_wp2_with fail
                  go_quiet (fail)
                  go_wp2_with fail
                  have HU2 := Lib.hid (bt HU.out (bdrew wr nq))
                  generalize wr.drewN nq = wz at *
                  go_roundw
                  case rel => exact ⟨p + 1, by have := Hpj.out; omega, by go_num, HP1.out, HU2.out⟩
                  case measure => have := Hpj.out; simp [intOf]; omega
                · have HP1 := Lib.hid (show inN e.name l (p + 1) = true by rw [HNx.out, HP.out, ← text_eq, heq]; rfl)
                  have HE := Lib.hid (HEd.out j (by rw [Hn.out]; exact Hlt.out) (by rw [HDn.out]; exact inN_mono Hpj.out HP1.out))
                  have HB := Lib.hid (newD_err (show errB l ≠ 0 by rw [HE.out]; decide))
                  go_wp2_with fail
                  go_quiet (fail)
                  go_wp2_with fail
                  go_ret2
                  rw [HE.out, HB.out]
                  exact ⟨none, 0, 0, rfl, rfl, Nat.le_refl _, by unfold maxLen; omega, RB.nil_ _ _, bt (bt HW.out HU.out) (bdrew wr _)⟩
              · have hpe : p = j := by omega
                subst hpe
                have d2 : decide (p < p) = false := by simp
                have d3 : decide ((p : Int) < p) = false := by simp
                have HD1 := Lib.hid (HDn.out.trans HP.out)
                clear hp hpj
                go_wp2_with fail
                go_roundw
                case rel => exact ⟨p + 1, by have := Hlt.out; omega, by go_num, HD1.out, HU.out⟩
                case measure => have := Hlt.out; simp [intOf]; omega
          · have hjk : j = k := by omega
            subst hjk
            have d2 : decide (j < j) = false := by simp
            have d3 : decide ((j : Int) < j) = false := by simp
            have HE := Lib.hid (HEo.out (by rw [Hn.out]; exact HD.out))
            have HB := Lib.hid (show newD l = X by rw [newD_ok HE.out, Hn.out]; exact HX.out)
            clear hj hlt
            go_wp2_with fail
            go_ret2
            rw [HE.out, HB.out]
            exact ⟨A3, 256, c3, rfl, HTk.out, HC.out.1, HC.out.2, HR.out.below HV.out, bt HW.out HV.out⟩

end Go.Proofs.Ytmojappbgghpbaa
