/-
  Contracts of package bucket: Right, New.
-/
import Derived.Test.YtmojappbgghpbaaBck5
namespace Go.Proofs.Ytmojappbgghpbaa
open Go.RowKit

set_option maxRecDepth 4000 in
set_option maxHeartbeats 800000 in
theorem bright_any (b : List UInt8) (hb : b.length = 256) (w : World) :
    Calls Try.prog 13 #[.agg (bcells b)] w fun e w' => e = .returned (.bool (rightS b)) ∧ Below w.heap.size w w' := by
  have HbL := Lib.hid hb
  have HFL := Lib.hid (fixS_len hb (Nat.le_refl 7))
  have HRr : Hid ((fixS b 7 == b) = rightS b) := Lib.hid rfl
  have HF := Lib.hid (fun w => bfix_any b hb w)
  obtain ⟨r, hr⟩ : ∃ r, rightS b = r := ⟨_, rfl⟩
  obtain ⟨X, hX⟩ : ∃ X, fixS b 7 = X := ⟨_, rfl⟩
  rw [hr] at HRr ⊢
  rw [hX] at HRr HFL HF
  clear hr hX
  go_enter Try.func13, Try.ntmps13
  go_wp2_with (refine wpList_box_row rfl _ _ rfl _ rfl ?_)
  apply Stop.go; intro w1 Hg1 Hb1
  clear hb
  go_wp2_with fail
  refine WH.start (S := fun w' : World => Blk w' w.heap.size 26 (bcells b)) [false, false, false, false, false] 5 rfl rfl (by kernel_rfl) (Hb1.out.ext (bdrew w1 1)) (fun hSn => ?_); obtain ⟨wS, hwS⟩ : ∃ x, (w1).drew = x := ⟨_, rfl⟩; have HE := Lib.hid (show Below (w1).heap.size (w1) wS from hwS ▸ bdrew w1 1); rw [hwS] at hSn ⊢; clear hwS
  refine WH.tv 0 rfl (fun w' hSw => exec_load_blk _ _ rfl _ rfl _ _ (hSw) _ (Try.underlying26) rfl (Try.blockFits HbL.out)) ?_; simp only [setL]
  refine WH.tv 2 rfl (fun w' hSw => exec_load_blk _ _ rfl _ rfl _ _ (hSw) _ (Try.underlying26) rfl (Try.blockFits HbL.out)) ?_; simp only [setL]
  refine WH.only 1 _ rfl (by kernel_rfl) rfl (fun K hK => ?_)
  go_simp; refine (HF.out _).mono ?_; rintro e wa ⟨rfl, hba⟩; go_simp
  have HE := Lib.hid (bt HE.out hba)
  have hSn := hSn.ext hba; refine hK _ _ hSn ?_; clear hK; clear K; simp only [setL]
  refine WH.tv 3 rfl (fun w' hSw => exec_eql_arr _ _ _ _ rfl (by kernel_rfl) _ _ Try.underlying26 Try.underlying5 Try.byteSize X b rfl rfl HFL.out HbL.out r HRr.out) ?_; simp only [setL]
  refine WH.tk 4 ?_; simp only [setL]
  refine WH.done (by kernel_rfl) ?_
  go_wp2_with fail
  go_ret
  exact ⟨rfl, bt Hg1.out.1 HE.out⟩

/-- The rows of a list of entries. -/
def erow (e : En) : List Value := [.string e.name, .int .i64 e.ino]
def erows (l : List En) : List (List Value) := l.map erow
theorem erows_len (l : List En) : (erows l).length = l.length := by simp [erows]
theorem erow_at {l : List En} {k : Nat} {x : En} (h : l[k]? = some x) : (erows l)[k]? = some (erow x) := by unfold erows; rw [List.getElem?_map, h]; rfl
theorem errB_big {l : List En} (h : 7 < l.length) : errB l = 11 := by unfold errB; rw [if_pos h]
theorem errB_arg {l : List En} (h : l.length ≤ 7) {k : Nat} {e : En} (hk : l[k]? = some e) (hm : mayE e = false) : errB l = 1 := by
  have h2 : l.all mayE = false := by
    rw [List.all_eq_false]
    exact ⟨e, List.mem_of_getElem? hk, by rw [hm]; simp⟩
  unfold errB
  rw [if_neg (by omega), h2]
  rfl
theorem errB_dup {l : List En} (h : l.length ≤ 7) (hm : ∀ e ∈ l, mayE e = true) {k : Nat} (hk : k < l.length) (hd : dupE l (k + 1) = true) : errB l = 5 := by
  unfold errB
  rw [if_neg (by omega), if_pos (List.all_eq_true.2 hm), dupE_mono (by omega) hd]
  rfl
theorem errB_ok {l : List En} (h : l.length ≤ 7) (hm : ∀ e ∈ l, mayE e = true) (hd : dupE l l.length = false) : errB l = 0 := errB_zero.2 ⟨h, hm, hd⟩
/-- 18.1: New. -/
def newB (l : List En) : List UInt8 := if errB l = 0 then newS l l.length else zeros 256
theorem newB_err {l : List En} (h : errB l ≠ 0) : newB l = zeros 256 := by unfold newB; rw [if_neg h]
theorem newB_ok {l : List En} (h : errB l = 0) : newB l = newS l l.length := by unfold newB; rw [if_pos h]
theorem newB_len (l : List En) : (newB l).length = 256 := by
  unfold newB
  split
  · next h =>
    obtain ⟨h1, h2, _⟩ := errB_zero.1 h
    exact newS_len h2 h1 (Nat.le_refl _)
  · exact zeros_len _
theorem mayE_upto {l : List En} {n : Nat} (hn : l.length = n) (h : ∀ j e, j < n → l[j]? = some e → mayE e = true) : ∀ e ∈ l, mayE e = true := fun e he => by
  obtain ⟨j, hj, rfl⟩ := List.getElem_of_mem he
  exact h j _ (by omega) (List.getElem?_eq_getElem hj)
theorem dupE_at {l : List En} {k : Nat} {e : En} (h : l[k]? = some e) : dupE l (k + 1) = (dupE l k || inN e.name l k) := by
  obtain ⟨hk, rfl⟩ := List.getElem?_eq_some_iff.1 h
  exact dupE_next hk
theorem newS_step {l : List En} {k : Nat} {e : En} (h : l[k]? = some e) : newS l (k + 1) = putS (newS l k) k (bytesE e) := by
  obtain ⟨hk, rfl⟩ := List.getElem?_eq_some_iff.1 h
  exact newS_next hk

set_option maxRecDepth 4000 in
set_option maxHeartbeats 3200000 in
theorem bnew_any (A : Option Addr) (n cap : Nat) (l : List En) (hn : l.length = n) (_hm : n ≤ maxLen) (hs : ∀ e ∈ l, e.name.size ≤ maxLen) (w : World) (hr : RN w A 2 (erows l)) :
    Calls Try.prog 10 #[.slice A n cap] w fun e w' => e = .returned (.tuple #[.agg (bcells (newB l)), .int .i64 (errB l)]) ∧ Below w.heap.size w w' := by
  have HzL : Hid ((zeros 256).length = 256) := Lib.hid (zeros_len _)
  have HhL := Lib.hid headB_len
  have Hr := Lib.hid hr
  have Hs := Lib.hid hs
  have HNL := Lib.hid (newB_len l)
  have Hn := Lib.hid hn
  by_cases hbig : 7 < n
  · have HE := Lib.hid (errB_big (show 7 < l.length by omega))
    have HB := Lib.hid (newB_err (show errB l ≠ 0 by rw [HE.out]; decide))
    have d0 : decide (7 < n) = true := decide_eq_true hbig
    have d1 : decide ((7 : Int) < n) = true := by simp; omega
    clear hr hs hn
    go_enter Try.func10, Try.ntmps10
    go_wp2_with (refine wpList_alloc_row rfl _ rfl _ Try.blockZero ?_)
    apply Stop.go; intro w1 Hg1 Hb1
    go_wp2_with (first | refine wpList_build_zero rfl _ rfl _ Try.blockZero _ _ Try.underlying26 Try.byteSize ?_ | refine wpList_store_arr rfl _ _ _ rfl _ _ rfl rfl _ _ Hb1.out (Try.blockFits HzL.out) rfl (oneCell_bcells _) ?_)
    apply Stop.go; intro wc Hoc Hbc
    go_wp2_with ((with_reducible show bodyPost _ _ _ _ _ _); refine bodyPost_cell_tmp rfl _ rfl _ _ Hbc.out _ _ Try.underlying26 (Try.blockFits HzL.out) rfl _ rfl ?_)
    apply Stop.go
    rw [HE.out, HB.out]
    exact ⟨⟨rfl, rfl⟩, bonly Hg1.out.1 Hoc.out (Nat.le_refl _)⟩
  · have d0 : decide (7 < n) = false := decide_eq_false hbig
    have d1 : decide ((7 : Int) < n) = false := by simp; omega
    have Hn7 := Lib.hid (show n ≤ 7 by omega)
    have HEA := Lib.hid (fun k e (h : l[k]? = some e) (h' : mayE e = false) => errB_arg (show l.length ≤ 7 by omega) h h')
    clear hr hs hn hbig _hm
    go_enter Try.func10, Try.ntmps10
    go_wp2_with (refine wpList_alloc_row rfl _ rfl _ Try.blockZero ?_)
    apply Stop.go; intro w1 Hg1 Hb1
    have E1 := Lib.hid Hg1.out.1
    clear Hg1
    go_wp2_with fail
    go_loopw [17] (fun i wr => ∃ k : Nat, k ≤ n ∧ i = .int .i64 k ∧ (∀ j e, j < k → l[j]? = some e → mayE e = true) ∧ Blk wr w.heap.size 26 (bcells (zeros 256)) ∧ Below w.heap.size w wr) (fun i _ => n - (intOf i).toNat)
    case atStart => exact ⟨0, Nat.zero_le _, rfl, fun j e hj => absurd hj (by omega), Hb1.out, E1.out⟩
    case round =>
      obtain ⟨k, hk, rfl, hmk, h2, h3⟩ := hrel
      have HM := Lib.hid hmk
      have HR := Lib.hid h2
      have HW := Lib.hid h3
      clear hmk h2 h3
      have hwk : IntKind.i64.wrap ((k : Int) + 1) = (k : Int) + 1 := IntWalk.i64_in _ (by have := Hn7.out; omega)
      by_cases hlt : k < n
      · have hkl : k < l.length := by rw [Hn.out]; exact hlt
        obtain ⟨e, hx⟩ : ∃ x, l[k]? = some x := ⟨_, List.getElem?_eq_getElem hkl⟩
        have h4 := Hr.out.below HW.out
        obtain ⟨ad, rfl⟩ := h4.adr (k := k) (by rw [erows_len]; exact hkl) (by decide)
        have hrow := h4.row (erow_at hx) rfl
        have HC := Lib.hid hrow
        have HX := Lib.hid hx
        have Hse := Lib.hid (Hs.out e (List.mem_of_getElem? hx))
        have e1 : decide (k < n) = true := decide_eq_true hlt
        have z1 : (k : Int) < n := by omega
        have Hlt := Lib.hid hlt
        have zr := Lib.hid (show w.heap.size < wr.heap.size from HR.out.lt)
        clear h4 hrow hx hkl hlt hk
        go_wp2_with (first | refine wpList_load_cells rfl _ _ rfl (ad.add (k * 2)) rfl _ Try.underlying39 [.string e.name, .int .i64 e.ino] Try.entSize HC.out ?_ | refine wpList_alloc_row rfl _ rfl _ Try.entZero ?_)
        apply Stop.go; intro w7 Hg7 Hb7
        go_wp2_with (refine wpList_store_arr rfl _ _ _ rfl _ #[.string e.name, .int .i64 e.ino] rfl rfl _ _ Hb7.out Try.entSize rfl (by simp [Value.oneCell']) ?_)
        apply Stop.go; intro w8 Ho8 Hb8
        have HR8 := Lib.hid ((HR.out.ext Hg7.out.1).only Ho8.out (by have := zr.out; omega))
        have W8 := Lib.hid (bonly (bt HW.out Hg7.out.1) Ho8.out (by have := zr.out; omega))
        generalize wr.heap.size = gr at *
        clear Hg7 Hb7 Ho8 HR HW HC
        go_wp2_with (refine wpList_load_blk rfl _ _ rfl _ rfl _ _ Hb8.out _ Try.underlying39 rfl Try.entSize ?_)
        refine (bmay_any e Hse.out _).mono ?_; rintro e w9 ⟨rfl, hb9⟩
        have HR9 := Lib.hid (HR8.out.ext hb9)
        have W9 := Lib.hid (bt W8.out hb9)
        clear hb9 HR8 W8 Hb8
        cases hme : mayE e
        · have HE := Lib.hid (HEA.out k e HX.out hme)
          have HB := Lib.hid (newB_err (show errB l ≠ 0 by rw [HE.out]; decide))
          clear hme
          go_wp2_with (first | refine wpList_build_zero rfl _ rfl _ Try.blockZero _ _ Try.underlying26 Try.byteSize ?_ | refine wpList_store_arr rfl _ _ _ rfl _ _ rfl rfl _ _ HR9.out (Try.blockFits HzL.out) rfl (oneCell_bcells _) ?_)
          apply Stop.go; intro wc Hoc Hbc
          go_wp2_with ((with_reducible show bodyPost _ _ _ _ _ _); refine bodyPost_cell_tmp rfl _ rfl _ _ Hbc.out _ _ Try.underlying26 (Try.blockFits HzL.out) rfl _ rfl ?_)
          apply Stop.go
          rw [HE.out, HB.out]
          exact ⟨⟨rfl, rfl⟩, bonly W9.out Hoc.out (Nat.le_refl _)⟩
        · have HM1 := Lib.hid (show ∀ j e', j < k + 1 → l[j]? = some e' → mayE e' = true from fun j e' hj hj' => by
            rcases Nat.lt_or_ge j k with h | h
            · exact HM.out j e' h hj'
            · have h : j = k := by omega
              subst h
              rw [HX.out] at hj'
              injection hj' with hj'
              subst hj'
              exact hme)
          clear hme
          go_wp2_with fail
          go_roundw
          case rel => exact ⟨k + 1, by have := Hlt.out; omega, by go_num, HM1.out, HR9.out, W9.out⟩
          case measure => have := Hlt.out; simp [intOf]; omega
      · have hkn : k = n := by omega
        subst hkn
        have d2 : decide (k < k) = false := by simp
        have d3 : decide ((k : Int) < k) = false := by simp
        have HMA := Lib.hid (mayE_upto Hn.out HM.out)
        have HEd := Lib.hid (fun j (hj : j < l.length) (h : dupE l (j + 1) = true) => errB_dup (show l.length ≤ 7 by rw [Hn.out]; exact Hn7.out) HMA.out hj h)
        have HEo := Lib.hid (fun (h : dupE l l.length = false) => errB_ok (show l.length ≤ 7 by rw [Hn.out]; exact Hn7.out) HMA.out h)
        have HSL := Lib.hid (fun j (hj : j ≤ k) => newS_len HMA.out (show l.length ≤ 7 by rw [Hn.out]; exact Hn7.out) (k := j) (by rw [Hn.out]; exact hj))
        have HSF := Lib.hid (fun j (hj : j ≤ k) => newS_find HMA.out (show l.length ≤ 7 by rw [Hn.out]; exact Hn7.out) (k := j) (by rw [Hn.out]; exact hj))
        clear hk hlt hwk HM
        go_wp2_with fail
        refine (bnone_any _).mono ?_; rintro e w3 ⟨rfl, hb3⟩
        have HR3 := Lib.hid (HR.out.ext hb3)
        have E3 := Lib.hid (bt HW.out hb3)
        have z3 := Lib.hid (show w.heap.size < w3.heap.size from HR3.out.lt)
        clear hb3 HR HW
        go_wp2_with (refine wpList_alloc_row rfl _ rfl _ Try.blockZero ?_)
        apply Stop.go; intro w4 Hg4 Hb4
        go_wp2_with (refine wpList_store_arr rfl _ _ _ rfl _ _ rfl rfl _ _ Hb4.out (Try.blockFits HhL.out) (by rw [bcells_size, bcells_size, HhL.out, HzL.out]) (oneCell_bcells _) ?_)
        apply Stop.go; intro w5 Ho5 Hb5
        have HR5 := Lib.hid ((HR3.out.ext Hg4.out.1).only Ho5.out (by have := z3.out; omega))
        have E5 := Lib.hid (bonly (bt E3.out Hg4.out.1) Ho5.out (by have := z3.out; omega))
        generalize w3.heap.size = g3 at *
        generalize wr = wq at *
        clear Hg4 Hb4 Ho5 HR3 E3 d2 d3
        go_wp2_with fail
        go_loopw [29] (fun i wr => ∃ j : Nat, j ≤ k ∧ i = .int .i64 j ∧ dupE l j = false ∧ Blk wr w.heap.size 26 (bcells (zeros 256)) ∧ Blk wr g3 26 (bcells (newS l j)) ∧ Below w.heap.size w wr) (fun i _ => k - (intOf i).toNat)
        case atStart => exact ⟨0, Nat.zero_le _, rfl, rfl, HR5.out, Hb5.out, E5.out⟩
        case round =>
          obtain ⟨j, hj, rfl, hdj, h2, h3, h4⟩ := hrel
          have HD := Lib.hid hdj
          have HR := Lib.hid h2
          have HF := Lib.hid h3
          have HW := Lib.hid h4
          have HTk := Lib.hid (HSL.out j hj)
          clear hdj h2 h3 h4
          have hwk : IntKind.i64.wrap ((j : Int) + 1) = (j : Int) + 1 := IntWalk.i64_in _ (by have := Hn7.out; omega)
          by_cases hlt : j < k
          · have hkl : j < l.length := by rw [Hn.out]; exact hlt
            obtain ⟨e, hx⟩ : ∃ x, l[j]? = some x := ⟨_, List.getElem?_eq_getElem hkl⟩
            have h4 := Hr.out.below HW.out
            obtain ⟨ad, rfl⟩ := h4.adr (k := j) (by rw [erows_len]; exact hkl) (by decide)
            have hrow := h4.row (erow_at hx) rfl
            have HC := Lib.hid hrow
            have HX := Lib.hid hx
            have Hme := Lib.hid (HMA.out e (List.mem_of_getElem? hx))
            have HDn := Lib.hid (show dupE l (j + 1) = (findS (newS l j) e.name).isSome by rw [dupE_at hx, HD.out, HSF.out j (by omega)]; rfl)
            have HNs := Lib.hid (newS_step hx)
            have e1 : decide (j < k) = true := decide_eq_true hlt
            have z1 : (j : Int) < k := by omega
            have Hlt := Lib.hid hlt
            have hq : j < 7 := by have := Hn7.out; omega
            have Hq := Lib.hid hq
            have zr := Lib.hid (show w.heap.size < wr.heap.size ∧ g3 < wr.heap.size from ⟨HR.out.lt, HF.out.lt⟩)
            obtain ⟨X, hX⟩ : ∃ X, newS l j = X := ⟨_, rfl⟩
            rw [hX] at HTk HF HDn HNs
            clear h4 hrow hx hkl hlt hj hX hq
            go_wp2_with (first | refine wpList_load_cells rfl _ _ rfl (ad.add (j * 2)) rfl _ Try.underlying39 [.string e.name, .int .i64 e.ino] Try.entSize HC.out ?_ | refine wpList_alloc_row rfl _ rfl _ Try.entZero ?_)
            apply Stop.go; intro w7 Hg7 Hb7
            go_wp2_with (refine wpList_store_arr rfl _ _ _ rfl _ #[.string e.name, .int .i64 e.ino] rfl rfl _ _ Hb7.out Try.entSize rfl (by simp [Value.oneCell']) ?_)
            apply Stop.go; intro w8 Ho8 Hb8
            have D8 := Lib.hid (bonly Hg7.out.1 Ho8.out (Nat.le_refl _))
            have HR8 := Lib.hid (HR.out.ext D8.out)
            have HF8 := Lib.hid (HF.out.ext D8.out)
            have W8 := Lib.hid (bt HW.out D8.out)
            have z8 := Lib.hid (show w.heap.size < wr.heap.size ∧ g3 < wr.heap.size ∧ wr.heap.size < w8.heap.size from ⟨zr.out.1, zr.out.2, Hb8.out.lt⟩)
            generalize wr.heap.size = gr at *
            clear Hg7 Hb7 Ho8 HR HF HW HC D8
            have c0 : w8.cell? ⟨gr, 0, none⟩ = some (.string e.name) := Hb8.out.cell 0
            go_wp2_with (refine wpList_load_arr rfl _ _ rfl _ rfl _ _ HF8.out _ _ Try.underlying26 (Try.blockFits HTk.out) ?_)
            refine (bfind_any X HTk.out e.name _).mono ?_; rintro e w9 ⟨rfl, hb9⟩
            have HR9 := Lib.hid (HR8.out.ext hb9)
            have HF9 := Lib.hid (HF8.out.ext hb9)
            have HS9 := Lib.hid (Hb8.out.ext hb9)
            have W9 := Lib.hid (bt W8.out hb9)
            have z9 := Lib.hid (show w.heap.size < w9.heap.size ∧ g3 < w9.heap.size ∧ gr < w9.heap.size by have := z8.out; have := hb9.size; omega)
            obtain ⟨F, hF⟩ : ∃ F, fndC X e.name = F := ⟨_, rfl⟩
            have HFs := Lib.hid (show F.size = 3 ∧ F.all (·.oneCell') = true by rw [← hF]; exact fndC_row _ _)
            obtain ⟨is, his⟩ : ∃ r, (findS X e.name).isSome = r := ⟨_, rfl⟩
            rw [hF, his]
            rw [his] at HDn
            clear hF his hb9 HR8 HF8 Hb8 W8 c0
            go_wp2_with (refine wpList_alloc_row rfl _ rfl _ Try.slotZero ?_)
            apply Stop.go; intro wa Hga Hba
            go_wp2_with (refine wpList_store_arr rfl _ _ _ rfl _ F rfl rfl _ _ Hba.out (by rw [HFs.out.1]; exact Try.slotSize) (by rw [HFs.out.1]; rfl) HFs.out.2 ?_)
            apply Stop.go; intro wb Hob Hbb
            have Db := Lib.hid (bonly Hga.out.1 Hob.out (Nat.le_refl _))
            have HRb := Lib.hid (HR9.out.ext Db.out)
            have HFb := Lib.hid (HF9.out.ext Db.out)
            have HSb := Lib.hid (HS9.out.ext Db.out)
            have Wb := Lib.hid (bt W9.out Db.out)
            generalize w9.heap.size = g9 at *
            clear Hga Hba Hob Hbb Db HR9 HF9 HS9 W9
            cases is
            · have HYL := Lib.hid (bytesE_len Hme.out)
              have HPL := Lib.hid (putS_len HTk.out Hq.out HYL.out)
              go_wp2_with fail
              refine WT.start 5 (S := fun w' : World => Blk w' g3 26 (bcells X) ∧ Blk w' gr 39 #[.string e.name, .int .i64 e.ino]) [false, false, false, false, false, false] 6 rfl rfl (by kernel_rfl) ⟨HFb.out.ext (bdrew wb 1), HSb.out.ext (bdrew wb 1)⟩ (fun hSn => ?_); obtain ⟨wS, hwS⟩ : ∃ x, (wb).drew = x := ⟨_, rfl⟩; have HE := Lib.hid (show Below (wb).heap.size (wb) wS from hwS ▸ bdrew wb 1); rw [hwS] at hSn ⊢; clear hwS
              refine WT.tv 0 rfl (fun w' hSw => run_load_arr _ _ rfl _ rfl _ _ hSw.1 _ _ Try.underlying26 (Try.blockFits HTk.out)) ?_; simp only [setL]
              refine WT.tk 1 ?_; simp only [setL]
              refine WT.tv 2 rfl (fun w' hSw => exec_load_blk _ _ rfl _ rfl _ _ hSw.2 _ Try.underlying39 rfl Try.entSize) ?_; simp only [setL]
              refine WT.only 3 _ rfl (by kernel_rfl) rfl (fun K hK => ?_)
              go_simp; refine (written_any e Hme.out _).mono ?_; rintro e wc ⟨rfl, hbc⟩; go_simp
              have HE := Lib.hid (bt HE.out hbc)
              have hSn := And.intro (hSn.1.ext hbc) (hSn.2.ext hbc); refine hK _ _ hSn ?_; clear hK; clear K; simp only [setL]
              refine WT.only 4 _ rfl (by kernel_rfl) rfl (fun K hK => ?_)
              go_simp; refine (blay_any X HTk.out j Hq.out _ HYL.out _).mono ?_; rintro e wd ⟨rfl, hbd⟩; go_simp
              have HE := Lib.hid (bt HE.out hbd)
              have hSn := And.intro (hSn.1.ext hbd) (hSn.2.ext hbd); refine hK _ _ hSn ?_; clear hK; clear K; simp only [setL]
              refine WT.last _ rfl (by kernel_rfl) rfl (fun K hK => ?_)
              refine ow_store _ _ _ rfl _ _ rfl rfl _ _ hSn.1 (Try.blockFits HPL.out) (by rw [bcells_size, bcells_size, HPL.out, HTk.out]) (oneCell_bcells _) ?_
              apply Stop.go; intro we Hoe Hbe
              have HRe := Lib.hid ((HRb.out.ext HE.out).only Hoe.out (by have := z3.out; omega))
              have We := Lib.hid (bonly (bt Wb.out HE.out) Hoe.out (by have := z3.out; omega))
              refine hK _ _ ?_; clear hK; clear K; simp only [setL]; refine WT.done (by kernel_rfl) ?_
              clear hSn HE hbc hbd Hoe HRb HFb HSb Wb
              go_wp2_with fail
              go_roundw
              case rel => exact ⟨j + 1, by have := Hlt.out; omega, by go_num, HDn.out, HRe.out, by rw [HNs.out]; exact Hbe.out, We.out⟩
              case measure => have := Hlt.out; simp [intOf]; omega
            · have HE := Lib.hid (HEd.out j (by rw [Hn.out]; exact Hlt.out) HDn.out)
              have HB := Lib.hid (newB_err (show errB l ≠ 0 by rw [HE.out]; decide))
              go_wp2_with (first | refine wpList_build_zero rfl _ rfl _ Try.blockZero _ _ Try.underlying26 Try.byteSize ?_ | refine wpList_store_arr rfl _ _ _ rfl _ _ rfl rfl _ _ HRb.out (Try.blockFits HzL.out) rfl (oneCell_bcells _) ?_)
              apply Stop.go; intro wc Hoc Hbc
              go_wp2_with ((with_reducible show bodyPost _ _ _ _ _ _); refine bodyPost_cell_tmp rfl _ rfl _ _ Hbc.out _ _ Try.underlying26 (Try.blockFits HzL.out) rfl _ rfl ?_)
              apply Stop.go
              rw [HE.out, HB.out]
              exact ⟨⟨rfl, rfl⟩, bonly Wb.out Hoc.out (Nat.le_refl _)⟩
          · have hjk : j = k := by omega
            subst hjk
            have d2 : decide (j < j) = false := by simp
            have d3 : decide ((j : Int) < j) = false := by simp
            have HE := Lib.hid (HEo.out (by rw [Hn.out]; exact HD.out))
            have HB := Lib.hid (show newB l = newS l j by rw [newB_ok HE.out, Hn.out])
            clear hj hlt
            go_wp2_with (first | refine wpList_load_arr rfl _ _ rfl _ rfl _ _ HF.out _ _ Try.underlying26 (Try.blockFits HTk.out) ?_ | refine wpList_store_arr rfl _ _ _ rfl _ _ rfl rfl _ _ HR.out (Try.blockFits HTk.out) (by rw [bcells_size, bcells_size, HTk.out, HzL.out]) (oneCell_bcells _) ?_)
            apply Stop.go; intro wc Hoc Hbc
            go_wp2_with ((with_reducible show bodyPost _ _ _ _ _ _); refine bodyPost_cell_tmp rfl _ rfl _ _ Hbc.out _ _ Try.underlying26 (Try.blockFits HTk.out) rfl _ rfl ?_)
            apply Stop.go
            rw [HE.out, HB.out]
            exact ⟨⟨rfl, rfl⟩, bonly HW.out Hoc.out (Nat.le_refl _)⟩

end Go.Proofs.Ytmojappbgghpbaa
