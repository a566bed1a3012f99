/-
  Contracts of package bucket: Fix, Right, New.
-/
import Derived.Test.YtmojappbgghpbaaBck3
import Derived.Test.YtmojappbgghpbaaEqA
namespace Go.Proofs.Ytmojappbgghpbaa
open Go.RowKit

theorem RN.adr {w : World} {A : Option Addr} {N : Nat} {L : List (List Value)} (h : RN w A N L) {k : Nat} (hk : k < L.length) (h0 : 0 < N) : ∃ ad, A = some ad := by
  obtain ⟨ad, _, e, _⟩ := h k hk 0 h0
  exact ⟨ad, e⟩
theorem RN.row {w : World} {ad : Addr} {N : Nat} {L : List (List Value)} (h : RN w (some ad) N L) {k : Nat} {r : List Value} (hk : L[k]? = some r) (hN : r.length = N) : ∀ j v, r[j]? = some v → w.cell? ((ad.add (k * N)).add j) = some v := fun j v hj => by
  obtain ⟨hkl, rfl⟩ := List.getElem?_eq_some_iff.1 hk
  have hjl : j < N := by
    have := (List.getElem?_eq_some_iff.1 hj).1
    omega
  obtain ⟨ad', x, e, hx, hc⟩ := h k hkl j hjl
  injection e with e
  subst e
  rw [hj] at hx
  injection hx with hx
  subst hx
  rw [add_of_add]
  exact hc
theorem OwnN.rn {w : World} {B : Nat} {e : TypeId} {N : Nat} {A : Option Addr} {n c : Nat} {L : List (List Value)} (h : OwnN w B e N (.slice A n c) L) : RN w A N L := by
  obtain ⟨A', c', hv, _, _, hr⟩ := h.read
  injection hv with h1
  rw [h1]
  exact hr
theorem OwnN.only {w w' : World} {B g : Nat} {e : TypeId} {N : Nat} {v : Value} {L : List (List Value)} (h : OwnN w B e N v L) (ho : Only w w' g) (hg : g < B) : OwnN w' B e N v L := by
  obtain ⟨hL, hl, h | ⟨g', cap, cur, hv, hbg, hg', h⟩⟩ := h
  · exact ⟨hL, hl, Or.inl h⟩
  · exact ⟨hL, hl, Or.inr ⟨g', cap, cur, hv, hbg, Blk.only hg' ho (by omega), h⟩⟩
theorem srow_at {l : List (Nat × En)} {k : Nat} {x : Nat × En} (h : l[k]? = some x) : (srows l)[k]? = some (srow x) := by unfold srows; rw [List.getElem?_map, h]; rfl

/-- What Fix does at one slot. -/
def fixGo (b acc : List UInt8) (q : Nat × En) : List UInt8 := if (findS acc q.2.name).isSome then acc else putS acc q.1 (rawS b q.1)
theorem fixGo_all {b : List UInt8} (hb : b.length = 256) : ∀ {k : Nat}, k ≤ 7 → (listS b k).foldl (fixGo b) headB = fixS b k
  | 0, _ => rfl
  | k + 1, h => by
    have ih := fixGo_all hb (k := k) (by omega)
    cases he : entS b k with
    | none =>
      rw [listS_none he, ih]
      show _ = if keptB b k then _ else _
      rw [keptB_no he]
      rfl
    | some e =>
      rw [listS_some he, List.foldl_append, ih]
      show fixGo b (fixS b k) (k, e) = if keptB b k then _ else _
      rw [fixS_is hb (by omega) he]
      unfold fixGo
      cases (findS (fixS b k) e.name).isSome <;> rfl
def fixT (b : List UInt8) (k : Nat) : List UInt8 := ((listS b 7).take k).foldl (fixGo b) headB
theorem fixT_next (b : List UInt8) {k : Nat} {x : Nat × En} (h : (listS b 7)[k]? = some x) : fixT b (k + 1) = fixGo b (fixT b k) x := by
  obtain ⟨hk, rfl⟩ := List.getElem?_eq_some_iff.1 h
  unfold fixT
  rw [List.take_succ_eq_append_getElem hk, List.foldl_append]
  rfl
theorem listS_at {b : List UInt8} {k : Nat} {x : Nat × En} (h : (listS b 7)[k]? = some x) : x.1 < 7 ∧ entS b x.1 = some x.2 := listS_mem (List.mem_of_getElem? h)
theorem fixT_len {b : List UInt8} (hb : b.length = 256) : ∀ {k : Nat}, k ≤ (listS b 7).length → (fixT b k).length = 256
  | 0, _ => headB_len
  | k + 1, h => by
    have hm := (listS_mem (List.getElem_mem (show k < (listS b 7).length by omega))).1
    rw [fixT_next b (List.getElem?_eq_getElem (show k < (listS b 7).length by omega))]
    unfold fixGo
    split
    · exact fixT_len hb (by omega)
    · exact putS_len (fixT_len hb (by omega)) hm (rawS_len hb hm)
theorem fixT_all {b : List UInt8} (hb : b.length = 256) : fixT b (listS b 7).length = fixS b 7 := by
  unfold fixT
  rw [List.take_length]
  exact fixGo_all hb (Nat.le_refl _)

theorem fndC_row (b : List UInt8) (s : ByteArray) : (fndC b s).size = 3 ∧ (fndC b s).all (·.oneCell') = true := by
  unfold fndC
  cases findS b s with
  | none => exact ⟨rfl, by simp [Value.oneCell']⟩
  | some k => exact ⟨rfl, by simp [scells, Value.oneCell']⟩

set_option maxRecDepth 4000 in
set_option maxHeartbeats 3200000 in
theorem bfix_any (b : List UInt8) (hb : b.length = 256) (w : World) :
    Calls Try.prog 20 #[.agg (bcells b)] w (RetA w (fixS b 7)) := by
  have HbL := Lib.hid hb
  have HzL : Hid ((zeros 256).length = 256) := Lib.hid (zeros_len _)
  have HhL := Lib.hid headB_len
  have HTL := Lib.hid (fun k => fixT_len hb (k := k))
  have HTA := Lib.hid (fixT_all hb)
  have HFL := Lib.hid (fixS_len hb (Nat.le_refl 7))
  go_enter Try.func20, Try.ntmps20
  go_wp2_with (refine wpList_box_row rfl _ _ rfl _ rfl ?_)
  apply Stop.go; intro w1 Hg1 Hb1
  go_wp2_with (refine wpList_alloc_row rfl _ rfl _ Try.blockZero ?_)
  apply Stop.go; intro w2 Hg2 Hb2
  have HB2 := Lib.hid (Hb1.out.ext Hg2.out.1)
  have E2 := Lib.hid (bt Hg1.out.1 Hg2.out.1)
  have z2 := Lib.hid (show w.heap.size < w1.heap.size by have := Hg1.out.2; omega)
  generalize w1.heap.size = g1 at *
  clear Hb1 Hg1 Hg2 hb
  go_wp2_with fail
  refine (bnone_any _).mono ?_; rintro e w3 ⟨rfl, hb3⟩
  have HB3 := Lib.hid (HB2.out.ext hb3)
  have HR3 := Lib.hid (Hb2.out.ext hb3)
  have E3 := Lib.hid (bt E2.out hb3)
  have z3 := Lib.hid (show w.heap.size < g1 ∧ g1 < w3.heap.size from ⟨z2.out, HR3.out.lt⟩)
  clear hb3 HB2 Hb2 E2 z2
  go_wp2_with (refine wpList_alloc_row rfl _ rfl _ Try.blockZero ?_)
  apply Stop.go; intro w4 Hg4 Hb4
  go_wp2_with (refine wpList_store_arr rfl _ _ _ rfl _ _ rfl rfl _ _ Hb4.out (Try.blockFits HhL.out) (by rw [bcells_size, bcells_size, HhL.out, HzL.out]) (oneCell_bcells _) ?_)
  apply Stop.go; intro w5 Ho5 Hb5
  have HB5 := Lib.hid ((HB3.out.ext Hg4.out.1).only Ho5.out (by have := z3.out; omega))
  have HR5 := Lib.hid ((HR3.out.ext Hg4.out.1).only Ho5.out (by have := z3.out; omega))
  have E5 := Lib.hid (bonly (bt E3.out Hg4.out.1) Ho5.out (by have := z3.out; omega))
  generalize w3.heap.size = g3 at *
  clear Hg4 Hb4 Ho5 HB3 HR3 E3
  go_wp2_with (refine wpList_load_arr rfl _ _ rfl _ rfl _ _ HB5.out _ _ Try.underlying26 (Try.blockFits HbL.out) ?_)
  refine (blist_any b HbL.out _).mono ?_; rintro e w6 ⟨v, rfl, hv6, hb6⟩
  have HO6 := Lib.hid hv6
  have z5 := Lib.hid (show g3 < w5.heap.size from Hb5.out.lt)
  obtain ⟨A, c, rfl, hc1, hc2, hr6⟩ := hv6.read
  rw [srows_len] at HO6 ⊢
  have HB6 := Lib.hid (HB5.out.ext hb6)
  have HR6 := Lib.hid (HR5.out.ext hb6)
  have HF6 := Lib.hid (Hb5.out.ext hb6)
  have E6 := Lib.hid (bt E5.out hb6)
  generalize w5.heap.size = g5 at *
  clear hv6 hc1 hc2 hr6 hb6 HB5 HR5 Hb5 E5
  have HTN := Lib.hid (fun k x (h : (listS b 7)[k]? = some x) => fixT_next b h)
  have HME := Lib.hid (fun k x (h : (listS b 7)[k]? = some x) => listS_at h)
  have Hn7 := Lib.hid (listS_len b 7)
  obtain ⟨l, hl⟩ : ∃ l, listS b 7 = l := ⟨_, rfl⟩
  rw [hl] at HTN HME HO6 Hn7 HTL HTA ⊢
  obtain ⟨n, hn⟩ : ∃ n, l.length = n := ⟨_, rfl⟩
  rw [hn] at HTL HTA Hn7 HO6 ⊢
  have Hn := Lib.hid hn
  clear hl hn
  go_wp2_with fail
  go_loopw [12] (fun i wr => ∃ k : Nat, k ≤ n ∧ i = .int .i64 k ∧ Blk wr w.heap.size 26 (bcells b) ∧ Blk wr g1 26 (bcells (zeros 256)) ∧ Blk wr g3 26 (bcells (fixT b k)) ∧ OwnN wr g5 43 3 (.slice A n c) (srows l) ∧ Below w.heap.size w wr) (fun i _ => n - (intOf i).toNat)
  case atStart => exact ⟨0, Nat.zero_le _, rfl, HB6.out, HR6.out, HF6.out, HO6.out, E6.out⟩
  case round =>
    obtain ⟨k, hk, rfl, h1, h2, h3, h4, h5⟩ := hrel
    have HB := Lib.hid h1
    have HR := Lib.hid h2
    have HF := Lib.hid h3
    have HW := Lib.hid h5
    have HTk := Lib.hid (HTL.out k hk)
    have zr := Lib.hid (show w.heap.size < g1 ∧ g1 < g3 ∧ g3 < wr.heap.size from ⟨z3.out.1, z3.out.2, h3.lt⟩)
    clear h1 h2 h3 h5
    have hwk : IntKind.i64.wrap ((k : Int) + 1) = (k : Int) + 1 := IntWalk.i64_in _ (by have := Hn7.out; omega)
    by_cases hlt : k < n
    · have hkl : k < l.length := by rw [Hn.out]; exact hlt
      obtain ⟨⟨q, e⟩, hx⟩ : ∃ x, l[k]? = some x := ⟨_, List.getElem?_eq_getElem hkl⟩
      obtain ⟨ad, rfl⟩ := h4.rn.adr (k := k) (by rw [srows_len]; exact hkl) (by decide)
      have hrow := h4.rn.row (srow_at hx) rfl
      have HLr := Lib.hid h4
      have HNx := Lib.hid (HTN.out k _ hx)
      have hq : q < 7 := (HME.out k _ hx).1
      have HC := Lib.hid hrow
      have d1 : decide (k < n) = true := decide_eq_true hlt
      have z1 : (k : Int) < n := by omega
      have Hlt := Lib.hid hlt
      clear h4 hrow hx hkl hlt hk
      go_wp2_with (first | refine wpList_load_cells rfl _ _ rfl (ad.add (k * 3)) rfl _ Try.underlying43 [.int .i64 (q : Int), .string e.name, .int .i64 e.ino] Try.slotSize HC.out ?_ | refine wpList_alloc_row rfl _ rfl _ Try.slotZero ?_)
      apply Stop.go; intro w7 Hg7 Hb7
      go_wp2_with (refine wpList_store_arr rfl _ _ _ rfl _ #[.int .i64 (q : Int), .string e.name, .int .i64 e.ino] rfl rfl _ _ Hb7.out Try.slotSize rfl (by simp [Value.oneCell']) ?_)
      apply Stop.go; intro w8 Ho8 Hb8
      have D8 := Lib.hid (bonly Hg7.out.1 Ho8.out (Nat.le_refl _))
      have HB8 := Lib.hid (HB.out.ext D8.out)
      have HR8 := Lib.hid (HR.out.ext D8.out)
      have HF8 := Lib.hid (HF.out.ext D8.out)
      have HL8 := Lib.hid (HLr.out.ext D8.out)
      have z8 := Lib.hid (show w.heap.size < wr.heap.size ∧ g1 < wr.heap.size ∧ g3 < wr.heap.size ∧ wr.heap.size < w8.heap.size by have := zr.out; have := Hb8.out.lt; omega)
      have W8 := Lib.hid (bt HW.out D8.out)
      clear Hg7 Hb7 Ho8 D8 HB HR HF HLr HW HC
      generalize wr.heap.size = gr at *
      have c1 : w8.cell? ⟨gr, 1, none⟩ = some (.string e.name) := Hb8.out.cell 1
      go_wp2_with (refine wpList_load_arr rfl _ _ rfl _ rfl _ _ HF8.out _ _ Try.underlying26 (Try.blockFits HTk.out) ?_)
      refine (bfind_any (fixT b k) HTk.out e.name _).mono ?_; rintro e w9 ⟨rfl, hb9⟩
      have HB9 := Lib.hid (HB8.out.ext hb9)
      have HR9 := Lib.hid (HR8.out.ext hb9)
      have HF9 := Lib.hid (HF8.out.ext hb9)
      have HL9 := Lib.hid (HL8.out.ext hb9)
      have HS9 := Lib.hid (Hb8.out.ext hb9)
      have W9 := Lib.hid (bt W8.out hb9)
      have z9 := Lib.hid (show w.heap.size < w9.heap.size ∧ g1 < w9.heap.size ∧ g3 < w9.heap.size ∧ gr < w9.heap.size by have := z8.out; have := hb9.size; omega)
      have HNx := Lib.hid (show fixT b (k + 1) = if (findS (fixT b k) e.name).isSome then fixT b k else putS (fixT b k) q (rawS b q) from HNx.out)
      obtain ⟨F, hF⟩ : ∃ F, fndC (fixT b k) e.name = F := ⟨_, rfl⟩
      have HFs := Lib.hid (show F.size = 3 ∧ F.all (·.oneCell') = true by rw [← hF]; exact fndC_row _ _)
      obtain ⟨is, his⟩ : ∃ r, (findS (fixT b k) e.name).isSome = r := ⟨_, rfl⟩
      rw [hF, his]
      rw [his] at HNx
      clear hF his hb9 HB8 HR8 HF8 HL8 Hb8 W8 c1 z8
      go_wp2_with (refine wpList_alloc_row rfl _ rfl _ Try.slotZero ?_)
      apply Stop.go; intro wa Hga Hba
      go_wp2_with (refine wpList_store_arr rfl _ _ _ rfl _ F rfl rfl _ _ Hba.out (by rw [HFs.out.1]; exact Try.slotSize) (by rw [HFs.out.1]; rfl) HFs.out.2 ?_)
      apply Stop.go; intro wb Hob Hbb
      have Db := Lib.hid (bonly Hga.out.1 Hob.out (Nat.le_refl _))
      have HBb := Lib.hid (HB9.out.ext Db.out)
      have HRb := Lib.hid (HR9.out.ext Db.out)
      have HFb := Lib.hid (HF9.out.ext Db.out)
      have HLb := Lib.hid (HL9.out.ext Db.out)
      have HSb := Lib.hid (HS9.out.ext Db.out)
      have Wb := Lib.hid (bt W9.out Db.out)
      generalize w9.heap.size = g9 at *
      clear Hga Hba Hob Hbb Db HB9 HR9 HF9 HL9 HS9 W9
      cases is
      · have HNx : Hid (fixT b (k + 1) = putS (fixT b k) q (rawS b q)) := HNx
        have HRL := Lib.hid (rawS_len HbL.out hq)
        have HPL := Lib.hid (putS_len HTk.out hq HRL.out)
        obtain ⟨X, hX⟩ : ∃ X, fixT b k = X := ⟨_, rfl⟩
        rw [hX] at HNx HPL HTk HFb ⊢
        clear hX
        go_wp2_with fail
        refine WT.start 8 (S := fun w' : World => Blk w' g3 26 (bcells X) ∧ Blk w' gr 43 #[.int .i64 (q : Int), .string e.name, .int .i64 e.ino] ∧ Blk w' w.heap.size 26 (bcells b)) [false, false, false, false, false, false, false, false, false] 9 rfl rfl (by kernel_rfl) ⟨HFb.out.ext (bdrew wb 1), HSb.out.ext (bdrew wb 1), HBb.out.ext (bdrew wb 1)⟩ (fun hSn => ?_); obtain ⟨wS, hwS⟩ : ∃ x, (wb).drew = x := ⟨_, rfl⟩; have HE := Lib.hid (show Below (wb).heap.size (wb) wS from hwS ▸ bdrew wb 1); rw [hwS] at hSn ⊢; clear hwS
        refine WT.tv 0 rfl (fun w' hSw => run_load_arr _ _ rfl _ rfl _ _ hSw.1 _ _ Try.underlying26 (Try.blockFits HTk.out)) ?_; simp only [setL]
        refine WT.tk 1 ?_; simp only [setL]
        refine WT.tv 2 rfl (fun w' hSw => exec_load_cell _ _ rfl _ rfl (.int .i64 (q : Int)) (hSw.2.1.cell 0) _ Try.underlying3 rfl) ?_; simp only [setL]
        refine WT.tv 3 rfl (fun w' hSw => run_load_arr _ _ rfl _ rfl _ _ hSw.2.2 _ _ Try.underlying26 (Try.blockFits HbL.out)) ?_; simp only [setL]
        refine WT.tk 4 ?_; simp only [setL]
        refine WT.tv 5 rfl (fun w' hSw => exec_load_cell _ _ rfl _ rfl (.int .i64 (q : Int)) (hSw.2.1.cell 0) _ Try.underlying3 rfl) ?_; simp only [setL]
        refine WT.only 6 _ rfl (by kernel_rfl) rfl (fun K hK => ?_)
        go_simp; refine (braw_any b HbL.out q hq _).mono ?_; rintro e wc ⟨rfl, hbc⟩; go_simp
        have HE := Lib.hid (bt HE.out hbc)
        have hSn := And.intro (hSn.1.ext hbc) (And.intro (hSn.2.1.ext hbc) (hSn.2.2.ext hbc)); refine hK _ _ hSn ?_; clear hK; clear K; simp only [setL]
        refine WT.only 7 _ rfl (by kernel_rfl) rfl (fun K hK => ?_)
        go_simp; refine (blay_any X HTk.out q hq _ HRL.out _).mono ?_; rintro e wd ⟨rfl, hbd⟩; go_simp
        have HE := Lib.hid (bt HE.out hbd)
        have hSn := And.intro (hSn.1.ext hbd) (And.intro (hSn.2.1.ext hbd) (hSn.2.2.ext hbd)); refine hK _ _ hSn ?_; clear hK; clear K; simp only [setL]
        refine WT.last _ rfl (by kernel_rfl) rfl (fun K hK => ?_)
        refine ow_store _ _ _ rfl _ _ rfl rfl _ _ hSn.1 (Try.blockFits HPL.out) (by rw [bcells_size, bcells_size, HPL.out, HTk.out]) (oneCell_bcells _) ?_
        apply Stop.go; intro we Hoe Hbe
        have HBe := Lib.hid (hSn.2.2.only Hoe.out (by have := zr.out; omega))
        have HRe := Lib.hid ((HRb.out.ext HE.out).only Hoe.out (by have := zr.out; omega))
        have HLe := Lib.hid ((HLb.out.ext HE.out).only Hoe.out z5.out)
        have We := Lib.hid ((bt Wb.out HE.out).trans (Hoe.out.below (by have := zr.out; omega)))
        refine hK _ _ ?_; clear hK; clear K; simp only [setL]; refine WT.done (by kernel_rfl) ?_
        clear hSn HE hbc hbd Hoe HBb HRb HFb HSb HLb Wb
        go_wp2_with fail
        go_roundw
        case rel => exact ⟨k + 1, by have := Hlt.out; omega, by go_num, HBe.out, HRe.out, by rw [HNx.out]; exact Hbe.out, HLe.out, We.out⟩
        case measure => have := Hlt.out; simp [intOf]; omega
      · have HNx : Hid (fixT b (k + 1) = fixT b k) := HNx
        go_wp2_with fail
        go_roundw
        case rel => exact ⟨k + 1, by have := Hlt.out; omega, by go_num, HBb.out, HRb.out, by rw [HNx.out]; exact HFb.out, HLb.out, Wb.out⟩
        case measure => have := Hlt.out; simp [intOf]; omega
    · have hkn : k = n := by omega
      subst hkn
      have d0 : decide (k < k) = false := by simp
      have d1 : decide ((k : Int) < k) = false := by simp
      rw [HTA.out] at HF HTk
      clear hk hlt h4
      go_wp2_with (first | refine wpList_load_arr rfl _ _ rfl _ rfl _ _ HF.out _ _ Try.underlying26 (Try.blockFits HFL.out) ?_ | refine wpList_store_arr rfl _ _ _ rfl _ _ rfl rfl _ _ HR.out (Try.blockFits HFL.out) (by rw [bcells_size, bcells_size, HFL.out, HzL.out]) (oneCell_bcells _) ?_)
      apply Stop.go; intro wc Hoc Hbc
      go_wp2_with ((with_reducible show bodyPost _ _ _ _ _ _); refine bodyPost_cell rfl _ rfl _ _ Hbc.out _ _ Try.underlying26 (Try.blockFits HFL.out) rfl ?_)
      apply Stop.go
      exact ⟨rfl, bonly HW.out Hoc.out (by have := zr.out; omega)⟩

end Go.Proofs.Ytmojappbgghpbaa
