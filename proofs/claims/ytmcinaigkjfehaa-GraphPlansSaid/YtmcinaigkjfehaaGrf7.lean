/-
  The contract of package graph's begin.
-/
import Derived.Test.YtmcinaigkjfehaaGrf6
import Derived.BigRegion
import Derived.Deep.CutRange
namespace Go.Proofs.Ytmcinaigkjfehaa
open Go.RowKit

theorem OwnC.mid {w w' : World} {B B2 : Nat} {e : TypeId} {v : Value} {l : List Value} (h : OwnC w B e v l) (hs : w.heap.size ≤ B2) (hk : ∀ r, B ≤ r → r < B2 → w'.heap[r]? = w.heap[r]?) : OwnC w' B e v l := by
  obtain ⟨hl, h1 | ⟨k, cap, cur, hv, hbk, hkk, h1⟩⟩ := h
  · exact ⟨hl, Or.inl h1⟩
  · exact ⟨hl, Or.inr ⟨k, cap, cur, hv, hbk, (hk k hbk (Nat.lt_of_lt_of_le (Blk.lt hkk) hs)).trans hkk, h1⟩⟩
theorem Gs.OK.up {g : Gs} {z B B' : Nat} (h : g.OK z B) (hB : B ≤ B') : g.OK z B' :=
  ⟨h.lo, ⟨Nat.lt_of_lt_of_le h.hi.1 hB, Nat.lt_of_lt_of_le h.hi.2.1 hB, Nat.lt_of_lt_of_le h.hi.2.2.1 hB, Nat.lt_of_lt_of_le h.hi.2.2.2.1 hB, Nat.lt_of_lt_of_le h.hi.2.2.2.2 hB⟩, h.sd, h.so, h.sh, h.sm, h.dO, h.dh, h.dm, h.oh, h.om, h.hm⟩
theorem wm_first (w w' : World) (g : Gs) (A : Option Addr) (n cap : Nat) (hb : Below w.heap.size w w') (hok : g.OK w.heap.size w'.heap.size) (hs : Blk w' g.s 68 (wcells g A n cap)) (hd : Blk w' g.d 4 (fbools n fun _ => false)) (ho : Blk w' g.o 3 (zc n (oz fun _ => 0))) (hh : Blk w' g.h 28 (vc n fun _ => nilS)) (hm : w'.heap[g.m]? = some (.map #[] 0)) :
    WM w w' g A n cap w'.heap.size (fun _ => false) (fun _ => 0) (fun _ => nilS) (fun _ => []) (fun _ => none) 0 :=
  ⟨hb, hok, Nat.le_refl _, hs, hd, ho, hh, Fam.none _ _ _, ⟨.map [], ⟨#[], 0, hm, ⟨by simp, Go.MapKept.stamped_empty 0, by simp⟩, Nat.le_refl _, rfl⟩, Maps.isMap_empty, fun _ => ⟨rfl, rfl⟩⟩, fun _ => rfl⟩
theorem bel5 (w : World) (a b c d e : Obj) : Below w.heap.size w (((((w.alloc a).alloc b).alloc c).alloc d).alloc e).drew :=
  bt (((((Below.refl _ w).alloc (Nat.le_refl _) a).alloc (by simp) b).alloc (by simp <;> omega) c).alloc (by simp <;> omega) d |>.alloc (by simp <;> omega) e) (bdrew _ 1)
theorem h50 (w : World) (a b c d e : Obj) : (((((w.alloc a).alloc b).alloc c).alloc d).alloc e).drew.heap[w.heap.size]? = some a := by
  show (((((w.heap.push a).push b).push c).push d).push e)[w.heap.size]? = _
  rw [Array.getElem?_push, if_neg (by simp <;> omega), Array.getElem?_push, if_neg (by simp <;> omega), Array.getElem?_push, if_neg (by simp <;> omega), Array.getElem?_push, if_neg (by simp), Array.getElem?_push, if_pos rfl]
theorem h51 (w : World) (a b c d e : Obj) : (((((w.alloc a).alloc b).alloc c).alloc d).alloc e).drew.heap[w.heap.size + 1]? = some b := by
  show (((((w.heap.push a).push b).push c).push d).push e)[w.heap.size + 1]? = _
  rw [Array.getElem?_push, if_neg (by simp <;> omega), Array.getElem?_push, if_neg (by simp <;> omega), Array.getElem?_push, if_neg (by simp), Array.getElem?_push, if_pos (by simp)]
theorem h52 (w : World) (a b c d e : Obj) : (((((w.alloc a).alloc b).alloc c).alloc d).alloc e).drew.heap[w.heap.size + 1 + 1]? = some c := by
  show (((((w.heap.push a).push b).push c).push d).push e)[w.heap.size + 1 + 1]? = _
  rw [Array.getElem?_push, if_neg (by simp <;> omega), Array.getElem?_push, if_neg (by simp), Array.getElem?_push, if_pos (by simp)]
theorem h53 (w : World) (a b c d e : Obj) : (((((w.alloc a).alloc b).alloc c).alloc d).alloc e).drew.heap[w.heap.size + 1 + 1 + 1]? = some d := by
  show (((((w.heap.push a).push b).push c).push d).push e)[w.heap.size + 1 + 1 + 1]? = _
  rw [Array.getElem?_push, if_neg (by simp), Array.getElem?_push, if_pos (by simp)]
theorem h54 (w : World) (a b c d e : Obj) : (((((w.alloc a).alloc b).alloc c).alloc d).alloc e).drew.heap[w.heap.size + 1 + 1 + 1 + 1]? = some e := by
  show (((((w.heap.push a).push b).push c).push d).push e)[w.heap.size + 1 + 1 + 1 + 1]? = _
  rw [Array.getElem?_push, if_pos (by simp)]
/-- A writing that has begun. -/
def RetW (w : World) (A : Option Addr) (n cap : Nat) (l : List Cg) (e : Ending) (w' : World) : Prop :=
  ∃ (g : Gs) (B q : Nat) (O : Nat → Nat) (N : Int → List Nat) (R : Nat → List Nat) (S : Ix → Value) (X : Ix → List Int) (m : Int → Option Value),
    e = .returned (.pointer (some ⟨g.s, 0, none⟩)) ∧ WM w w' g A n cap B (fun _ => false) O S X m q ∧ RowsOK l l.length R ∧ Ws l R n (fun _ => false) O N ∧ WX X N (behR R n) ∧ X Ix.row = [] ∧ S Ix.row = nilS ∧ q ≤ n

set_option maxRecDepth 100000 in
set_option maxHeartbeats 16000000 in
theorem begin_any (A : Option Addr) (n cap : Nat) (l : List Cg) (hl : l.length = n) (hm : n ≤ 4095) (hmay : mayC l = true) (hN : ∀ c ∈ l, c.needs.length ≤ 4096) (w : World) (hr : RdL RdC w A 5 l) :
    Calls Try.prog 41 #[.slice A n cap] w (RetW w A n cap l) := by
  have Hl := Lib.hid hl
  have Hr := Lib.hid hr
  have HMay := Lib.hid hmay
  have HNN := Lib.hid hN
  clear hl hr hmay hN
  go_enter Try.func41, Try.ntmps41
  go_upto_region 1 with fail
  go_cut [3, 11, 14, 17, 18] from 8 to 20 (fun v v1 v2 v3 v4 wx => ∃ g : Gs, v = .pointer (some ⟨g.s, 0, none⟩) ∧ v1 = .slice (some ⟨g.d, 0, none⟩) n n ∧ v2 = .slice (some ⟨g.o, 0, none⟩) n n ∧ v3 = .slice (some ⟨g.h, 0, none⟩) n n ∧ v4 = .map (some g.m) ∧ WM w wx g A n cap wx.heap.size (fun _ => false) (fun _ => 0) (fun _ => nilS) (fun _ => []) (fun _ => none) 0)
  case first =>
    have r1 : ∀ w, (Instr.makeSlice 57 (.int .i64 n) (.int .i64 n)).run Try.prog w = .ok (.slice (some ⟨w.heap.size, 0, none⟩) n n) (w.alloc (.cells (fbools n fun _ => false) 4)) := fun w => by
      rw [show fbools n (fun _ => false) = (List.replicate n (Value.bool false)).toArray by unfold fbools; congr 1; apply List.ext_getElem <;> simp]
      exact run_make_zero Try.prog w _ _ Try.underlying57 (.bool false) 1 Try.boolInfoG rfl .i64 .i64 n (by omega) (by omega)
    have r2 : ∀ w, (Instr.makeSlice 28 (.int .i64 n) (.int .i64 n)).run Try.prog w = .ok (.slice (some ⟨w.heap.size, 0, none⟩) n n) (w.alloc (.cells (zc n (oz fun _ => 0)) 3)) := fun w => by
      rw [show zc n (oz fun _ => 0) = (List.replicate n (Value.int .i64 0)).toArray from (zc_zero n).symm]
      exact run_make_zero Try.prog w _ _ Try.underlying28 (.int .i64 0) 8 Try.infoInt rfl .i64 .i64 n (by omega) (by omega)
    have r3 : ∀ w, (Instr.makeSlice 59 (.int .i64 n) (.int .i64 n)).run Try.prog w = .ok (.slice (some ⟨w.heap.size, 0, none⟩) n n) (w.alloc (.cells (vc n fun _ => nilS) 28)) := fun w => by
      rw [show vc n (fun _ => nilS) = (List.replicate n (Value.slice none 0 0)).toArray from (vc_rep n (.slice none 0 0)).symm]
      exact run_make_zero Try.prog w _ _ Try.underlying59 (.slice none 0 0) 24 Try.intsInfoG rfl .i64 .i64 n (by omega) (by omega)
    have r4 : ∀ w, (Instr.makeMap 66 none).run Try.prog w = .ok (.map (some w.heap.size)) (w.alloc (.map #[] 0)) := fun w => rfl
    have r5 : ∀ w cs, (Instr.box 68 (.agg cs)).run Try.prog w = .ok (.pointer (some ⟨w.heap.size, 0, none⟩)) (w.alloc (.cells cs 68)) := fun w cs => run_box_row _ _ _ _
    go_region
    all_goals
      clear r1 r2 r3 r4 r5
      go_wp2_with fail
      go_meet
      refine ⟨⟨_, _, _, _, _⟩, rfl, rfl, rfl, rfl, rfl, wm_first w _ _ A n cap (bel5 w _ _ _ _ _) ?_ ?_ ?_ ?_ ?_ ?_⟩
      · constructor <;> simp <;> omega
      all_goals first | exact h54 w _ _ _ _ _ | exact h50 w _ _ _ _ _ | exact h51 w _ _ _ _ _ | exact h52 w _ _ _ _ _ | exact h53 w _ _ _ _ _
  case rest =>
  obtain ⟨g, rfl, rfl, rfl, rfl, rfl, hwm⟩ := hcut
  generalize wc = wx at *
  have HM1 := Lib.hid hwm
  have Hw1 := Lib.hid hwm.low
  have HOK := Lib.hid hwm.ok
  clear hwm
  go_wp2_with fail
  refine (gwaits_any A n cap l Hl.out (by omega) HMay.out HNN.out _ (Hr.out.below Hw1.out)).mono ?_; rintro e w3 ⟨gR, cR, SR, R, rfl, hcR, hcm, hRok, hgR, hRb, hRo, hb3⟩
  rw [Hl.out] at hcR hRb hRo ⊢
  have HR := Lib.hid hRok
  have HRb := Lib.hid hRb
  have HRo := Lib.hid hRo
  have HgR := Lib.hid hgR
  have HM3 : Hid (WM w w3 g A n cap w3.heap.size (fun _ => false) (fun _ => 0) (fun _ => nilS) (fun _ => []) (fun _ => none) 0) := Lib.hid (by
    have h := HM1.out.ext hb3
    exact ⟨h.low, h.ok.up hb3.size, Nat.le_refl _, h.st, h.dn, h.op, h.bh, Fam.none _ _ _, h.map, h.mm⟩)
  have HlR : Hid (∀ i, i < n → (R i).length ≤ 4096) := Lib.hid (fun i hi => by have := hRok.len (i := i) (by have := Hl.out; omega); have := Hl.out; omega)
  clear hcR hcm hRok hgR hRb hRo hb3 HM1
  obtain ⟨B1, hB1⟩ : ∃ B1, B1 = wx.heap.size := ⟨_, rfl⟩
  obtain ⟨B2, hB2⟩ : ∃ B2, B2 = w3.heap.size := ⟨_, rfl⟩
  have HB2 := Lib.hid hB2
  rw [← hB1] at HgR HRo HOK
  rw [← hB2] at HM3
  have HgR2 : Hid (gR < B2) := Lib.hid (by rw [hB2]; exact HRb.out.lt)
  clear hB1 hB2
  go_wp2_with fail
  go_loopw [24] (fun i wr => ∃ (t : Nat) (O : Nat → Nat) (N : Int → List Nat) (H : Nat → List Nat) (S : Ix → Value) (X : Ix → List Int) (m : Int → Option Value) (q : Nat), t ≤ n ∧ i = .int .i64 t ∧ WM w wr g A n cap B2 (fun _ => false) O S X m q ∧ Wb l R t O N H ∧ WX X N H ∧ X Ix.row = [] ∧ S Ix.row = nilS ∧ q ≤ t ∧ (∀ r, B1 ≤ r → r < B2 → wr.heap[r]? = w3.heap[r]?)) (fun i _ => n - (intOf i).toNat)
  case atStart => exact ⟨0, fun _ => 0, fun _ => [], fun _ => [], fun _ => nilS, fun _ => [], fun _ => none, 0, Nat.zero_le _, rfl, HM3.out, Wb.start l R, ⟨fun _ => rfl, fun _ => rfl⟩, rfl, rfl, Nat.le_refl _, fun _ _ _ => rfl⟩
  case round =>
    obtain ⟨t, O, N, H, S, X, m, q, ht, rfl, hM, hWb, hWX, hXr, hSr, hq, hK⟩ := hrel
    have HM := Lib.hid hM
    have HWb := Lib.hid hWb
    have HWX := Lib.hid hWX
    have HRow := Lib.hid (And.intro hXr hSr)
    have HK := Lib.hid hK
    clear hM hWb hWX hXr hSr hK
    by_cases hlt : t < n
    · have d0 : decide ((t : Int) < n) = true := by simpa using hlt
      have z1 : (t : Int) < n := by omega
      have htl : t < l.length := by have := Hl.out; omega
      obtain ⟨ad, _, _, _, _, _, _, rfl, _⟩ := Hr.out.cgk htl
      have k2 : wr.cell? ⟨gR, t, none⟩ = some (SR t) := by
        have : Blk wr gR 28 (vc n SR) := (HK.out gR HgR.out HgR2.out).trans HRb.out
        rw [this.cell, vc_get _ hlt]
      have hRt := HRo.out t hlt
      obtain ⟨At, ct, hv, _, _, _⟩ := hRt.ints
      rw [ns_len] at hv
      rw [hv] at k2
      have HV := Lib.hid hv
      have HRt := Lib.hid hRt
      have hlRt := HlR.out t hlt
      have HRlt := Lib.hid (HR.out.lt t htl)
      have HRri := Lib.hid (HR.out.rise t htl)
      have hWn := HWb.out.next
      obtain ⟨Z, hZ⟩ : ∃ Z, (R t).length = Z := ⟨_, rfl⟩
      have HZ := Lib.hid hZ
      rw [hZ] at k2 hlRt hWn
      have HWn := Lib.hid hWn
      have c2 : wr.cell? ⟨g.s, 2, none⟩ = some (.slice (some ⟨g.o, 0, none⟩) n n) := HM.out.st.cell 2
      clear hRt hv hZ hWn
      go_wp2_with (refine wpList_store_cell rfl _ _ _ rfl Try.intSzG g.o t rfl (.int .i64 Z) rfl rfl rfl _ _ HM.out.op (by rw [zc_size]; exact hlt) ?_)
      apply Stop.go; intro w4 Ho4 Hb4
      rw [zc_set, oz_upd] at Hb4
      have HM4 := Lib.hid (HM.out.only Ho4.out (Or.inr rfl) (D' := fun _ => false) (O' := updF' O t Z) (fun e => absurd e HM.out.ok.dO.symm) (fun _ => rfl) (fun _ => Hb4.out) (fun e => absurd rfl e))
      have HK4 := Lib.hid (show ∀ r, B1 ≤ r → r < B2 → w4.heap[r]? = w3.heap[r]? from fun r h1 h2 =>
        (Ho4.out.block r (by have := HOK.out.hi; omega)).trans (HK.out r h1 h2))
      clear c2 k2 HM HK Ho4 Hb4
      go_wp2_with fail
      go_loopw [39] (fun i wr => ∃ (j : Nat) (S2 : Ix → Value) (X2 : Ix → List Int), j ≤ Z ∧ i = .int .i64 j ∧ WM w wr g (some ad) n cap B2 (fun _ => false) (updF' O t Z) S2 X2 m q ∧ WX X2 N (tellH R t j H) ∧ X2 Ix.row = [] ∧ S2 Ix.row = nilS ∧ (∀ r, B1 ≤ r → r < B2 → wr.heap[r]? = w3.heap[r]?)) (fun i _ => Z - (intOf i).toNat)
      case atStart => exact ⟨0, S, X, Nat.zero_le _, rfl, HM4.out, by rw [tellH_zero]; exact HWX.out, HRow.out.1, HRow.out.2, HK4.out⟩
      case round =>
        obtain ⟨j, S2, X2, hj, rfl, hM, hWX, hXr, hSr, hK⟩ := hrel
        have HM := Lib.hid hM
        have HWX2 := Lib.hid hWX
        have HRow2 := Lib.hid (And.intro hXr hSr)
        have HK := Lib.hid hK
        clear hM hWX hXr hSr hK
        by_cases hjl : j < Z
        · have d1 : decide ((j : Int) < Z) = true := by simpa using hjl
          have hjR : j < (R t).length := by have := HZ.out; omega
          have hrd := HRt.out.mid (w' := wr) (B2 := B2) (by rw [HB2.out]; exact Nat.le_refl _) HK.out
          rw [HV.out, HZ.out] at hrd
          obtain ⟨At', ct', e', _, _, hrc⟩ := hrd.ints
          rw [ns_len, HZ.out] at e'
          injection e' with e1 _ e3
          subst e1
          subst e3
          obtain ⟨ak, rfl, k3⟩ := hrc.int j (by rw [ns_len]; exact hjR)
          rw [ns_get hjR] at k3
          have hlt3 := HRlt.out _ (List.getElem_mem hjR)
          obtain ⟨hT1, hT2⟩ := tellH_succ (H := H) HRri.out hjR
          have HT1 := Lib.hid hT1
          have HT2 := Lib.hid hT2
          generalize (R t)[j] = a at *
          have han : a < n := by omega
          have z3 : (a : Int) < n := by omega
          have Hex := Lib.hid (bdrew wr 1)
          clear hrd hrc hT1 hT2
          go_wp2_with fail
          refine WH.start (S := fun w' : World => Blk w' g.s 68 (wcells g (some ad) n cap)) [false, false, false, false, false, false, false, false, false, false, false, false, false, false, false, false, false] 17 rfl rfl (by kernel_rfl) (HM.out.st.ext (bdrew wr 1)) (fun hSn => ?_)
          obtain ⟨wS, hwS⟩ : ∃ x, wr.drew = x := ⟨_, rfl⟩
          rw [show wr.drewN 1 = wS from hwS] at Hex
          rw [hwS] at hSn ⊢
          clear hwS
          have HMS := Lib.hid (HM.out.ext Hex.out)
          have HlH : Hid ((X2 (Ix.beh a)).length ≤ 4096) := Lib.hid (by
            rw [HWX2.out.beh, ns_len, HT2.out, HWb.out.h]
            have := behR_len R t a
            omega)
          have hl1 : (X2 (Ix.beh a)).length + 1 ≤ maxLen := by have := HlH.out; unfold maxLen; omega
          have hl2 : ((X2 (Ix.beh a)).length + 1) * 8 ≤ 140737488355328 := by have := HlH.out; omega
          have Hc := Lib.hid (show wS.cell? ⟨g.h, a, none⟩ = some (S2 (Ix.beh a)) by rw [HMS.out.bh.cell, vc_get _ han])
          clear k3
          refine WH.take 0 _ ?_ rfl (by kernel_rfl) (fun _ _ _ h => h) rfl (by assumption) ?_ ?_; rotate_left; (focus (intro w hSw; (try dsimp only at hSw); (first | (go_simp; done) | (go_simp; with_reducible rfl)))); simp only [Act.put, List.setIfInBounds_toArray, List.set_cons_zero, List.set_cons_succ]
          refine WH.take 1 _ ?_ rfl (by kernel_rfl) (fun _ _ _ h => h) rfl (by assumption) ?_ ?_; rotate_left; (focus (intro w hSw; (try dsimp only at hSw); (first | (go_simp; done) | (go_simp; with_reducible rfl)))); simp only [Act.put, List.setIfInBounds_toArray, List.set_cons_zero, List.set_cons_succ]
          refine WH.take 2 _ ?_ rfl (by kernel_rfl) (fun _ _ _ h => h) rfl (by assumption) ?_ ?_; rotate_left; (focus (intro w hSw; (try dsimp only at hSw); (first | (go_simp; done) | (go_simp; with_reducible rfl)))); simp only [Act.put, List.setIfInBounds_toArray, List.set_cons_zero, List.set_cons_succ]
          refine WH.take 3 _ _ rfl (by kernel_rfl) (fun _ _ _ h => h) rfl (by assumption) (fun w' hSw => exec_load_cell _ _ rfl _ rfl (.slice (some ⟨g.h, 0, none⟩) n n) (hSw.cell 3) _ (Try.underlying59) rfl) ?_; simp only [Act.put, List.setIfInBounds_toArray, List.set_cons_zero, List.set_cons_succ]
          refine WH.take 4 _ ?_ rfl (by kernel_rfl) (fun _ _ _ h => h) rfl (by assumption) ?_ ?_; rotate_left; (focus (intro w hSw; (try dsimp only at hSw); (first | (go_simp; done) | (go_simp; with_reducible rfl)))); simp only [Act.put, List.setIfInBounds_toArray, List.set_cons_zero, List.set_cons_succ]
          refine WH.take 5 _ ?_ rfl (by kernel_rfl) (fun _ _ _ h => h) rfl (by assumption) ?_ ?_; rotate_left; (focus (intro w hSw; (try dsimp only at hSw); (first | (go_simp; done) | (go_simp; with_reducible rfl)))); simp only [Act.put, List.setIfInBounds_toArray, List.set_cons_zero, List.set_cons_succ]
          refine WH.take 6 _ ?_ rfl (by kernel_rfl) (fun _ _ _ h => h) rfl (by assumption) ?_ ?_; rotate_left; (focus (intro w hSw; (try dsimp only at hSw); (first | (go_simp; done) | (go_simp; with_reducible rfl)))); simp only [Act.put, List.setIfInBounds_toArray, List.set_cons_zero, List.set_cons_succ]
          refine WH.take 7 _ ?_ rfl (by kernel_rfl) (fun _ _ _ h => h) rfl (by assumption) ?_ ?_; rotate_left; (focus (intro w hSw; (try dsimp only at hSw); (first | (go_simp; done) | (go_simp; with_reducible rfl)))); simp only [Act.put, List.setIfInBounds_toArray, List.set_cons_zero, List.set_cons_succ]
          refine WH.take 8 _ _ rfl (by kernel_rfl) (fun _ _ _ h => h) rfl (by assumption) (fun w' hSw => exec_load_cell _ _ rfl _ rfl (.slice (some ⟨g.h, 0, none⟩) n n) (hSw.cell 3) _ (Try.underlying59) rfl) ?_; simp only [Act.put, List.setIfInBounds_toArray, List.set_cons_zero, List.set_cons_succ]
          refine WH.take 9 _ ?_ rfl (by kernel_rfl) (fun _ _ _ h => h) rfl (by assumption) ?_ ?_; rotate_left; (focus (intro w hSw; (try dsimp only at hSw); (first | (go_simp; done) | (go_simp; with_reducible rfl)))); simp only [Act.put, List.setIfInBounds_toArray, List.set_cons_zero, List.set_cons_succ]
          refine WH.take 10 _ ?_ rfl (by kernel_rfl) (fun _ _ _ h => h) rfl (by assumption) ?_ ?_; rotate_left; (focus (intro w hSw; (try dsimp only at hSw); (first | (go_simp; done) | (go_simp; with_reducible rfl)))); simp only [Act.put, List.setIfInBounds_toArray, List.set_cons_zero, List.set_cons_succ]
          refine WH.take 12 _ ?_ rfl (by kernel_rfl) (fun _ _ _ h => h) rfl (by assumption) ?_ ?_; rotate_left; (focus (intro w hSw; (try dsimp only at hSw); (first | (go_simp; done) | (go_simp; with_reducible rfl)))); simp only [Act.put, List.setIfInBounds_toArray, List.set_cons_zero, List.set_cons_succ]
          refine WH.readBuild 11 13 _ _ rfl rfl (S2 (Ix.beh a)) _ _ _ rfl Try.underlying28 (.int .i64 0) 8 Try.infoInt (t : Int) rfl rfl (by kernel_rfl) (by kernel_rfl) (by kernel_rfl) rfl rfl (fun _ => rfl) rfl (by decide) (fun _ => rfl) hSn (fun w1 h => hSn.ext h.1) (exec_load_cell _ _ rfl _ rfl _ Hc.out _ Try.underlying28 rfl) (fun u w1 h => exec_load_cell _ _ rfl _ rfl _ ((h.1.cell (block_lt_of_cell Hc.out)).trans Hc.out) _ Try.underlying28 rfl) ?_
          apply Stop.go
          intro wB HgB HbB
          have HMB := Lib.hid (HMS.out.ext HgB.out.1)
          refine WH.only 14 _ rfl (by kernel_rfl) rfl (fun K hK => ?_)
          refine ow_append_int _ _ _ _ rfl Try.underlying28 (.int .i64 0) 8 Try.infoInt rfl B2 (S2 (Ix.beh a)) (X2 (Ix.beh a)) rfl (HMB.out.fam.own _) (t : Int) _ rfl _ HbB.out HMB.out.bB hl1 hl2 ?_
          apply Stop.go
          intro v' w6 Hv' Ha' Hl'
          have Hbh6 := Lib.hid (Hl'.out.blk HMB.out.bh (HMB.out.fam.no (Or.inl HMB.out.ok.hi.2.2.2.1) _))
          have hSn := Hl'.out.blk (hSn.ext HgB.out.1) (HMB.out.fam.no (Or.inl HMB.out.ok.hi.1) _); refine hK _ _ hSn ?_; clear hK; clear K; simp only [Act.put, List.setIfInBounds_toArray, List.set_cons_zero, List.set_cons_succ]
          refine WH.take 15 _ ?_ rfl (by kernel_rfl) (fun _ _ _ h => h) rfl (by assumption) ?_ ?_; rotate_left; (focus (intro w hSw; (try dsimp only at hSw); (first | (go_simp; done) | (go_simp; with_reducible rfl)))); simp only [Act.put, List.setIfInBounds_toArray, List.set_cons_zero, List.set_cons_succ]
          refine WH.only 16 _ rfl (by kernel_rfl) rfl (fun K hK => ?_)
          obtain ⟨Av, nv, cv, hve⟩ : ∃ A n c, v' = Value.slice A n c := by
            obtain ⟨A, c, e, _⟩ := Hv'.out.ints
            exact ⟨_, _, _, e⟩
          subst hve
          refine ow_store_cell _ _ _ rfl Try.intsSzG g.h a rfl _ rfl rfl rfl _ _ Hbh6.out (by rw [vc_size]; exact han) ?_
          apply Stop.go
          intro w7 Ho7 Hb7
          rw [vc_set, vc_congr (fun k _ => updF_beh S2 a _ k)] at Hb7
          have HM7 := Lib.hid (HMB.out.putBeh Hl'.out Hv'.out Ho7.out Hb7.out)
          have hSn := HM7.out.st; refine hK _ _ hSn ?_; clear hK; clear K; simp only [Act.put, List.set_cons_zero, List.set_cons_succ]
          refine WH.done (by kernel_rfl) ?_
          have HX7 := Lib.hid (show WX (updF X2 (Ix.beh a) (X2 (Ix.beh a) ++ [(t : Int)])) N (tellH R t (j + 1) H) from ⟨fun k => by
            rw [← HT1.out]
            unfold updF'
            by_cases e : k = a
            · subst e
              rw [updF_same, if_pos rfl, HWX2.out.beh, HT2.out, ns_snoc]
            · rw [updF_other _ _ (by simpa [Ix.beh] using e), if_neg e, HWX2.out.beh], fun b => by rw [updF_other _ _ (Ix.beh_nx a b).symm]; exact HWX2.out.nx b⟩)
          have HK7 := Lib.hid (show ∀ r, B1 ≤ r → r < B2 → w7.heap[r]? = w3.heap[r]? from fun r h1 h2 => by
            have e1 := Ho7.out.block r (by have := HOK.out.hi; omega)
            have hrl : r < wr.heap.size := Nat.lt_of_lt_of_le h2 HM.out.bB
            have e2 := Hl'.out.grown.block r (Nat.lt_of_lt_of_le h2 HMB.out.bB) (fun e => by have := (HMB.out.fam.lt _ r e.symm).1; omega)
            rw [e1, e2, (bt Hex.out HgB.out.1).block r hrl]
            exact HK.out r h1 h2)
          go_wp2_with fail
          go_roundw
          case rel => exact ⟨j + 1, _, _, by omega, by go_num, HM7.out, HX7.out, (updF_other _ _ (Ix.beh_row a).symm).trans HRow2.out.1, (updF_other _ _ (Ix.beh_row a).symm).trans HRow2.out.2, HK7.out⟩
          case measure => simp [intOf]; omega
        · have d1 : decide ((j : Int) < Z) = false := by simpa using hjl
          have hjn : Z = j := by omega
          subst hjn
          have hXl : (X2 (Ix.nx (cgA l t).block)).length ≤ 4096 := by
            rw [HWX2.out.nx, ns_len, HWb.out.n]
            have := List.length_filter_le (fun i => decide ((cgA l i).block = (cgA l t).block) && (R i).isEmpty) (List.range t)
            rw [List.length_range] at this
            omega
          go_wp2_with fail
          refine (ask_any w g ad n cap B2 _ _ S2 X2 m q l Hl.out Hr.out t hlt (by omega) hXl _ HM.out).mono ?_; rintro e w8 ⟨rfl, S8, X8, m8, hM8, hX8, hS8, hSn8, hSr8, hT8⟩
          have HM8 := Lib.hid hM8
          have e0 : updF' O t Z t = Z := by unfold updF'; rw [if_pos rfl]
          rw [e0] at hX8
          have HX8 := Lib.hid (show WX X8 (if Z = 0 then updM' N (cgA l t).block (N (cgA l t).block ++ [t]) else N) (tellH R t Z H) ∧ X8 Ix.row = [] from by
            rw [hX8]
            by_cases h0 : Z = 0
            · rw [if_pos h0, if_pos h0]
              refine ⟨⟨fun k => by rw [updF_other _ _ (Ix.beh_nx k _)]; exact HWX2.out.beh k, fun b => ?_⟩, by rw [updF_other _ _ (Ix.row_nx _)]; exact HRow2.out.1⟩
              unfold updM'
              by_cases e : b = (cgA l t).block
              · subst e; rw [updF_same, if_pos rfl, HWX2.out.nx, ns_snoc]
              · rw [updF_other _ _ (Ix.nx_inj e), if_neg e]; exact HWX2.out.nx b
            · rw [if_neg h0, if_neg h0]
              exact ⟨HWX2.out, HRow2.out.1⟩)
          have HK8 := Lib.hid (show ∀ r, B1 ≤ r → r < B2 → w8.heap[r]? = w3.heap[r]? from fun r h1 h2 =>
            (hT8.keep r (Nat.lt_of_lt_of_le h2 HM.out.bB) (by have := HOK.out.hi; omega) (HM.out.fam.no (Or.inl h2))).1.trans (HK.out r h1 h2))
          have HR8 := Lib.hid (hSr8.trans HRow2.out.2)
          clear hM8 hX8 hS8 hSn8 hSr8 hT8 e0 hXl
          go_wp2_with fail
          go_roundw
          case rel => exact ⟨t + 1, _, _, _, S8, X8, m8, q + 1, by omega, by go_num, HM8.out, HWn.out, HX8.out.1, HX8.out.2, HR8.out, by omega, HK8.out⟩
          case measure => simp [intOf]; omega
    · have d0 : decide ((t : Int) < n) = false := by simpa using hlt
      have htn : n = t := by omega
      subst htn
      have HWs := Lib.hid HWb.out.ws
      go_wp2_with fail
      go_ret
      exact ⟨g, B2, q, O, N, R, S, X, m, rfl, HM.out, HR.out, HWs.out, ⟨fun k => by rw [HWX.out.beh, HWb.out.h], HWX.out.nx⟩, HRow.out.1, HRow.out.2, hq⟩

end Go.Proofs.Ytmcinaigkjfehaa
