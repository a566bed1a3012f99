/-
  The contracts of package graph's left, Drain, After and Plan.
-/
import Derived.Test.YtmcinaigkjfehaaGrf7
import Derived.Test.YtmcinaigkjfehaaGrf8
import Derived.Test.YtmcinaigkjfehaaCg11
namespace Go.Proofs.Ytmcinaigkjfehaa
open Go.RowKit

theorem leftD_all {l : List Cg} (hm : mayC l = true) {D : Nat → Bool} (h : ∀ i, i < l.length → D i = true) : leftD l D = [] := by
  cases hs : leftD l D with
  | nil => rfl
  | cons c s =>
    obtain ⟨k, hk, hD, _⟩ := (leftD_mem hm).1 (show c ∈ leftD l D by rw [hs]; simp)
    rw [h k hk] at hD
    cases hD
theorem leftD_head {l : List Cg} (hm : mayC l = true) {D : Nat → Bool} {k : Nat} (hk : k < l.length) (hD : D k = false) (h : ∀ i, i < k → D i = true) : ∃ q, leftD l D = cgA l k :: q := by
  obtain ⟨p, q, hs, hp⟩ := leftD_split hm hk hD
  cases p with
  | nil => exact ⟨q, hs⟩
  | cons c p =>
    obtain ⟨j, hj, hDj, _⟩ := (hp c).1 (by simp)
    rw [h j hj] at hDj
    cases hDj
/-- One write of a drain. -/
theorem drain_step {l : List Cg} (hm : mayC l = true) {R : Nat → List Nat} (hR : RowsOK l l.length R) {D D' : Nat → Bool} {k : Nat} (hk : k < l.length) (hD : D k = false) (h : ∀ i, i < k → D i = true) (hw : Wrote l R (cgA l k).block D D') : drN (leftD l D) = (cgA l k).block :: drN (leftD l D') ∧ ∀ i, i < k + 1 → D' i = true := by
  obtain ⟨q, hq⟩ := leftD_head hm hk hD h
  have hmL := leftD_may hm D
  rw [hw.left hm hR, hq]
  rw [hq] at hmL
  refine ⟨drN_cons hmL, fun i hi => ?_⟩
  by_cases e : i = k
  · subst e
    obtain ⟨t, ht⟩ := readyC_first hmL
    refine (hw.ready hm hR i hk hD).2 ?_
    rw [hq, ht]
    simp
  · exact hw.mono i (h i (by omega))
theorem withoutC_nil (l : List Cg) : withoutC l [] = l := by simp [withoutC]
theorem afterC_wrong {l : List Cg} (h : mayC l = false) (bs : List Int) : afterC l bs = l := by
  induction bs with
  | nil => rfl
  | cons b bs ih => rw [afterC_cons, leftC_wrong h, ih]
theorem afterC_snoc (l : List Cg) (bs : List Int) (b : Int) : afterC l (bs ++ [b]) = leftC (afterC l bs) b := by
  unfold afterC
  rw [List.foldl_append]
  rfl

set_option maxRecDepth 100000 in
set_option maxHeartbeats 8000000 in
theorem left_any (w0 : World) (g : Gs) (A : Option Addr) (n cap B : Nat) (D : Nat → Bool) (O : Nat → Nat) (S : Ix → Value) (X : Ix → List Int) (m : Int → Option Value) (q : Nat) (l : List Cg) (hl : l.length = n) (hm : n ≤ 4095) (hD : ∀ c ∈ l, c.p.data.length ≤ 4096 ∧ c.needs.length ≤ 4096) (hr : RdL RdC w0 A 5 l) (w : World) (hM : WM w0 w g A n cap B D O S X m q) :
    Calls Try.prog 46 #[.pointer (some ⟨g.s, 0, none⟩)] w (RetC w (leftD l D)) := by
  have Hl := Lib.hid hl
  have Hr := Lib.hid hr
  have HDD := Lib.hid hD
  have HM := Lib.hid hM
  have c1 : w.cell? ⟨g.s, 1, none⟩ = some (.slice (some ⟨g.d, 0, none⟩) n n) := hM.st.cell 1
  clear hl hr hM hD
  go_enter Try.func46, Try.ntmps46
  go_wp2_with fail
  clear c1
  go_loopw [3, 11] (fun v i wr => ∃ k : Nat, k ≤ n ∧ i = .int .i64 k ∧ OwnC wr w.heap.size 3 v (ivals (markK l D k)) ∧ Below w.heap.size w wr) (fun _ i _ => n - (intOf i).toNat)
  case atStart => exact ⟨0, Nat.zero_le _, rfl, OwnC.nil_ _ _ _, Below.refl _ _⟩
  case round =>
    obtain ⟨k, hk, rfl, hu, hbw⟩ := hrel
    have Hu := Lib.hid hu
    have Hbw := Lib.hid hbw
    clear hu hbw
    by_cases hlt : k < n
    · have d0 : decide ((k : Int) < n) = true := by simpa using hlt
      have z1 : (k : Int) < n := by omega
      have hkl : k < l.length := by have := Hl.out; omega
      obtain ⟨b, hDk⟩ : ∃ b, D k = b := ⟨_, rfl⟩
      have k1 : wr.cell? ⟨g.d, k, none⟩ = some (.bool b) := by rw [(HM.out.dn.ext Hbw.out).cell, fbools_get _ _ _ hlt, hDk]
      cases b
      · have HX := Lib.hid (markK_off (l := l) hDk)
        clear hDk
        go_wp2_with fail
        go_roundw
        case rel => exact ⟨k + 1, by omega, by go_num, by rw [HX.out]; exact Hu.out, Hbw.out⟩
        case measure => simp [intOf]; omega
      · have HX := Lib.hid (markK_on (l := l) hDk)
        rw [idA_cgA] at HX
        have hlen := markK_len l D k
        obtain ⟨ad, _, _, _, _, _, _, rfl, _, h0, _⟩ := (Hr.out.below (HM.out.low.trans (Hbw.out.mono HM.out.low.size))).cgk hkl
        have h00 := cell_off (j := 0) h0 (by rw [add_of_add]; exact h0)
        have c0 : wr.cell? ⟨g.s, 0, none⟩ = some (.slice (some ad) n cap) := (HM.out.st.ext Hbw.out).cell 0
        have hl1 : (ivals (markK l D k)).length + 1 ≤ maxLen := by rw [ivals_len]; unfold maxLen; omega
        have hl2 : ((ivals (markK l D k)).length + 1) * 8 ≤ 140737488355328 := by rw [ivals_len]; omega
        clear hDk
        generalize markK l D k = L at *
        generalize (cgA l k).id = z at *
        go_wp2_with (at_builtin; refine wpList_append_one rfl _ _ _ _ rfl Try.underlying28 (.int .i64 0) 8 Try.infoInt rfl w.heap.size _ _ rfl Hu.out (.int .i64 z) rfl rfl Hbw.out.size hl1 hl2 ?_)
        apply Stop.go
        intro v' w6 Hv' Ha'
        go_wp2_with fail
        go_roundw
        case rel => exact ⟨k + 1, by omega, by go_num, by rw [HX.out, ← ivals_snoc]; exact Hv'.out, Hbw.out.trans Ha'.out.below⟩
        case measure => simp [intOf]; omega
    · have d0 : decide ((k : Int) < n) = false := by simpa using hlt
      have hkn : n = k := by omega
      have c0 : wr.cell? ⟨g.s, 0, none⟩ = some (.slice A n cap) := (HM.out.st.ext Hbw.out).cell 0
      have hlen := markK_len l D k
      have HL := Lib.hid (show leftD l D = withoutC l (markK l D k) by unfold leftD; rw [Hl.out, hkn])
      have hnb : ∀ z ∈ markK l D k, -9223372036854775808 ≤ z ∧ z < 9223372036854775808 := fun z hz => by
        obtain ⟨j, hj, _, rfl⟩ := markK_mem.1 hz
        obtain ⟨_, _, _, _, _, _, _, _, hcv, _⟩ := Hr.out.cgk (show j < l.length by have := Hl.out; omega)
        exact ⟨hcv.lo0, hcv.hi0⟩
      have Hnb := Lib.hid hnb
      obtain ⟨Ai, ci, rfl, _, _, hri⟩ := Hu.out.ints
      have Hri := Lib.hid hri
      have HrW := Lib.hid (Hr.out.below (HM.out.low.trans (Hbw.out.mono HM.out.low.size)))
      subst hkn
      clear hnb hri
      go_wp2_with fail
      refine (pwithoutH_any A n cap l Hl.out (by omega) HDD.out Ai _ ci (markK l D n) rfl (by omega) Hnb.out _ HrW.out Hri.out).mono ?_; rintro e w7 h7
      obtain ⟨A7, n7, c7, rfl, h1, h2, h3, h4, h5⟩ := h7.plain
      clear h7
      go_wp2_with fail
      go_ret
      rw [HL.out]
      exact ⟨A7, n7, c7, rfl, h1, h2, h3, h4, bt Hbw.out h5⟩

theorem ws_bound {n : Nat} {q : Nat} (hq : q ≤ n) (D : Nat → Bool) : q + 5000 * cntU n D ≤ 5000 * (n + 1) + n := by have := cntU_le n D; omega
set_option maxRecDepth 100000 in
set_option maxHeartbeats 16000000 in
theorem gdrain_any (A : Option Addr) (n cap : Nat) (l : List Cg) (hl : l.length = n) (hm : n ≤ 4095) (hN : ∀ c ∈ l, c.needs.length ≤ 4096) (w : World) (hr : RdL RdC w A 5 l) :
    Calls Try.prog 20 #[.slice A n cap] w (RetI w (drainC l)) := by
  have HC := Lib.hid (chk_any A n cap l hl (by omega) w hr)
  have Hl := Lib.hid hl
  have Hr := Lib.hid hr
  have HNN := Lib.hid hN
  cases hmay : mayC l
  · rw [chkI_no hmay] at HC
    have HE : Hid (drainC l = []) := Lib.hid (by unfold drainC; rw [hmay]; rfl)
    clear hl hr hN hmay
    go_enter Try.func20, Try.ntmps20
    go_wp2_with fail
    refine (HC.out).mono ?_; rintro e w2 ⟨rfl, hb2⟩
    go_wp2_with fail
    go_ret
    rw [HE.out]
    exact RetI.nil_ hb2
  · rw [chkI_yes hmay] at HC
    have HMay := Lib.hid hmay
    have HE := Lib.hid (drainC_drN hmay)
    generalize drainC l = Z at *
    clear hl hr hN hmay
    go_enter Try.func20, Try.ntmps20
    go_wp2_with fail
    refine (HC.out).mono ?_; rintro e w2 ⟨rfl, hb2⟩
    have Hb2 := Lib.hid hb2
    clear hb2
    go_wp2_with fail
    refine (begin_any A n cap l Hl.out hm HMay.out HNN.out _ (Hr.out.below Hb2.out)).mono ?_; rintro e w3 ⟨g, B, q0, O0, N0, R, S0, X0, m0, rfl, hM, hR, hWs, hWX, hXr, hSr, hq0⟩
    have HM0 := Lib.hid hM
    have HR := Lib.hid hR
    have HWs0 := Lib.hid hWs
    have HWX0 := Lib.hid hWX
    have HRow0 := Lib.hid (And.intro hXr hSr)
    have Hr2 := Lib.hid (Hr.out.below Hb2.out)
    have Hq0 : Hid (q0 + 5000 * cntU n (fun _ => false) ≤ 5000 * (n + 1)) := Lib.hid (by have := cntU_le n (fun _ => false); omega)
    clear hM hR hWs hWX hXr hSr
    go_wp2_with fail
    go_loopw [3, 14] (fun v i wr => ∃ (k : Nat) (D : Nat → Bool) (O : Nat → Nat) (N : Int → List Nat) (S : Ix → Value) (X : Ix → List Int) (m : Int → Option Value) (q : Nat), k ≤ n ∧ i = .int .i64 k ∧ v = S Ix.row ∧ WM w2 wr g A n cap B D O S X m q ∧ Ws l R n D O N ∧ WX X N (behR R n) ∧ q + 5000 * cntU n D ≤ 5000 * (n + 1) ∧ (X Ix.row ++ drN (leftD l D) = Z ∧ (X Ix.row).length ≤ k) ∧ (∀ i, i < k → D i = true)) (fun _ i _ => n - (intOf i).toNat)
    case atStart => exact ⟨0, _, O0, N0, S0, X0, m0, q0, Nat.zero_le _, rfl, HRow0.out.2.symm, HM0.out, HWs0.out, HWX0.out, Hq0.out, ⟨by rw [HRow0.out.1, leftD_none, HE.out]; rfl, by rw [HRow0.out.1]; exact Nat.le_refl _⟩, fun i h => absurd h (Nat.not_lt_zero i)⟩
    case round =>
      obtain ⟨k, D, O, N, S, X, m, q, hk, rfl, hv, hM, hWs, hWX, hq, hX, hDk⟩ := hrel
      have HV := Lib.hid hv
      have HM := Lib.hid hM
      have HWs := Lib.hid hWs
      have HWX := Lib.hid hWX
      have Hq := Lib.hid hq
      have HX := Lib.hid hX
      have HDk := Lib.hid hDk
      clear hv hM hWs hWX hq hX hDk
      by_cases hlt : k < n
      · have d0 : decide ((k : Int) < n) = true := by simpa using hlt
        have z1 : (k : Int) < n := by omega
        have hkl : k < l.length := by have := Hl.out; omega
        obtain ⟨ad, Ad, nd, cd, An, nn, cn, rfl, hcv, h0, h1, h2, h3, h4⟩ := (Hr2.out.below HM.out.low).cgk hkl
        obtain ⟨b, hDb⟩ : ∃ b, D k = b := ⟨_, rfl⟩
        have C0 := Lib.hid h0
        have C1 := Lib.hid h1
        have C2 := Lib.hid h2
        have C3 := Lib.hid h3
        have C4 := Lib.hid h4
        have Hwb := Lib.hid (wf_int hcv.lo1 hcv.hi1)
        have HSt := Lib.hid (fun (D' : Nat → Bool) (hDb : D k = false) (hw : Wrote l R (cgA l k).block D D') => drain_step HMay.out HR.out hkl hDb HDk.out hw)
        clear h0 h1 h2 h3 h4 hcv
        generalize cgA l k = c at *
        go_wp2_with (first | refine wpList_load_five rfl _ _ rfl (ad.add (k * 5)) rfl _ _ _ _ _ C0.out C1.out C2.out C3.out C4.out _ Try.underlying50 Try.chgSize ?_ | refine wpList_alloc_row rfl _ rfl _ Try.chgZero ?_); apply Stop.go; intro w3 Hg3 Hb3; go_wp2_with (refine wpList_store_arr rfl _ _ _ rfl _ #[.int .i64 c.id, .int .i64 c.block, .int .i64 c.p.at_, .slice Ad nd cd, .slice An nn cn] rfl rfl _ _ Hb3.out Try.chgSize rfl (by simp [Value.oneCell']) ?_); apply Stop.go; intro w4 Ho4 Hb4; have D4 := Lib.hid (bonly Hg3.out.1 Ho4.out (Nat.le_refl _))
        have HM4 := Lib.hid (HM.out.ext D4.out)
        have c1 : w4.cell? ⟨wr.heap.size, 1, none⟩ = some (.int .i64 c.block) := Hb4.out.cell 1
        have cs : w4.cell? ⟨g.s, 1, none⟩ = some (.slice (some ⟨g.d, 0, none⟩) n n) := HM4.out.st.cell 1
        have kd : w4.cell? ⟨g.d, k, none⟩ = some (.bool b) := by rw [HM4.out.dn.cell, fbools_get _ _ _ hlt, hDb]
        have HNc := Lib.hid (HM.out.fam.no (r := wr.heap.size) (Or.inr (Nat.le_refl _)))
        have HGc : Hid (¬ g.G wr.heap.size) := Lib.hid (fun h => by have h1 := HM.out.ok.hi; have h2 := HM.out.bB; rcases h with h | h | h <;> omega)
        clear HM D4 Hg3 Hb3 Ho4 C0 C1 C2 C3 C4
        cases b
        · have HD0 := Lib.hid hDb
          clear hDb
          go_wp2_with fail
          refine (write_any w2 g (some ad) n cap B D O N S X m q l Hl.out hm Hr2.out R (by rw [← Hl.out]; exact HR.out) c.block Hwb.out HWs.out HWX.out Hq.out _ HM4.out).mono ?_; rintro e w5 ⟨rfl, D5, O5, N5, S5, X5, m5, q5, hM5, hWs5, hWX5, hw5, hq5, hXr5, hSr5, hT5⟩
          have HM5 := Lib.hid hM5
          have HWs5 := Lib.hid hWs5
          have HWX5 := Lib.hid hWX5
          have Hq5 := Lib.hid hq5
          have HX5 := Lib.hid (HSt.out D5 HD0.out hw5)
          have HXr := Lib.hid hXr5
          have HV5 : Hid (u3 = S5 Ix.row) := Lib.hid (HV.out.trans hSr5.symm)
          have k1 : w5.cell? ⟨wr.heap.size, 1, none⟩ = some (.int .i64 c.block) := (show Blk w5 wr.heap.size 50 #[.int .i64 c.id, .int .i64 c.block, .int .i64 c.p.at_, .slice Ad nd cd, .slice An nn cn] from (hT5.keep wr.heap.size Hb4.out.lt HGc.out HNc.out).1.trans Hb4.out).cell 1
          have ho := HM5.out.fam.own Ix.row
          rw [← HV5.out, HXr.out] at ho
          have Ho := Lib.hid ho
          have hl1 : (X Ix.row).length + 1 ≤ maxLen := by have := HX.out.2; unfold maxLen; omega
          have hl2 : ((X Ix.row).length + 1) * 8 ≤ 140737488355328 := by have := HX.out.2; omega
          have Hal := Lib.hid (Grew.alloc w5 (.cells #[.int .i64 c.block] 3)).1
          clear hM5 hWs5 hWX5 hq5 hw5 hXr5 hSr5 hT5 ho c1 cs kd
          go_wp2_with (at_builtin; refine wpList_append_int rfl _ _ _ _ rfl Try.underlying28 (.int .i64 0) 8 Try.infoInt rfl B u3 (X Ix.row) rfl (Ho.out.ext Hal.out) c.block _ rfl _ (Blk.new _ _ _) (Nat.le_trans HM5.out.bB Hal.out.size) hl1 hl2 ?_)
          apply Stop.go
          intro v' w6 Hv' Ha' Hl'
          rw [HV5.out] at Hl'
          have HM6 := Lib.hid ((HM5.out.ext Hal.out).put Hl'.out Hv'.out (fun k => (Ix.beh_row k).symm) (fun b => Ix.row_nx b))
          have HWX6 := Lib.hid (show WX (updF X5 Ix.row (X Ix.row ++ [c.block])) N5 (behR R n) from ⟨fun k => by rw [updF_other _ _ (Ix.beh_row k)]; exact HWX5.out.beh k, fun b => by rw [updF_other _ _ (Ix.row_nx b).symm]; exact HWX5.out.nx b⟩)
          go_wp2_with fail
          go_roundw
          case rel => exact ⟨k + 1, D5, O5, N5, _, _, m5, q5, by omega, by go_num, (updF_same S5 Ix.row v').symm, HM6.out, HWs5.out, HWX6.out, Hq5.out, ⟨by rw [updF_same, List.append_assoc, ← HX.out.1, HX5.out.1]; rfl, by rw [updF_same]; have := HX.out.2; simp; omega⟩, HX5.out.2⟩
          case measure => simp [intOf]; omega
        · have HX1 := Lib.hid (show ∀ i, i < k + 1 → D i = true from fun i hi => by
            by_cases e : i = k
            · subst e; exact hDb
            · exact HDk.out i (by omega))
          clear hDb
          go_wp2_with fail
          go_roundw
          case rel => exact ⟨k + 1, D, O, N, S, X, m, q, by omega, by go_num, HV.out, HM4.out, HWs.out, HWX.out, Hq.out, ⟨HX.out.1, by have := HX.out.2; omega⟩, HX1.out⟩
          case measure => simp [intOf]; omega
      · have d0 : decide ((k : Int) < n) = false := by simpa using hlt
        have hkn : k = n := by omega
        have HZ : Hid (X Ix.row = Z) := Lib.hid (by
          have h := HX.out.1
          rw [leftD_all HMay.out (fun i hi => HDk.out i (by have := Hl.out; omega)), drN_nil, List.append_nil] at h
          exact h)
        have ho := HM.out.fam.own Ix.row
        rw [HZ.out, ← HV.out] at ho
        have Ho := Lib.hid ho
        clear ho
        go_wp2_with fail
        go_ret
        exact Ho.out.retI (bt Hb2.out HM.out.low)

set_option maxRecDepth 100000 in
set_option maxHeartbeats 8000000 in
theorem gafter_any (A : Option Addr) (n cap : Nat) (l : List Cg) (hl : l.length = n) (hm : n ≤ 4095) (hD : ∀ c ∈ l, c.p.data.length ≤ 4096 ∧ c.needs.length ≤ 4096) (Ab : Option Addr) (nb cb : Nat) (bs : List Int) (hnb : bs.length = nb) (hbw : ∀ z ∈ bs, -9223372036854775808 ≤ z ∧ z < 9223372036854775808) (hbl : nb ≤ 9223372036854775807) (w : World) (hr : RdL RdC w A 5 l) (hrb : RC w Ab (ivals bs)) :
    Calls Try.prog 24 #[.slice A n cap, .slice Ab nb cb] w (RetC w (afterC l bs)) := by
  have HC := Lib.hid (chk_any A n cap l hl (by omega) w hr)
  have Hl := Lib.hid hl
  have Hr := Lib.hid hr
  have HDD := Lib.hid hD
  have Hnb := Lib.hid hnb
  have Hbw := Lib.hid hbw
  have Hrb := Lib.hid hrb
  cases hmay : mayC l
  · rw [chkI_no hmay] at HC
    have HE : Hid (afterC l bs = withoutC l []) := Lib.hid (by rw [afterC_wrong hmay, withoutC_nil])
    rw [HE.out]
    clear hl hr hD hmay hnb hbw hrb
    go_enter Try.func24, Try.ntmps24
    go_wp2_with fail
    refine (HC.out).mono ?_; rintro e w2 ⟨rfl, hb2⟩
    have Hb2 := Lib.hid hb2
    clear hb2
    go_wp2_with fail
    refine (pwithoutH_any A n cap l Hl.out (by omega) HDD.out none 0 0 [] rfl (by omega) (fun z hz => by cases hz) _ (Hr.out.below Hb2.out) (RC.nil_ _ _)).mono ?_; rintro e w3 h3
    obtain ⟨A7, n7, c7, rfl, h1, h2, h3, h4, h5⟩ := h3.plain
    go_wp2_with fail
    go_ret
    exact ⟨A7, n7, c7, rfl, h1, h2, h3, h4, bt Hb2.out h5⟩
  · rw [chkI_yes hmay] at HC
    have HMay := Lib.hid hmay
    clear hl hr hD hmay hnb hbw hrb
    go_enter Try.func24, Try.ntmps24
    go_wp2_with fail
    refine (HC.out).mono ?_; rintro e w2 ⟨rfl, hb2⟩
    have Hb2 := Lib.hid hb2
    clear hb2
    go_wp2_with fail
    refine (begin_any A n cap l Hl.out hm HMay.out (fun c hc => (HDD.out c hc).2) _ (Hr.out.below Hb2.out)).mono ?_; rintro e w3 ⟨g, B, q0, O0, N0, R, S0, X0, m0, rfl, hM, hR, hWs, hWX, hXr, hSr, hq0⟩
    have HM0 := Lib.hid hM
    have HR := Lib.hid hR
    have HWs0 := Lib.hid hWs
    have HWX0 := Lib.hid hWX
    have Hr2 := Lib.hid (Hr.out.below Hb2.out)
    have Hrb2 := Lib.hid (Hrb.out.below Hb2.out)
    have Hq0 : Hid (q0 + 5000 * cntU n (fun _ => false) ≤ 5000 * (n + 1)) := Lib.hid (by have := cntU_le n (fun _ => false); omega)
    clear hM hR hWs hWX hXr hSr
    go_wp2_with fail
    go_loopw [17] (fun i wr => ∃ (k : Nat) (D : Nat → Bool) (O : Nat → Nat) (N : Int → List Nat) (S : Ix → Value) (X : Ix → List Int) (m : Int → Option Value) (q : Nat), k ≤ nb ∧ i = .int .i64 k ∧ WM w2 wr g A n cap B D O S X m q ∧ Ws l R n D O N ∧ WX X N (behR R n) ∧ q + 5000 * cntU n D ≤ 5000 * (n + 1) ∧ leftD l D = afterC l (bs.take k)) (fun i _ => nb - (intOf i).toNat)
    case atStart => exact ⟨0, _, O0, N0, S0, X0, m0, q0, Nat.zero_le _, rfl, HM0.out, HWs0.out, HWX0.out, Hq0.out, by rw [leftD_none]; rfl⟩
    case round =>
      obtain ⟨k, D, O, N, S, X, m, q, hk, rfl, hM, hWs, hWX, hq, hX⟩ := hrel
      have HM := Lib.hid hM
      have HWs := Lib.hid hWs
      have HWX := Lib.hid hWX
      have Hq := Lib.hid hq
      have HX := Lib.hid hX
      clear hM hWs hWX hq hX
      by_cases hlt : k < nb
      · have d0 : decide ((k : Int) < nb) = true := by simpa using hlt
        have hkb : k < bs.length := by have := Hnb.out; omega
        obtain ⟨ab, rfl, k0⟩ := (Hrb2.out.below HM.out.low).int k hkb
        have Hwb := Lib.hid (wf_int (Hbw.out _ (List.getElem_mem hkb)).1 (Hbw.out _ (List.getElem_mem hkb)).2)
        have HA := Lib.hid (show afterC l (bs.take (k + 1)) = leftC (afterC l (bs.take k)) bs[k] by rw [List.take_succ_eq_append_getElem hkb, afterC_snoc])
        generalize bs[k] = b at *
        go_wp2_with fail
        refine (write_any w2 g A n cap B D O N S X m q l Hl.out hm Hr2.out R (by rw [← Hl.out]; exact HR.out) b Hwb.out HWs.out HWX.out Hq.out _ HM.out).mono ?_; rintro e w5 ⟨rfl, D5, O5, N5, S5, X5, m5, q5, hM5, hWs5, hWX5, hw5, hq5, hXr5, hSr5, hT5⟩
        have HX5 := Lib.hid (And.intro hM5 (And.intro hWs5 (And.intro hWX5 (And.intro hq5 (show leftD l D5 = afterC l (bs.take (k + 1)) by rw [HA.out, ← HX.out]; exact hw5.left HMay.out HR.out)))))
        clear hM5 hWs5 hWX5 hw5 hq5 hXr5 hSr5 hT5 k0
        go_wp2_with fail
        go_roundw
        case rel => exact ⟨k + 1, D5, O5, N5, S5, X5, m5, q5, by omega, by go_num, HX5.out.1, HX5.out.2.1, HX5.out.2.2.1, HX5.out.2.2.2.1, HX5.out.2.2.2.2⟩
        case measure => simp [intOf]; omega
      · have d0 : decide ((k : Int) < nb) = false := by simpa using hlt
        have HE : Hid (afterC l bs = leftD l D) := Lib.hid (by rw [HX.out, List.take_of_length_le (by have := Hnb.out; omega)])
        go_wp2_with fail
        refine (left_any w2 g A n cap B D O S X m q l Hl.out hm HDD.out Hr2.out _ HM.out).mono ?_; rintro e w5 ⟨A7, n7, c7, rfl, h1, h2, h3, h4, h5⟩
        go_wp2_with fail
        go_ret
        exact ⟨A7, n7, c7, rfl, by rw [HE.out]; exact h1, h2, h3, by rw [HE.out]; exact h4, bt (bt Hb2.out HM.out.low) h5⟩

set_option maxRecDepth 100000 in
set_option maxHeartbeats 1600000 in
theorem gplan_any (A : Option Addr) (n cap : Nat) (l : List Cg) (hl : l.length = n) (hcap : n ≤ cap) (hm : n ≤ 4095) (hN : ∀ c ∈ l, c.needs.length ≤ 4096) (id : Int) (w : World) (hr : RdL RdC w A 5 l) :
    Calls Try.prog 18 #[.slice A n cap, .int .i64 id] w (RetI w (planC l id)) := by
  have HC := Lib.hid (gall_any A n cap l hl hcap hm hN id w hr)
  have HL : Hid ((subC l id).length ≤ 4095) := Lib.hid (by have := subC_len l id; omega)
  have HN : Hid (∀ c ∈ subC l id, c.needs.length ≤ 4096) := Lib.hid (fun c hc => hN c (List.mem_filter.1 hc).1)
  rw [planC_drain]
  clear hl hr hN
  generalize subC l id = s at *
  go_enter Try.func18, Try.ntmps18
  go_wp2_with fail
  refine (HC.out).mono ?_; rintro e w2 ⟨A2, n2, c2, rfl, hn2, hc2, hm2, hr2, hb2⟩
  have Hb2 := Lib.hid hb2
  have HD := Lib.hid (gdrain_any A2 n2 c2 s hn2 (by have := HL.out; omega) HN.out w2 hr2)
  clear hb2 hr2 HC
  go_wp2_with fail
  refine (HD.out).mono ?_; rintro e w3 ⟨A3, n3, c3, rfl, h1, h2, h3, h4, h5⟩
  go_wp2_with fail
  go_ret
  exact ⟨A3, n3, c3, rfl, h1, h2, h3, h4, bt Hb2.out h5⟩

end Go.Proofs.Ytmcinaigkjfehaa
