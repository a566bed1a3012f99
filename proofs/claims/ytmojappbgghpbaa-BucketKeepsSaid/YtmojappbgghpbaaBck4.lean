/-
  Contracts of package bucket: Put, Clear, Point.
-/
import Derived.Test.YtmojappbgghpbaaBck1
import Derived.Test.YtmojappbgghpbaaPat1
namespace Go.Proofs.Ytmojappbgghpbaa
open Go.RowKit

/-- 18.3. -/
def putT (k : Int) (e : En) : Pt := if slotB k && mayE e then ⟨32 + 32 * k, bytesE e⟩ else ⟨0, []⟩
def putC (k : Int) (e : En) : Int := if slotB k then (if mayE e then 0 else 1) else 2
def clrT (k : Int) : Pt := if slotB k then ⟨32 + 32 * k, zeros 32⟩ else ⟨0, []⟩
def clrC (k : Int) : Int := if slotB k then 0 else 2
def poiT (k i : Int) : Pt := if slotB k && inoB i then ⟨32 + 32 * k, leBytes 2 i.toNat⟩ else ⟨0, []⟩
def poiC (k i : Int) : Int := if slotB k then (if inoB i then 0 else 1) else 2
theorem putT_no {k : Int} (e : En) (h : slotB k = false) : putT k e = ⟨0, []⟩ ∧ putC k e = 2 := by unfold putT putC; rw [h]; exact ⟨rfl, rfl⟩
theorem putT_not {k : Int} {e : En} (h : slotB k = true) (h' : mayE e = false) : putT k e = ⟨0, []⟩ ∧ putC k e = 1 := by unfold putT putC; rw [h, h']; exact ⟨rfl, rfl⟩
theorem putT_yes {k : Int} {e : En} (h : slotB k = true) (h' : mayE e = true) : putT k e = ⟨32 + 32 * k, bytesE e⟩ ∧ putC k e = 0 := by unfold putT putC; rw [h, h']; exact ⟨rfl, rfl⟩
theorem clrT_no {k : Int} (h : slotB k = false) : clrT k = ⟨0, []⟩ ∧ clrC k = 2 := by unfold clrT clrC; rw [h]; exact ⟨rfl, rfl⟩
theorem clrT_yes {k : Int} (h : slotB k = true) : clrT k = ⟨32 + 32 * k, zeros 32⟩ ∧ clrC k = 0 := by unfold clrT clrC; rw [h]; exact ⟨rfl, rfl⟩
theorem poiT_no {k : Int} (i : Int) (h : slotB k = false) : poiT k i = ⟨0, []⟩ ∧ poiC k i = 2 := by unfold poiT poiC; rw [h]; exact ⟨rfl, rfl⟩
theorem poiT_not {k i : Int} (h : slotB k = true) (h' : inoB i = false) : poiT k i = ⟨0, []⟩ ∧ poiC k i = 1 := by unfold poiT poiC; rw [h, h']; exact ⟨rfl, rfl⟩
theorem poiT_yes {k i : Int} (h : slotB k = true) (h' : inoB i = true) : poiT k i = ⟨32 + 32 * k, leBytes 2 i.toNat⟩ ∧ poiC k i = 0 := by unfold poiT poiC; rw [h, h']; exact ⟨rfl, rfl⟩

set_option maxRecDepth 4000 in
set_option maxHeartbeats 1600000 in
theorem bput_any (k : Int) (e : En) (hs : e.name.size ≤ maxLen) (w : World) :
    Calls Try.prog 23 #[.int .i64 k, .agg (ecells e)] w (RetPT w (putT k e) (putC k e)) := by
  have Hs := Lib.hid hs
  have HzL : Hid ((zeros 32).length = 32) := Lib.hid (zeros_len _)
  have HPN : Hid (∀ w' : World, PV w' ⟨0, []⟩ none 0 0) := Lib.hid fun w' => ⟨by decide, by decide, rfl, Nat.le_refl _, by unfold maxLen; omega, RB.nil_ _ _⟩
  go_enter Try.func23, Try.ntmps23
  go_wp2_with (refine wpList_box_row rfl _ _ rfl _ rfl ?_)
  apply Stop.go; intro w1 Hg1 Hb1
  go_wp2_with (refine wpList_alloc_row rfl _ rfl _ Try.patchZero ?_)
  apply Stop.go; intro w2 Hg2 Hb2
  have HB2 := Lib.hid (Hb1.out.ext Hg2.out.1)
  have E2 := Lib.hid (bt Hg1.out.1 Hg2.out.1)
  have z2 := Lib.hid (show w.heap.size < w1.heap.size ∧ w1.heap.size < w2.heap.size by have := Hg1.out.2; have := Hg2.out.2; omega)
  generalize w1.heap.size = g1 at *
  clear Hb1 Hg1 Hg2 hs
  go_wp2_with fail
  refine (isSlot_any k _).mono ?_; rintro e w3 ⟨rfl, rfl⟩
  cases hp : slotB k
  · have H0 := Lib.hid (putT_no e hp)
    clear hp
    go_wp2_with (first | refine wpList_store_arr rfl _ _ _ rfl _ #[.int .i64 0, .slice none 0 0] rfl rfl _ _ Hb2.out Try.patchSize rfl (by simp [Value.oneCell']) ?_)
    apply Stop.go; intro wc Hoc Hbc
    go_wp2_with ((with_reducible show bodyPost _ _ _ _ _ _); refine bodyPost_struct_tmp rfl _ rfl _ _ Hbc.out _ Try.underlying55 rfl Try.patchSize rfl _ rfl ?_)
    apply Stop.go
    rw [H0.out.1, H0.out.2]
    exact ⟨none, 0, 0, rfl, HPN.out _, bonly E2.out Hoc.out (by have := z2.out; omega)⟩
  · have Hp := Lib.hid hp
    clear hp
    go_wp2_with (refine wpList_load_blk rfl _ _ rfl _ rfl _ _ HB2.out _ Try.underlying39 rfl Try.entSize ?_)
    refine (bmay_any e Hs.out _).mono ?_; rintro e w4 ⟨rfl, hb4⟩
    have HB4 := Lib.hid (HB2.out.ext hb4)
    have HR4 := Lib.hid (Hb2.out.ext hb4)
    have E4 := Lib.hid (bt E2.out hb4)
    have z4 := Lib.hid (show w.heap.size < g1 ∧ g1 < w4.heap.size from ⟨z2.out.1, HR4.out.lt⟩)
    clear hb4 HB2 Hb2 E2 z2
    cases hm : mayE e
    · have H0 := Lib.hid (putT_not Hp.out hm)
      clear hm
      go_wp2_with (first | refine wpList_store_arr rfl _ _ _ rfl _ #[.int .i64 0, .slice none 0 0] rfl rfl _ _ HR4.out Try.patchSize rfl (by simp [Value.oneCell']) ?_)
      apply Stop.go; intro wc Hoc Hbc
      go_wp2_with ((with_reducible show bodyPost _ _ _ _ _ _); refine bodyPost_struct_tmp rfl _ rfl _ _ Hbc.out _ Try.underlying55 rfl Try.patchSize rfl _ rfl ?_)
      apply Stop.go
      rw [H0.out.1, H0.out.2]
      exact ⟨none, 0, 0, rfl, HPN.out _, bonly E4.out Hoc.out (by have := z4.out; omega)⟩
    · have H0 := putT_yes Hp.out hm
      have HW := Lib.hid (fun w => written_any e hm w)
      have HYL := Lib.hid (bytesE_len hm)
      obtain ⟨q, hq, rfl⟩ := slotB_true Hp.out
      have hpl := slotAt_any q hq
      obtain ⟨Y, hY⟩ : ∃ Y, bytesE e = Y := ⟨_, rfl⟩
      obtain ⟨o, ho⟩ : ∃ o, 32 + 32 * q = o := ⟨_, rfl⟩
      have hoi : 32 + 32 * (q : Int) = ((o : Nat) : Int) := by omega
      rw [hoi] at H0
      rw [hY] at H0 HW HYL
      have Hlt := Lib.hid (show o < 256 by omega)
      rw [ho] at hpl
      have HH := Lib.hid H0
      clear hY ho hoi hm H0
      go_wp2_with (refine wpList_load_blk rfl _ _ rfl _ rfl _ _ HB4.out _ Try.underlying39 rfl Try.entSize ?_)
      refine (HW.out _).mono ?_; rintro e w5 ⟨rfl, hb5⟩
      have HR5 := Lib.hid (HR4.out.ext hb5)
      have E5 := Lib.hid (bt E4.out hb5)
      have z5 := Lib.hid (show w.heap.size < g1 ∧ g1 < w5.heap.size from ⟨z4.out.1, HR5.out.lt⟩)
      clear hb5 HB4 HR4 E4 z4 HW
      go_wp2_with (refine wpList_alloc_row rfl _ rfl _ Try.b32Zero ?_)
      apply Stop.go; intro w6 Hg6 Hb6
      go_wp2_with (refine wpList_store_arr rfl _ _ _ rfl _ _ rfl rfl _ _ Hb6.out (Try.b32Fits HYL.out) (by simp only [bcells_size, HYL.out, HzL.out]) (oneCell_bcells _) ?_)
      apply Stop.go; intro w7 Ho7 Hb7
      have HR7 := Lib.hid ((HR5.out.ext Hg6.out.1).only Ho7.out (by have := z5.out; omega))
      have E7 := Lib.hid (bonly (bt E5.out Hg6.out.1) Ho7.out (by have := z5.out; omega))
      generalize w5.heap.size = g5 at *
      clear Hg6 Hb6 Ho7 HR5 E5
      go_wp2_with fail
      refine WH.start (S := fun w' : World => Below w.heap.size w w') [false, false, false, false, false, false] 6 rfl rfl (by kernel_rfl) (bt E7.out (bdrew w7 1)) (fun hSn => ?_); obtain ⟨wS, hwS⟩ : ∃ x, (w7).drew = x := ⟨_, rfl⟩; have HE := Lib.hid (show Below (w7).heap.size (w7) wS from hwS ▸ bdrew w7 1); rw [hwS] at hSn ⊢; clear hwS
      refine WH.tk 0 ?_; simp only [setL]
      refine WH.tv 2 rfl (fun w' hSw => exec_slice_all _ _ rfl 32 _ Try.underlying69 Try.byteSize g5 rfl (by decide)) ?_; simp only [setL]
      refine WH.only 1 _ rfl (by kernel_rfl) rfl (fun K hK => ?_)
      go_simp; refine (hpl _).mono ?_; rintro e wa ⟨rfl, rfl⟩; go_simp
      have hSn := hSn; refine hK _ _ hSn ?_; clear hK; clear K; simp only [setL]
      refine WH.tk 3 ?_; simp only [setL]
      refine WH.only 4 _ rfl (by kernel_rfl) rfl (fun K hK => ?_)
      refine ow_store _ _ _ rfl _ #[.int .i64 (o : Int), .slice (some ⟨g5, 0, none⟩) 32 32] rfl rfl _ _ (HR7.out.ext HE.out) Try.patchSize rfl (by simp [Value.oneCell']) ?_
      apply Stop.go; intro wb Hob Hbb
      have hSn := bonly hSn Hob.out (by have := z5.out; omega); refine hK _ _ hSn ?_; clear hK; clear K; simp only [setL]
      refine WH.tk 5 ?_; simp only [setL]
      refine WH.done (by kernel_rfl) ?_
      have HXb := Lib.hid ((Hb7.out.ext HE.out).only Hob.out (by have := z5.out; omega))
      go_wp2_with ((with_reducible show bodyPost _ _ _ _ _ _); refine bodyPost_struct_tmp rfl _ rfl _ _ Hbb.out _ Try.underlying55 rfl Try.patchSize rfl _ rfl ?_)
      apply Stop.go
      rw [HH.out.1, HH.out.2]
      exact ⟨some ⟨g5, 0, none⟩, 32, 32, rfl, ⟨by show _ ≤ (o : Int); omega, by show (o : Int) < _; have := Hlt.out; omega, HYL.out, Nat.le_refl _, by unfold maxLen; omega, RB.of_blk0 HXb.out⟩, hSn⟩

set_option maxRecDepth 4000 in
set_option maxHeartbeats 1600000 in
theorem bclear_any (k : Int) (w : World) :
    Calls Try.prog 24 #[.int .i64 k] w (RetPT w (clrT k) (clrC k)) := by
  have HzL : Hid ((zeros 32).length = 32) := Lib.hid (zeros_len _)
  have HPN : Hid (∀ w' : World, PV w' ⟨0, []⟩ none 0 0) := Lib.hid fun w' => ⟨by decide, by decide, rfl, Nat.le_refl _, by unfold maxLen; omega, RB.nil_ _ _⟩
  go_enter Try.func24, Try.ntmps24
  go_wp2_with (refine wpList_alloc_row rfl _ rfl _ Try.patchZero ?_)
  apply Stop.go; intro w2 Hg2 Hb2
  have E2 := Lib.hid Hg2.out.1
  clear Hg2
  go_wp2_with fail
  refine (isSlot_any k _).mono ?_; rintro e w3 ⟨rfl, rfl⟩
  cases hp : slotB k
  · have H0 := Lib.hid (clrT_no hp)
    clear hp
    go_wp2_with (first | refine wpList_store_arr rfl _ _ _ rfl _ #[.int .i64 0, .slice none 0 0] rfl rfl _ _ Hb2.out Try.patchSize rfl (by simp [Value.oneCell']) ?_)
    apply Stop.go; intro wc Hoc Hbc
    go_wp2_with ((with_reducible show bodyPost _ _ _ _ _ _); refine bodyPost_struct_tmp rfl _ rfl _ _ Hbc.out _ Try.underlying55 rfl Try.patchSize rfl _ rfl ?_)
    apply Stop.go
    rw [H0.out.1, H0.out.2]
    exact ⟨none, 0, 0, rfl, HPN.out _, bonly E2.out Hoc.out (Nat.le_refl _)⟩
  · have H0 := clrT_yes hp
    obtain ⟨q, hq, rfl⟩ := slotB_true hp
    have hpl := slotAt_any q hq
    obtain ⟨o, ho⟩ : ∃ o, 32 + 32 * q = o := ⟨_, rfl⟩
    have hoi : 32 + 32 * (q : Int) = ((o : Nat) : Int) := by omega
    rw [hoi] at H0
    have Hlt := Lib.hid (show o < 256 by omega)
    rw [ho] at hpl
    have HH := Lib.hid H0
    have z2 := Lib.hid Hb2.out.lt
    clear ho hoi hp H0
    go_wp2_with fail
    refine WH.start (S := fun w' : World => Below w.heap.size w w') [false, false, false, false, false, false] 6 rfl rfl (by kernel_rfl) (bt E2.out (bdrew w2 1)) (fun hSn => ?_); obtain ⟨wS, hwS⟩ : ∃ x, (w2).drew = x := ⟨_, rfl⟩; have HE := Lib.hid (show Below (w2).heap.size (w2) wS from hwS ▸ bdrew w2 1); rw [hwS] at hSn ⊢; clear hwS
    refine WH.tk 0 ?_; simp only [setL]
    refine WH.two 1 2 _ _ rfl rfl (by kernel_rfl) rfl rfl (fun K hK => ?_) (fun K hK => ?_)
    · go_simp; refine (hpl _).mono ?_; rintro e wa ⟨rfl, rfl⟩; go_simp
      have hSn := hSn; refine hK _ _ hSn ?_; clear hK; clear K; simp only [setL]
      refine WH.only 2 _ rfl (by kernel_rfl) rfl (fun K hK => ?_)
      refine ow_make_bytes _ _ _ _ rfl Try.underlying30 Try.byteInfo .i64 .i64 _ _ 32 rfl rfl rfl rfl (by decide) ?_
      apply Stop.go; intro wb Hgb Hbb
      have zS := Lib.hid (show w.heap.size < wS.heap.size by have := HE.out.size; have := z2.out; omega)
      have HE := Lib.hid (bt HE.out Hgb.out.1)
      have hSn := bt hSn Hgb.out.1; refine hK _ _ hSn ?_; clear hK; clear K; simp only [setL]
      generalize wS.heap.size = gS at *
      refine WH.tk 3 ?_; simp only [setL]
      refine WH.only 4 _ rfl (by kernel_rfl) rfl (fun K hK => ?_)
      refine ow_store _ _ _ rfl _ #[.int .i64 (o : Int), .slice (some ⟨gS, 0, none⟩) 32 32] rfl rfl _ _ (Hb2.out.ext HE.out) Try.patchSize rfl (by simp [Value.oneCell']) ?_
      apply Stop.go; intro wc Hoc Hbc
      have hSn := bonly hSn Hoc.out (Nat.le_refl _); refine hK _ _ hSn ?_; clear hK; clear K; simp only [setL]
      refine WH.tk 5 ?_; simp only [setL]
      refine WH.done (by kernel_rfl) ?_
      have HXb := Lib.hid (Hbb.out.only Hoc.out (by have := zS.out; omega))
      go_wp2_with ((with_reducible show bodyPost _ _ _ _ _ _); refine bodyPost_struct_tmp rfl _ rfl _ _ Hbc.out _ Try.underlying55 rfl Try.patchSize rfl _ rfl ?_)
      apply Stop.go
      rw [HH.out.1, HH.out.2]
      exact ⟨some ⟨gS, 0, none⟩, 32, 32, rfl, ⟨by show _ ≤ (o : Int); omega, by show (o : Int) < _; have := Hlt.out; omega, HzL.out, Nat.le_refl _, by unfold maxLen; omega, RB.of_blk0 HXb.out⟩, hSn⟩
    · refine ow_make_bytes _ _ _ _ rfl Try.underlying30 Try.byteInfo .i64 .i64 _ _ 32 rfl rfl rfl rfl (by decide) ?_
      apply Stop.go; intro wb Hgb Hbb
      have zS := Lib.hid (show w.heap.size < wS.heap.size by have := HE.out.size; have := z2.out; omega)
      have HE := Lib.hid (bt HE.out Hgb.out.1)
      have hSn := bt hSn Hgb.out.1; refine hK _ _ hSn ?_; clear hK; clear K; simp only [setL]
      generalize wS.heap.size = gS at *
      refine WH.only 1 _ rfl (by kernel_rfl) rfl (fun K hK => ?_)
      go_simp; refine (hpl _).mono ?_; rintro e wa ⟨rfl, rfl⟩; go_simp
      have hSn := hSn; refine hK _ _ hSn ?_; clear hK; clear K; simp only [setL]
      refine WH.tk 3 ?_; simp only [setL]
      refine WH.only 4 _ rfl (by kernel_rfl) rfl (fun K hK => ?_)
      refine ow_store _ _ _ rfl _ #[.int .i64 (o : Int), .slice (some ⟨gS, 0, none⟩) 32 32] rfl rfl _ _ (Hb2.out.ext HE.out) Try.patchSize rfl (by simp [Value.oneCell']) ?_
      apply Stop.go; intro wc Hoc Hbc
      have hSn := bonly hSn Hoc.out (Nat.le_refl _); refine hK _ _ hSn ?_; clear hK; clear K; simp only [setL]
      refine WH.tk 5 ?_; simp only [setL]
      refine WH.done (by kernel_rfl) ?_
      have HXb := Lib.hid (Hbb.out.only Hoc.out (by have := zS.out; omega))
      go_wp2_with ((with_reducible show bodyPost _ _ _ _ _ _); refine bodyPost_struct_tmp rfl _ rfl _ _ Hbc.out _ Try.underlying55 rfl Try.patchSize rfl _ rfl ?_)
      apply Stop.go
      rw [HH.out.1, HH.out.2]
      exact ⟨some ⟨gS, 0, none⟩, 32, 32, rfl, ⟨by show _ ≤ (o : Int); omega, by show (o : Int) < _; have := Hlt.out; omega, HzL.out, Nat.le_refl _, by unfold maxLen; omega, RB.of_blk0 HXb.out⟩, hSn⟩

theorem point_cut (v : Nat) : ncutL (nwithL (zeros 256) 0 2 v) 0 2 = leBytes 2 v := by
  have h : nwithL (zeros 256) 0 2 v = leBytes 2 v ++ zeros 254 := by
    have := nwithL_zeros [] 0 256 2 v rfl (by omega) (by omega) (by omega)
    rwa [List.nil_append, List.nil_append] at this
  rw [h]
  unfold ncutL
  rw [if_pos (by decide)]
  show ((leBytes 2 v ++ zeros 254).drop 0).take 2 = _
  rw [List.drop_zero, List.take_append_of_le_length (by rw [leBytes_len]; omega), List.take_of_length_le (by rw [leBytes_len]; omega)]
set_option maxRecDepth 4000 in
set_option maxHeartbeats 1600000 in
theorem bpoint_any (k i : Int) (w : World) :
    Calls Try.prog 25 #[.int .i64 k, .int .i64 i] w (RetPT w (poiT k i) (poiC k i)) := by
  have HzL : Hid ((zeros 256).length = 256) := Lib.hid (zeros_len _)
  have HPN : Hid (∀ w' : World, PV w' ⟨0, []⟩ none 0 0) := Lib.hid fun w' => ⟨by decide, by decide, rfl, Nat.le_refl _, by unfold maxLen; omega, RB.nil_ _ _⟩
  go_enter Try.func25, Try.ntmps25
  go_wp2_with (refine wpList_alloc_row rfl _ rfl _ Try.patchZero ?_)
  apply Stop.go; intro w2 Hg2 Hb2
  have E2 := Lib.hid Hg2.out.1
  have z2 := Lib.hid Hb2.out.lt
  clear Hg2
  go_wp2_with fail
  refine (isSlot_any k _).mono ?_; rintro e w3 ⟨rfl, rfl⟩
  cases hp : slotB k
  · have H0 := Lib.hid (poiT_no i hp)
    clear hp
    go_wp2_with (first | refine wpList_store_arr rfl _ _ _ rfl _ #[.int .i64 0, .slice none 0 0] rfl rfl _ _ Hb2.out Try.patchSize rfl (by simp [Value.oneCell']) ?_)
    apply Stop.go; intro wc Hoc Hbc
    go_wp2_with ((with_reducible show bodyPost _ _ _ _ _ _); refine bodyPost_struct_tmp rfl _ rfl _ _ Hbc.out _ Try.underlying55 rfl Try.patchSize rfl _ rfl ?_)
    apply Stop.go
    rw [H0.out.1, H0.out.2]
    exact ⟨none, 0, 0, rfl, HPN.out _, bonly E2.out Hoc.out (Nat.le_refl _)⟩
  · have Hp := Lib.hid hp
    clear hp
    go_wp2_with fail
    refine (isIno_any i _).mono ?_; rintro e w4 ⟨rfl, rfl⟩
    cases hm : inoB i
    · have H0 := Lib.hid (poiT_not Hp.out hm)
      clear hm
      go_wp2_with (first | refine wpList_store_arr rfl _ _ _ rfl _ #[.int .i64 0, .slice none 0 0] rfl rfl _ _ Hb2.out Try.patchSize rfl (by simp [Value.oneCell']) ?_)
      apply Stop.go; intro wc Hoc Hbc
      go_wp2_with ((with_reducible show bodyPost _ _ _ _ _ _); refine bodyPost_struct_tmp rfl _ rfl _ _ Hbc.out _ Try.underlying55 rfl Try.patchSize rfl _ rfl ?_)
      apply Stop.go
      rw [H0.out.1, H0.out.2]
      exact ⟨none, 0, 0, rfl, HPN.out _, bonly E2.out Hoc.out (Nat.le_refl _)⟩
    · have H0 := poiT_yes Hp.out hm
      have hi : 1 ≤ i ∧ i ≤ 128 := by unfold inoB at hm; exact of_decide_eq_true hm
      have HU := Lib.hid (show IntKind.u64.wrap i = (i.toNat : Nat) by
        rw [Int.toNat_of_nonneg (by omega)]
        exact IntWalk.u64_in _ (by omega))
      have HIb := Lib.hid (show i.toNat < 18446744073709551616 by omega)
      obtain ⟨q, hq, rfl⟩ := slotB_true Hp.out
      have hpl := slotAt_any q hq
      obtain ⟨o, ho⟩ : ∃ o, 32 + 32 * q = o := ⟨_, rfl⟩
      have hoi : 32 + 32 * (q : Int) = ((o : Nat) : Int) := by omega
      rw [hoi] at H0
      have Hlt := Lib.hid (show o < 256 by omega)
      rw [ho] at hpl
      have HPC := Lib.hid (point_cut i.toNat)
      have HNL := Lib.hid (nwithL_len (zeros 256) 0 2 i.toNat)
      obtain ⟨Y, hY⟩ : ∃ Y, leBytes 2 i.toNat = Y := ⟨_, rfl⟩
      have HYL := Lib.hid (show Y.length = 2 by rw [← hY]; exact leBytes_len _ _)
      obtain ⟨X, hX⟩ : ∃ X, nwithL (zeros 256) 0 2 i.toNat = X := ⟨_, rfl⟩
      rw [hX, hY] at HPC
      rw [hX] at HNL
      rw [hY] at H0
      have HXL := Lib.hid (HNL.out.trans HzL.out)
      have HX := Lib.hid hX
      have HH := Lib.hid H0
      clear hX hY ho hoi hm hi HNL H0
      go_wp2_with (refine wpList_build_zero rfl _ rfl _ Try.blockZero _ _ Try.underlying26 Try.byteSize ?_)
      refine (nwith_any (zeros 256) HzL.out 0 2 i i.toNat HU.out HIb.out _).mono ?_; rintro e w5 ⟨rfl, hb5⟩
      rw [HX.out]
      have HR5 := Lib.hid (Hb2.out.ext hb5)
      have E5 := Lib.hid (bt E2.out hb5)
      have z5 := Lib.hid (show w.heap.size < w5.heap.size from HR5.out.lt)
      clear hb5 Hb2 E2 HU HIb HX
      go_wp2_with (refine wpList_alloc_row rfl _ rfl _ Try.blockZero ?_)
      apply Stop.go; intro w6 Hg6 Hb6
      go_wp2_with (refine wpList_store_arr rfl _ _ _ rfl _ _ rfl rfl _ _ Hb6.out (Try.blockFits HXL.out) (by rw [bcells_size, bcells_size, HXL.out, HzL.out]) (oneCell_bcells _) ?_)
      apply Stop.go; intro w7 Ho7 Hb7
      have HR7 := Lib.hid ((HR5.out.ext Hg6.out.1).only Ho7.out (by have := z5.out; omega))
      have E7 := Lib.hid (bonly (bt E5.out Hg6.out.1) Ho7.out (by have := z5.out; omega))
      generalize w5.heap.size = g5 at *
      clear Hg6 Hb6 Ho7 HR5 E5
      have hw1 : IntKind.i64.wrap ((o : Int) + 0) = (o : Int) := IntWalk.i64_in _ (by have := Hlt.out; omega)
      have hw2 : IntKind.i64.wrap (o : Int) = (o : Int) := IntWalk.i64_in _ (by have := Hlt.out; omega)
      go_wp2_with fail
      refine WH.start (S := fun w' : World => Blk w' g5 26 (bcells X)) [false, false, false, false, false, false, false, false] 8 rfl rfl (by kernel_rfl) (Hb7.out.ext (bdrew w7 1)) (fun hSn => ?_); obtain ⟨wS, hwS⟩ : ∃ x, (w7).drew = x := ⟨_, rfl⟩; have HE := Lib.hid (show Below (w7).heap.size (w7) wS from hwS ▸ bdrew w7 1); rw [hwS] at hSn ⊢; clear hwS
      refine WH.tk 0 ?_; simp only [setL]
      refine WH.tv 3 rfl (fun w' hSw => exec_load_blk _ _ rfl _ rfl _ _ (hSw) _ (Try.underlying26) rfl (Try.blockFits HXL.out)) ?_; simp only [setL]
      refine WH.only 1 _ rfl (by kernel_rfl) rfl (fun K hK => ?_)
      go_simp; refine (hpl _).mono ?_; rintro e wa ⟨rfl, rfl⟩; go_simp
      have hSn := hSn; refine hK _ _ hSn ?_; clear hK; clear K; simp only [setL]
      refine WH.tk 2 ?_; simp only [setL]
      refine WH.only 4 _ rfl (by kernel_rfl) rfl (fun K hK => ?_)
      go_simp; refine (ncut_any X HXL.out 0 2 _).mono ?_; rintro e wb ⟨A, n, c, rfl, hln, hc1, hc2, hrb, hbb⟩; go_simp
      rw [HPC.out] at hln hrb
      obtain rfl : n = 2 := by rw [← hln, HYL.out]
      have HRb := Lib.hid hrb
      have HCb := Lib.hid (And.intro hc1 hc2)
      have HE := Lib.hid (bt HE.out hbb)
      have hSn := hSn.ext hbb; refine hK _ _ hSn ?_; clear hK; clear K; simp only [setL]
      refine WH.tk 5 ?_; simp only [setL]
      refine WH.only 6 _ rfl (by kernel_rfl) rfl (fun K hK => ?_)
      refine ow_store _ _ _ rfl _ #[.int .i64 (o : Int), .slice A 2 c] rfl rfl _ _ (HR7.out.ext HE.out) Try.patchSize rfl (by simp [Value.oneCell']) ?_
      apply Stop.go; intro wd Hod Hbd
      have hSn := hSn.only Hod.out (by have := z5.out; omega); refine hK _ _ hSn ?_; clear hK; clear K; simp only [setL]
      refine WH.tk 7 ?_; simp only [setL]
      refine WH.done (by kernel_rfl) ?_
      have HXb := Lib.hid (HRb.out.only_other (HR7.out.ext HE.out) (by simp) Hod.out)
      go_wp2_with ((with_reducible show bodyPost _ _ _ _ _ _); refine bodyPost_struct_tmp rfl _ rfl _ _ Hbd.out _ Try.underlying55 rfl Try.patchSize rfl _ rfl ?_)
      apply Stop.go
      rw [HH.out.1, HH.out.2]
      exact ⟨A, 2, c, rfl, ⟨by show _ ≤ (o : Int); omega, by show (o : Int) < _; have := Hlt.out; omega, HYL.out, HCb.out.1, HCb.out.2, HXb.out⟩, bonly (bt E7.out HE.out) Hod.out (Nat.le_refl _)⟩

end Go.Proofs.Ytmojappbgghpbaa
