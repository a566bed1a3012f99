/-
  Layer 18: the walk of BucketLooks.
-/
import Derived.Test.YtmojappbgghpbaaLaw18b
import Derived.Deep.CutRange
namespace Go.Proofs.Ytmojappbgghpbaa
open Go.RowKit

theorem listS_get {b : List UInt8} {k : Nat} {e : En} (h : entS b k = some e) : ∀ {m : Nat}, k < m → (listS b m)[(listS b k).length]? = some (k, e)
  | 0, hk => absurd hk (by omega)
  | m + 1, hk => by
    by_cases hkm : k = m
    · subst hkm
      rw [listS_some h, List.getElem?_append_right (Nat.le_refl _)]
      simp
    · have ih := listS_get h (m := m) (by omega)
      have hlt := (List.getElem?_eq_some_iff.1 ih).1
      cases hm : entS b m with
      | none => rw [listS_none hm]; exact ih
      | some x => rw [listS_some hm, List.getElem?_append_left hlt]; exact ih
theorem RN.part {w : World} {ad : Addr} {N : Nat} {L : List (List Value)} (h : RN w (some ad) N L) {k : Nat} {r : List Value} (hk : L[k]? = some r) (hN : r.length = N) (o : Nat) : ∀ j v, (r.drop o)[j]? = some v → w.cell? (((ad.add (k * N)).add o).add j) = some v := fun j v hj => by
  rw [List.getElem?_drop] at hj
  have := h.row hk hN _ v hj
  rw [add_of_add ((ad.add (k * N)))]
  exact this
/-- What Find answers where there is such a one. -/
theorem fndC_at {b : List UInt8} {s : ByteArray} {k : Nat} {e : En} (h : findS b s = some k) (he : entS b k = some e) : fndC b s = #[.int .i64 (k : Int), .string e.name, .int .i64 e.ino] := by
  unfold fndC
  rw [h]
  show scells k (entV (entS b k)) = _
  rw [he]
  rfl
theorem fndC_no {b : List UInt8} {s : ByteArray} (h : findS b s = none) : fndC b s = #[.int .i64 0, .string ⟨#[]⟩, .int .i64 0] := by unfold fndC; rw [h]

set_option maxRecDepth 100000 in
set_option maxHeartbeats 12800000 in
theorem bucketLooks_any (b : List UInt8) (hb : b.length = 256) (s : ByteArray) (_hs : s.size ≤ maxLen) (w : World) :
    Calls Try.prog 4 #[.agg (bcells b), .string s] w fun e w' => e = .returned (.bool true) ∧ Below w.heap.size w w' := by
  have HbL := Lib.hid hb
  have HzL : Hid ((zeros 256).length = 256) := Lib.hid (zeros_len _)
  have HYL := Lib.hid (fixS_len hb (Nat.le_refl 7))
  have HFx := Lib.hid (fun w => bfix_any b hb w)
  have HFn := Lib.hid (fun w => bfind_any b hb s w)
  have HLs := Lib.hid (fun w => blist_any b hb w)
  have HRm := Lib.hid (fun w => broom_any b hb w)
  have HRt := Lib.hid (fun w => bright_any b hb w)
  have HRd := Lib.hid (fun A w k (hk : k < 7) (h : RB w A b) => rread18_any A 256 b hb k hk w h)
  have HFz := Lib.hid (fun A w (h : RB w A b) => rfind18_any A 256 b hb s w h)
  have HRz := Lib.hid (fun A w (h : RB w A b) => rroom18_any A 256 b hb w h)
  have HXz := Lib.hid (fun A w (h : RB w A b) => rfix18_any A 256 b hb w h)
  have HTz := Lib.hid (fun A w (h : RB w A b) => rright18_any A 256 b hb w h)
  have HGet := Lib.hid (fun k e (h : entS b k = some e) (hk : k < 7) => listS_get (m := 7) h hk)
  have HL7 := Lib.hid (listS_len b 7)
  clear hb
  by_cases h60 : 60 < s.size
  · have d0 : decide ((60 : Int) < (s.size : Int)) = true := by simp; omega
    have d1 : decide (60 < s.size) = true := decide_eq_true h60
    clear h60
    go_enter Try.func4, Try.ntmps4
    go_wp2_with (refine wpList_box_row rfl _ _ rfl _ rfl ?_)
    apply Stop.go; intro w1 Hg1 Hb1
    go_wp2_with fail
    refine (works18_any _).mono ?_; rintro e w2 ⟨rfl, hb2⟩
    go_wp2_with fail
    go_ret
    exact ⟨rfl, bt Hg1.out.1 hb2⟩
  · have d0 : decide ((60 : Int) < (s.size : Int)) = false := by simp; omega
    have d1 : decide (60 < s.size) = false := decide_eq_false h60
    clear h60
    go_enter Try.func4, Try.ntmps4
    go_wp2_with (refine wpList_box_row rfl _ _ rfl _ rfl ?_)
    apply Stop.go; intro w1 Hg1 Hb1
    go_wp2_with (first | refine wpList_load_arr rfl _ _ rfl _ rfl _ _ Hb1.out _ _ Try.underlying25 (Try.arr256Fits HbL.out) ?_ | refine wpList_alloc_row rfl _ rfl _ Try.blockZero ?_)
    apply Stop.go; intro w2 Hg2 Hb2
    go_wp2_with (refine wpList_store_arr rfl _ _ _ rfl _ _ rfl rfl _ _ Hb2.out (Try.blockFits HbL.out) (by rw [bcells_size, bcells_size, HbL.out, HzL.out]) (oneCell_bcells _) ?_)
    apply Stop.go; intro w3 Ho3 Hb3
    have HA3 := Lib.hid ((Hb1.out.ext Hg2.out.1).only Ho3.out (by have := Hg1.out.2; omega))
    have E3 := Lib.hid (bonly (bt Hg1.out.1 Hg2.out.1) Ho3.out Hg1.out.1.size)
    have z3 := Lib.hid (show w.heap.size < w1.heap.size by have := Hg1.out.2; omega)
    generalize w1.heap.size = g1 at *
    clear Hb1 Hg1 Hg2 Hb2 Ho3
    go_wp2_with (refine wpList_load_arr rfl _ _ rfl _ rfl _ _ Hb3.out _ _ Try.underlying26 (Try.blockFits HbL.out) ?_)
    refine (HLs.out _).mono ?_; rintro e w4 ⟨v, rfl, hv4, hb4⟩
    obtain ⟨A, c, rfl, hc1, hc2, hr4⟩ := hv4.read
    rw [srows_len]
    have HA4 := Lib.hid (HA3.out.ext hb4)
    have HX4 := Lib.hid (Hb3.out.ext hb4)
    have HR4 := Lib.hid hr4
    have E4 := Lib.hid (bt E3.out hb4)
    clear hv4 hc1 hc2 hr4 hb4 HA3 Hb3 E3 HLs
    obtain ⟨l, hl⟩ : ∃ l, listS b 7 = l := ⟨_, rfl⟩
    rw [hl] at HGet HR4 HL7 ⊢
    obtain ⟨N, hN⟩ : ∃ N, l.length = N := ⟨_, rfl⟩
    rw [hN] at HL7 ⊢
    have HN := Lib.hid hN
    have HlN := Lib.hid (show (listS b 7).length = N by rw [hl, hN])
    clear hl hN
    go_wp2_with fail
    go_loopw [7, 8] (fun i j wr => ∃ k : Nat, k ≤ 7 ∧ j = .int .i64 k ∧ i = .int .i64 ((listS b k).length : Nat) ∧ Below w4.heap.size w4 wr) (fun _ j _ => 7 - (intOf j).toNat)
    case atStart => exact ⟨0, Nat.zero_le _, rfl, rfl, Below.refl _ _⟩
    case round =>
      obtain ⟨k, hk, rfl, rfl, h5⟩ := hrel
      have HV := Lib.hid h5
      clear h5
      obtain ⟨m, hm⟩ : ∃ m, (listS b k).length = m := ⟨_, rfl⟩
      rw [hm]
      have Hm := Lib.hid hm
      clear hm
      by_cases hlt : k < 7
      · have e0 : decide ((k : Int) < 7) = true := by simp; omega
        have e1 : decide (k < 7) = true := decide_eq_true hlt
        have hwk : IntKind.i64.wrap ((k : Int) + 1) = (k : Int) + 1 := IntWalk.i64_in _ (by omega)
        have Ha := Lib.hid (HA4.out.ext HV.out)
        go_wp2_with (refine wpList_slice_arr_all rfl _ _ rfl 256 _ Try.underlying25 Try.byteSize w.heap.size rfl (by omega) ?_)
        refine (HRd.out _ _ k hlt (RB.of_blk0 Ha.out)).mono ?_; rintro e w5 ⟨rfl, hb5⟩
        have V5 := Lib.hid (bt HV.out hb5)
        have z5 := Lib.hid (show w4.heap.size ≤ w5.heap.size from V5.out.size)
        clear hb5 Ha HV
        obtain ⟨o, ho⟩ : ∃ o, entS b k = o := ⟨_, rfl⟩
        have HEs := Lib.hid ho
        rw [ho]
        clear ho
        go_wp2_with (refine wpList_alloc_row rfl _ rfl _ Try.entZero ?_)
        apply Stop.go; intro w6 Hg6 Hb6
        go_wp2_with (refine wpList_store_arr rfl _ _ _ rfl _ (ecells (entV o)) rfl rfl _ _ Hb6.out Try.entSize rfl (by simp [ecells, Value.oneCell']) ?_)
        apply Stop.go; intro w7 Ho7 Hb7
        have V7 := Lib.hid (bonly (bt V5.out Hg6.out.1) Ho7.out z5.out)
        generalize w5.heap.size = g5 at *
        clear Hg6 Hb6 Ho7 V5
        cases o with
        | none =>
          have HL1 := Lib.hid (show (listS b (k + 1)).length = m by rw [listS_none HEs.out, Hm.out])
          rw [show (none : Option En).isSome = false from rfl]
          go_wp2_with fail
          go_roundw
          case rel => exact ⟨k + 1, by omega, by go_num, by rw [HL1.out], V7.out⟩
          case measure => simp [intOf]; omega
        | some e =>
          have HL1 := Lib.hid (show (listS b (k + 1)).length = m + 1 by rw [listS_some HEs.out, List.length_append, Hm.out]; rfl)
          have hg := HGet.out k e HEs.out hlt
          rw [Hm.out] at hg
          have hmN : m < N := by rw [← HN.out]; exact (List.getElem?_eq_some_iff.1 hg).1
          have hR := HR4.out.below V7.out
          obtain ⟨ad, rfl⟩ := hR.adr (k := m) (by rw [srows_len, HN.out]; exact hmN) (by decide)
          have HG := Lib.hid (srow_at hg)
          have HR7 := Lib.hid hR
          have Hb7 : Hid (Blk w7 g5 39 #[.string e.name, .int .i64 e.ino]) := Hb7
          have HmN := Lib.hid hmN
          have f1 : decide ((N : Int) ≤ (m : Int)) = false := by simp; omega
          have f2 : decide (N ≤ m) = false := by simp; omega
          have f3 : (m : Int) < N := by omega
          have f4 : decide (m < N) = true := decide_eq_true hmN
          have f5 : IntKind.i64.wrap ((m : Int) + 1) = (m : Int) + 1 := IntWalk.i64_in _ (by have := HL7.out; omega)
          have f6 : ((k : Int) != (k : Int)) = false := by simp
          rw [show (some e).isSome = true from rfl]
          clear hg hmN hR
          go_wp2_with fail
          refine WH.start (S := fun w' : World => RN w' (some ad) 3 (srows l) ∧ Blk w' g5 39 #[.string e.name, .int .i64 e.ino]) [false, false, false, false, false, false, false, false, false, false, false, false, false, false, false, false, false, false, false, false, false, false] 22 rfl rfl (by kernel_rfl) ⟨HR7.out.below (bdrew w7 1), Hb7.out.ext (bdrew w7 1)⟩ (fun hSn => ?_); obtain ⟨wS, hwS⟩ : ∃ x, (w7).drew = x := ⟨_, rfl⟩; have HE := Lib.hid (show Below (w7).heap.size (w7) wS from hwS ▸ bdrew w7 1); rw [hwS] at hSn ⊢; clear hwS
          refine WH.tk 0 ?_; simp only [setL]
          refine WH.tk 1 ?_; simp only [setL]
          refine WH.tk 2 ?_; simp only [setL]
          refine WH.tk 3 ?_; simp only [setL]
          refine WH.tk 4 ?_; simp only [setL]
          refine WH.tk 5 ?_; simp only [setL]
          refine WH.tk 6 ?_; simp only [setL]
          refine WH.tk 7 ?_; simp only [setL]
          refine WH.tk 8 ?_; simp only [setL]
          refine WH.tv 9 rfl (fun w' hSw => exec_load_cell _ _ rfl _ rfl (.int .i64 (k : Int)) (by have := hSw.1.row HG.out rfl 0 _ rfl; rwa [add_of_add] at this) _ Try.underlying3 rfl) ?_; simp only [setL]
          refine WH.tk 10 ?_; simp only [setL]
          refine WH.tk 11 ?_; simp only [setL]
          refine WH.tk 12 ?_; simp only [setL]
          refine WH.tk 13 ?_; simp only [setL]
          refine WH.tk 14 ?_; simp only [setL]
          refine WH.tk 15 ?_; simp only [setL]
          refine WH.tk 16 ?_; simp only [setL]
          refine WH.tk 17 ?_; simp only [setL]
          refine WH.tv 18 rfl (fun w' hSw => exec_load_cells _ _ rfl ((ad.add (m * 3)).add 1) rfl _ Try.underlying39 [.string e.name, .int .i64 e.ino] Try.entSize (hSw.1.part HG.out rfl 1)) ?_; simp only [setL]
          refine WH.tv 19 rfl (fun w' hSw => exec_load_blk _ _ rfl _ rfl _ _ (hSw.2) _ (Try.underlying39) rfl (Try.entSize)) ?_; simp only [setL]
          refine WH.tv 20 rfl (fun w' hSw => exec_eql_agg _ _ _ _ _ rfl (by kernel_rfl) _ _ rfl rfl _ (neq_ent_same e.ino e.name _)) ?_; simp only [setL]
          refine WH.tk 21 ?_; simp only [setL]
          refine WH.done (by kernel_rfl) ?_
          have V8 := Lib.hid (bt V7.out HE.out)
          clear HE hSn HR7 Hb7 V7
          go_wp2_with fail
          go_roundw
          case rel => exact ⟨k + 1, by omega, by go_num, by rw [HL1.out]; go_num, V8.out⟩
          case measure => simp [intOf]; omega
      · obtain rfl : k = 7 := by omega
        have e0 : decide (((7 : Nat) : Int) < 7) = false := by simp
        obtain rfl : m = N := by rw [← Hm.out]; exact HlN.out
        have HA5 := Lib.hid (HA4.out.ext HV.out)
        have HX5 := Lib.hid (HX4.out.ext HV.out)
        have E5 := Lib.hid (bt E4.out HV.out)
        have z5 := Lib.hid (show w.heap.size < wr.heap.size from HA5.out.lt)
        clear hk hlt HV HA4 HX4 E4 HR4 HGet HlN HN Hm
        go_wp2_with (refine wpList_load_arr rfl _ _ rfl _ rfl _ _ HX5.out _ _ Try.underlying26 (Try.blockFits HbL.out) ?_)
        refine (HFn.out _).mono ?_; rintro e w6 ⟨rfl, hb6⟩
        have HA6 := Lib.hid (HA5.out.ext hb6)
        have HX6 := Lib.hid (HX5.out.ext hb6)
        have E6 := Lib.hid (bt E5.out hb6)
        have z6 := Lib.hid (show w.heap.size < w6.heap.size from HA6.out.lt)
        obtain ⟨fa, ft, fc, hF⟩ := fndC_form b s
        have HF := Lib.hid hF
        rw [hF]
        obtain ⟨is, his⟩ : ∃ r, (findS b s).isSome = r := ⟨_, rfl⟩
        have HIs := Lib.hid his
        rw [his]
        clear hF his hb6 HA5 HX5 E5 HFn
        go_wp2_with (refine wpList_alloc_row rfl _ rfl _ Try.slotZero ?_)
        apply Stop.go; intro w7 Hg7 Hb7
        go_wp2_with (refine wpList_store_arr rfl _ _ _ rfl _ #[.int .i64 fa, .string ft, .int .i64 fc] rfl rfl _ _ Hb7.out Try.slotSize rfl (by simp [Value.oneCell']) ?_)
        apply Stop.go; intro w8 Ho8 Hb8
        have D8 := Lib.hid (bonly Hg7.out.1 Ho8.out (Nat.le_refl _))
        have HA8 := Lib.hid (HA6.out.ext D8.out)
        have HX8 := Lib.hid (HX6.out.ext D8.out)
        have E8 := Lib.hid (bt E6.out D8.out)
        generalize w6.heap.size = g6 at *
        clear Hg7 Hb7 Ho8 D8 HA6 HX6 E6
        go_wp2_with (refine wpList_slice_arr_all rfl _ _ rfl 256 _ Try.underlying25 Try.byteSize w.heap.size rfl (by omega) ?_)
        refine (HFz.out _ _ (RB.of_blk0 HA8.out)).mono ?_; rintro e w9 ⟨rfl, hb9⟩
        have HA9 := Lib.hid (HA8.out.ext hb9)
        have HX9 := Lib.hid (HX8.out.ext hb9)
        have HS9 := Lib.hid (Hb8.out.ext hb9)
        have E9 := Lib.hid (bt E8.out hb9)
        have dN : ((m : Int) != (m : Int)) = false := by simp
        have z9 := Lib.hid (show w.heap.size < w9.heap.size from HA9.out.lt)
        clear hb9 HA8 HX8 Hb8 E8 HFz
        cases hfs : findS b s with
        | none =>
          have HZ := Lib.hid (findZ_none hfs)
          have hq := HF.out
          rw [fndC_no hfs] at hq
          injection hq with hq
          injection hq with q1 hq
          injection hq with q2 hq
          injection hq with q3 _
          injection q1 with _ q1
          injection q2 with q2
          injection q3 with _ q3
          subst q1; subst q2; subst q3
          have hi := HIs.out
          rw [hfs] at hi
          obtain rfl : is = false := hi.symm
          rw [HZ.out]
          clear hfs hi HF HIs
          go_wp2_with (first | refine wpList_load_blk rfl _ _ rfl _ rfl _ _ HS9.out _ Try.underlying43 rfl Try.slotSize ?_ | refine wpList_eql_stop rfl .neq _ _ _ _ rfl (by kernel_rfl) _ _ rfl rfl _ (neq_slot_same 0 0 ⟨#[]⟩ _) ?_)
          apply Stop.go
          go_upto_region 22 with fail
          have HAy := HA9
          have HXy := HX9
          have Ey := E9
          have zy := z9
          clear HS9 HA9 HX9 E9 z9
          go_wp2_with (refine wpList_load_arr rfl _ _ rfl _ rfl _ _ HXy.out _ _ Try.underlying26 (Try.blockFits HbL.out) ?_)
          refine (HRm.out _).mono ?_; rintro e wa ⟨rfl, hba⟩
          have HAa := Lib.hid (HAy.out.ext hba)
          have HXa := Lib.hid (HXy.out.ext hba)
          have Ea := Lib.hid (bt Ey.out hba)
          clear hba HAy HXy Ey HRm zy
          go_wp2_with (refine wpList_slice_arr_all rfl _ _ rfl 256 _ Try.underlying25 Try.byteSize w.heap.size rfl (by omega) ?_)
          refine (HRz.out _ _ (RB.of_blk0 HAa.out)).mono ?_; rintro e wb ⟨rfl, hbb⟩
          have HAb := Lib.hid (HAa.out.ext hbb)
          have HXb := Lib.hid (HXa.out.ext hbb)
          have Eb := Lib.hid (bt Ea.out hbb)
          clear hbb HAa HXa Ea HRz
          obtain ⟨rm, hrm⟩ : ∃ r, (roomS b).isSome = r := ⟨_, rfl⟩
          obtain ⟨rv, hrv⟩ : ∃ r, roomV b = r := ⟨_, rfl⟩
          obtain ⟨rz, hrz⟩ : ∃ r, roomZ b = r := ⟨_, rfl⟩
          have HRo := Lib.hid (show decide (0 ≤ rz) = rm ∧ (if rz < 0 then 0 else rz) = (rv : Int) by
            rw [← hrm, ← hrv, ← hrz]
            unfold roomV
            cases h : roomS b with
            | none => rw [roomZ_none h]; decide
            | some p =>
              rw [roomZ_some h, if_neg (by omega)]
              exact ⟨decide_eq_true (by omega), rfl⟩)
          rw [hrm, hrv, hrz]
          clear hrm hrv hrz
          go_wp2_with (refine wpList_load_arr rfl _ _ rfl _ rfl _ _ HXb.out _ _ Try.underlying26 (Try.blockFits HbL.out) ?_)
          refine (HFx.out _).mono ?_; rintro e wc ⟨rfl, hbc⟩
          have HAc := Lib.hid (HAb.out.ext hbc)
          have HXc := Lib.hid (HXb.out.ext hbc)
          have Ec := Lib.hid (bt Eb.out hbc)
          have zc := Lib.hid (show w.heap.size < wc.heap.size ∧ g1 < wc.heap.size from ⟨HAc.out.lt, HXc.out.lt⟩)
          obtain ⟨Y, hY⟩ : ∃ Y, fixS b 7 = Y := ⟨_, rfl⟩
          rw [hY] at HYL HXz ⊢
          clear hbc HAb HXb Eb HFx hY
          go_wp2_with (refine wpList_alloc_row rfl _ rfl _ Try.blockZero ?_)
          apply Stop.go; intro wd Hgd Hbd
          go_wp2_with (refine wpList_store_arr rfl _ _ _ rfl _ _ rfl rfl _ _ Hbd.out (Try.blockFits HYL.out) (by rw [bcells_size, bcells_size, HYL.out, HzL.out]) (oneCell_bcells _) ?_)
          apply Stop.go; intro we Hoe Hbe
          have De := Lib.hid (bonly Hgd.out.1 Hoe.out (Nat.le_refl _))
          have HAe := Lib.hid (HAc.out.ext De.out)
          have HXe := Lib.hid (HXc.out.ext De.out)
          have Ee := Lib.hid (bt Ec.out De.out)
          generalize wc.heap.size = gc at *
          clear Hgd Hbd Hoe De HAc HXc Ec
          have x1 := HRo.out.1
          have x2 := HRo.out.2
          have x3 : (rm == rm) = true := by simp
          have x4 : ((rv : Int) == (rv : Int)) = true := by simp
          obtain ⟨rt, hrt⟩ : ∃ r, rightS b = r := ⟨_, rfl⟩
          rw [hrt] at HRt HTz
          have x5 : (rt == rt) = true := by simp
          clear hrt HRo
          go_wp2_with fail
          refine WH.start (S := fun w' : World => Blk w' w.heap.size 25 (bcells b) ∧ Blk w' g1 26 (bcells b) ∧ Blk w' gc 26 (bcells Y)) [false, false, false, false, false, false, false, false, false, false, false, false, false, false, false, false, false, false, false, false, false, false, false, false, false, false, false] 27 rfl rfl (by kernel_rfl) ⟨HAe.out.ext (bdrew we 1), HXe.out.ext (bdrew we 1), Hbe.out.ext (bdrew we 1)⟩ (fun hSn => ?_); obtain ⟨wT, hwS⟩ : ∃ x, (we).drew = x := ⟨_, rfl⟩; have HE := Lib.hid (show Below (we).heap.size (we) wT from hwS ▸ bdrew we 1); rw [hwS] at hSn ⊢; clear hwS
          refine WH.tk 0 ?_; simp only [setL]
          refine WH.tk 1 ?_; simp only [setL]
          refine WH.tk 2 ?_; simp only [setL]
          refine WH.tk 3 ?_; simp only [setL]
          refine WH.tk 4 ?_; simp only [setL]
          refine WH.tk 5 ?_; simp only [setL]
          refine WH.tk 6 ?_; simp only [setL]
          refine WH.tk 7 ?_; simp only [setL]
          refine WH.tk 8 ?_; simp only [setL]
          refine WH.tk 9 ?_; simp only [setL]
          refine WH.tk 10 ?_; simp only [setL]
          refine WH.tv 11 rfl (fun w' hSw => exec_load_blk _ _ rfl _ rfl _ _ (hSw.2.1) _ (Try.underlying26) rfl (Try.blockFits HbL.out)) ?_; simp only [setL]
          refine WH.tv 13 rfl (fun w' hSw => exec_slice_all _ _ rfl 256 _ Try.underlying25 Try.byteSize w.heap.size rfl (by decide)) ?_; simp only [setL]
          refine WH.only 12 _ rfl (by kernel_rfl) rfl (fun K hK => ?_)
          go_simp; refine (HRt.out _).mono ?_; rintro e wf ⟨rfl, hbf⟩; go_simp
          have HE := Lib.hid (bt HE.out hbf)
          have hSn := And.intro (hSn.1.ext hbf) (And.intro (hSn.2.1.ext hbf) (hSn.2.2.ext hbf)); refine hK _ _ hSn ?_; clear hK; clear K; simp only [setL]
          refine WH.only 14 _ rfl (by kernel_rfl) rfl (fun K hK => ?_)
          go_simp; refine (HTz.out _ _ (RB.of_blk0 hSn.1)).mono ?_; rintro e wg ⟨rfl, hbg⟩; go_simp
          have HE := Lib.hid (bt HE.out hbg)
          have hSn := And.intro (hSn.1.ext hbg) (And.intro (hSn.2.1.ext hbg) (hSn.2.2.ext hbg)); refine hK _ _ hSn ?_; clear hK; clear K; simp only [setL]
          refine WH.tk 15 ?_; simp only [setL]
          refine WH.tk 16 ?_; simp only [setL]
          refine WH.tk 17 ?_; simp only [setL]
          refine WH.tv 18 rfl (fun w' hSw => exec_slice_all _ _ rfl 256 _ Try.underlying26 Try.byteSize gc rfl (by decide)) ?_; simp only [setL]
          refine WH.tv 19 rfl (fun w' hSw => exec_slice_all _ _ rfl 256 _ Try.underlying25 Try.byteSize w.heap.size rfl (by decide)) ?_; simp only [setL]
          refine WH.only 20 _ rfl (by kernel_rfl) rfl (fun K hK => ?_)
          go_simp; refine (HXz.out _ _ (RB.of_blk0 hSn.1)).mono ?_; rintro e wh ⟨Ah, nh, ch, rfl, hlh, hch, hmh, hrh, hbh⟩; go_simp
          obtain rfl : nh = 256 := by rw [← hlh, HYL.out]
          have HE := Lib.hid (bt HE.out hbh)
          have HRh := Lib.hid hrh
          clear hlh hch hmh hrh
          have hSn := And.intro (hSn.1.ext hbh) (And.intro (hSn.2.1.ext hbh) (hSn.2.2.ext hbh)); refine hK _ _ hSn ?_; clear hK; clear K; simp only [setL]
          refine WH.only 21 _ rfl (by kernel_rfl) rfl (fun K hK => ?_)
          go_simp; refine (same_any _ 256 _ Y HYL.out _ 256 _ Y HYL.out (by unfold maxLen; omega) (by unfold maxLen; omega) _ (RB.of_blk0 hSn.2.2) HRh.out).mono ?_; rintro e wi ⟨rfl, ki, rfl⟩; go_simp
          have HE := Lib.hid (bt HE.out (bdrew wh ki))
          have hSn := And.intro (hSn.1.ext (bdrew wh ki)) (And.intro (hSn.2.1.ext (bdrew wh ki)) (hSn.2.2.ext (bdrew wh ki))); refine hK _ _ hSn ?_; clear hK; clear K; simp only [setL]
          refine WH.tk 22 ?_; simp only [setL]
          refine WH.tk 23 ?_; simp only [setL]
          refine WH.only 24 _ rfl (by kernel_rfl) rfl (fun K hK => ?_)
          go_simp; refine (works18_any _).mono ?_; rintro e wj ⟨rfl, hbj⟩; go_simp
          have HE := Lib.hid (bt HE.out hbj)
          have hSn := And.intro (hSn.1.ext hbj) (And.intro (hSn.2.1.ext hbj) (hSn.2.2.ext hbj)); refine hK _ _ hSn ?_; clear hK; clear K; simp only [setL]
          refine WH.tk 25 ?_; simp only [setL]
          refine WH.tk 26 ?_; simp only [setL]
          refine WH.done (by kernel_rfl) ?_
          go_wp2_with fail
          go_ret
          exact ⟨rfl, bt Ee.out HE.out⟩
        | some p =>
          have HZ := Lib.hid (findZ_some hfs)
          obtain ⟨e, hep, _, hp7⟩ := findS_ent hfs
          have hq := HF.out
          rw [fndC_at hfs hep] at hq
          injection hq with hq
          injection hq with q1 hq
          injection hq with q2 hq
          injection hq with q3 _
          injection q1 with _ q1
          injection q2 with q2
          injection q3 with _ q3
          subst q1; subst q2; subst q3
          have hi := HIs.out
          rw [hfs] at hi
          obtain rfl : is = true := hi.symm
          have HEp := Lib.hid hep
          have c0 : w9.cell? ⟨g6, 0, none⟩ = some (.int .i64 (p : Int)) := HS9.out.cell 0
          have f7 : ((p : Int) != (p : Int)) = false := by simp
          have f8 : decide ((0 : Int) ≤ (p : Int)) = true := decide_eq_true (by omega)
          rw [HZ.out]
          clear hfs hi HF HIs hep
          go_upto_region 19 with fail
          go_wp2_with (refine wpList_slice_arr_all rfl _ _ rfl 256 _ Try.underlying25 Try.byteSize w.heap.size rfl (by omega) ?_)
          refine (HRd.out _ _ p hp7 (RB.of_blk0 HA9.out)).mono ?_; rintro e wx ⟨rfl, hbx⟩
          rw [HEp.out]
          have HAx := Lib.hid (HA9.out.ext hbx)
          have HXx := Lib.hid (HX9.out.ext hbx)
          have HSx := Lib.hid (HS9.out.ext hbx)
          have Ex := Lib.hid (bt E9.out hbx)
          have zx := Lib.hid (show w.heap.size < wx.heap.size from HAx.out.lt)
          clear hbx HA9 HX9 HS9 E9 c0
          go_wp2_with (refine wpList_alloc_row rfl _ rfl _ Try.entZero ?_)
          apply Stop.go; intro wv Hgv Hbv
          go_wp2_with (refine wpList_store_arr rfl _ _ _ rfl _ (ecells (entV (some e))) rfl rfl _ _ Hbv.out Try.entSize rfl (by simp [ecells, Value.oneCell']) ?_)
          apply Stop.go; intro wu Hou Hbu
          have Du := Lib.hid (bonly Hgv.out.1 Hou.out (Nat.le_refl _))
          have HAy := Lib.hid (HAx.out.ext Du.out)
          have HXy := Lib.hid (HXx.out.ext Du.out)
          have HSy := Lib.hid (HSx.out.ext Du.out)
          have Ey := Lib.hid (bt Ex.out Du.out)
          have Hbu : Hid (Blk wu wx.heap.size 39 #[.string e.name, .int .i64 e.ino]) := Hbu
          have zy := zx
          generalize wx.heap.size = gx at *
          clear Hgv Hbv Hou Du HAx HXx HSx Ex zx
          have HC1 := Lib.hid (show ∀ j v, [Value.string e.name, Value.int .i64 e.ino][j]? = some v → wu.cell? ((⟨g6, 1, none⟩ : Addr).add j) = some v from fun j v hj => by
            match j, hj with
            | 0, hj => injection hj with hj; subst hj; exact HSy.out.cell 1
            | 1, hj => injection hj with hj; subst hj; exact HSy.out.cell 2)
          go_wp2_with (first | refine wpList_load_blk rfl _ _ rfl _ rfl _ _ Hbu.out _ Try.underlying39 rfl Try.entSize ?_ | refine wpList_load_cells rfl _ _ rfl ⟨g6, 1, none⟩ rfl _ Try.underlying39 [.string e.name, .int .i64 e.ino] Try.entSize HC1.out ?_ | refine wpList_eql_stop rfl .neq _ _ _ _ rfl (by kernel_rfl) _ _ rfl rfl _ (neq_ent_same e.ino e.name _) ?_)
          apply Stop.go
          go_upto_region 22 with fail
          clear HSy Hbu HC1 HEp
          go_wp2_with (refine wpList_load_arr rfl _ _ rfl _ rfl _ _ HXy.out _ _ Try.underlying26 (Try.blockFits HbL.out) ?_)
          refine (HRm.out _).mono ?_; rintro e wa ⟨rfl, hba⟩
          have HAa := Lib.hid (HAy.out.ext hba)
          have HXa := Lib.hid (HXy.out.ext hba)
          have Ea := Lib.hid (bt Ey.out hba)
          clear hba HAy HXy Ey HRm zy
          go_wp2_with (refine wpList_slice_arr_all rfl _ _ rfl 256 _ Try.underlying25 Try.byteSize w.heap.size rfl (by omega) ?_)
          refine (HRz.out _ _ (RB.of_blk0 HAa.out)).mono ?_; rintro e wb ⟨rfl, hbb⟩
          have HAb := Lib.hid (HAa.out.ext hbb)
          have HXb := Lib.hid (HXa.out.ext hbb)
          have Eb := Lib.hid (bt Ea.out hbb)
          clear hbb HAa HXa Ea HRz
          obtain ⟨rm, hrm⟩ : ∃ r, (roomS b).isSome = r := ⟨_, rfl⟩
          obtain ⟨rv, hrv⟩ : ∃ r, roomV b = r := ⟨_, rfl⟩
          obtain ⟨rz, hrz⟩ : ∃ r, roomZ b = r := ⟨_, rfl⟩
          have HRo := Lib.hid (show decide (0 ≤ rz) = rm ∧ (if rz < 0 then 0 else rz) = (rv : Int) by
            rw [← hrm, ← hrv, ← hrz]
            unfold roomV
            cases h : roomS b with
            | none => rw [roomZ_none h]; decide
            | some p =>
              rw [roomZ_some h, if_neg (by omega)]
              exact ⟨decide_eq_true (by omega), rfl⟩)
          rw [hrm, hrv, hrz]
          clear hrm hrv hrz
          go_wp2_with (refine wpList_load_arr rfl _ _ rfl _ rfl _ _ HXb.out _ _ Try.underlying26 (Try.blockFits HbL.out) ?_)
          refine (HFx.out _).mono ?_; rintro e wc ⟨rfl, hbc⟩
          have HAc := Lib.hid (HAb.out.ext hbc)
          have HXc := Lib.hid (HXb.out.ext hbc)
          have Ec := Lib.hid (bt Eb.out hbc)
          have zc := Lib.hid (show w.heap.size < wc.heap.size ∧ g1 < wc.heap.size from ⟨HAc.out.lt, HXc.out.lt⟩)
          obtain ⟨Y, hY⟩ : ∃ Y, fixS b 7 = Y := ⟨_, rfl⟩
          rw [hY] at HYL HXz ⊢
          clear hbc HAb HXb Eb HFx hY
          go_wp2_with (refine wpList_alloc_row rfl _ rfl _ Try.blockZero ?_)
          apply Stop.go; intro wd Hgd Hbd
          go_wp2_with (refine wpList_store_arr rfl _ _ _ rfl _ _ rfl rfl _ _ Hbd.out (Try.blockFits HYL.out) (by rw [bcells_size, bcells_size, HYL.out, HzL.out]) (oneCell_bcells _) ?_)
          apply Stop.go; intro we Hoe Hbe
          have De := Lib.hid (bonly Hgd.out.1 Hoe.out (Nat.le_refl _))
          have HAe := Lib.hid (HAc.out.ext De.out)
          have HXe := Lib.hid (HXc.out.ext De.out)
          have Ee := Lib.hid (bt Ec.out De.out)
          generalize wc.heap.size = gc at *
          clear Hgd Hbd Hoe De HAc HXc Ec
          have x1 := HRo.out.1
          have x2 := HRo.out.2
          have x3 : (rm == rm) = true := by simp
          have x4 : ((rv : Int) == (rv : Int)) = true := by simp
          obtain ⟨rt, hrt⟩ : ∃ r, rightS b = r := ⟨_, rfl⟩
          rw [hrt] at HRt HTz
          have x5 : (rt == rt) = true := by simp
          clear hrt HRo
          go_wp2_with fail
          refine WH.start (S := fun w' : World => Blk w' w.heap.size 25 (bcells b) ∧ Blk w' g1 26 (bcells b) ∧ Blk w' gc 26 (bcells Y)) [false, false, false, false, false, false, false, false, false, false, false, false, false, false, false, false, false, false, false, false, false, false, false, false, false, false, false] 27 rfl rfl (by kernel_rfl) ⟨HAe.out.ext (bdrew we 1), HXe.out.ext (bdrew we 1), Hbe.out.ext (bdrew we 1)⟩ (fun hSn => ?_); obtain ⟨wT, hwS⟩ : ∃ x, (we).drew = x := ⟨_, rfl⟩; have HE := Lib.hid (show Below (we).heap.size (we) wT from hwS ▸ bdrew we 1); rw [hwS] at hSn ⊢; clear hwS
          refine WH.tk 0 ?_; simp only [setL]
          refine WH.tk 1 ?_; simp only [setL]
          refine WH.tk 2 ?_; simp only [setL]
          refine WH.tk 3 ?_; simp only [setL]
          refine WH.tk 4 ?_; simp only [setL]
          refine WH.tk 5 ?_; simp only [setL]
          refine WH.tk 6 ?_; simp only [setL]
          refine WH.tk 7 ?_; simp only [setL]
          refine WH.tk 8 ?_; simp only [setL]
          refine WH.tk 9 ?_; simp only [setL]
          refine WH.tk 10 ?_; simp only [setL]
          refine WH.tv 11 rfl (fun w' hSw => exec_load_blk _ _ rfl _ rfl _ _ (hSw.2.1) _ (Try.underlying26) rfl (Try.blockFits HbL.out)) ?_; simp only [setL]
          refine WH.tv 13 rfl (fun w' hSw => exec_slice_all _ _ rfl 256 _ Try.underlying25 Try.byteSize w.heap.size rfl (by decide)) ?_; simp only [setL]
          refine WH.only 12 _ rfl (by kernel_rfl) rfl (fun K hK => ?_)
          go_simp; refine (HRt.out _).mono ?_; rintro e wf ⟨rfl, hbf⟩; go_simp
          have HE := Lib.hid (bt HE.out hbf)
          have hSn := And.intro (hSn.1.ext hbf) (And.intro (hSn.2.1.ext hbf) (hSn.2.2.ext hbf)); refine hK _ _ hSn ?_; clear hK; clear K; simp only [setL]
          refine WH.only 14 _ rfl (by kernel_rfl) rfl (fun K hK => ?_)
          go_simp; refine (HTz.out _ _ (RB.of_blk0 hSn.1)).mono ?_; rintro e wg ⟨rfl, hbg⟩; go_simp
          have HE := Lib.hid (bt HE.out hbg)
          have hSn := And.intro (hSn.1.ext hbg) (And.intro (hSn.2.1.ext hbg) (hSn.2.2.ext hbg)); refine hK _ _ hSn ?_; clear hK; clear K; simp only [setL]
          refine WH.tk 15 ?_; simp only [setL]
          refine WH.tk 16 ?_; simp only [setL]
          refine WH.tk 17 ?_; simp only [setL]
          refine WH.tv 18 rfl (fun w' hSw => exec_slice_all _ _ rfl 256 _ Try.underlying26 Try.byteSize gc rfl (by decide)) ?_; simp only [setL]
          refine WH.tv 19 rfl (fun w' hSw => exec_slice_all _ _ rfl 256 _ Try.underlying25 Try.byteSize w.heap.size rfl (by decide)) ?_; simp only [setL]
          refine WH.only 20 _ rfl (by kernel_rfl) rfl (fun K hK => ?_)
          go_simp; refine (HXz.out _ _ (RB.of_blk0 hSn.1)).mono ?_; rintro e wh ⟨Ah, nh, ch, rfl, hlh, hch, hmh, hrh, hbh⟩; go_simp
          obtain rfl : nh = 256 := by rw [← hlh, HYL.out]
          have HE := Lib.hid (bt HE.out hbh)
          have HRh := Lib.hid hrh
          clear hlh hch hmh hrh
          have hSn := And.intro (hSn.1.ext hbh) (And.intro (hSn.2.1.ext hbh) (hSn.2.2.ext hbh)); refine hK _ _ hSn ?_; clear hK; clear K; simp only [setL]
          refine WH.only 21 _ rfl (by kernel_rfl) rfl (fun K hK => ?_)
          go_simp; refine (same_any _ 256 _ Y HYL.out _ 256 _ Y HYL.out (by unfold maxLen; omega) (by unfold maxLen; omega) _ (RB.of_blk0 hSn.2.2) HRh.out).mono ?_; rintro e wi ⟨rfl, ki, rfl⟩; go_simp
          have HE := Lib.hid (bt HE.out (bdrew wh ki))
          have hSn := And.intro (hSn.1.ext (bdrew wh ki)) (And.intro (hSn.2.1.ext (bdrew wh ki)) (hSn.2.2.ext (bdrew wh ki))); refine hK _ _ hSn ?_; clear hK; clear K; simp only [setL]
          refine WH.tk 22 ?_; simp only [setL]
          refine WH.tk 23 ?_; simp only [setL]
          refine WH.only 24 _ rfl (by kernel_rfl) rfl (fun K hK => ?_)
          go_simp; refine (works18_any _).mono ?_; rintro e wj ⟨rfl, hbj⟩; go_simp
          have HE := Lib.hid (bt HE.out hbj)
          have hSn := And.intro (hSn.1.ext hbj) (And.intro (hSn.2.1.ext hbj) (hSn.2.2.ext hbj)); refine hK _ _ hSn ?_; clear hK; clear K; simp only [setL]
          refine WH.tk 25 ?_; simp only [setL]
          refine WH.tk 26 ?_; simp only [setL]
          refine WH.done (by kernel_rfl) ?_
          go_wp2_with fail
          go_ret
          exact ⟨rfl, bt Ee.out HE.out⟩

end Go.Proofs.Ytmojappbgghpbaa
