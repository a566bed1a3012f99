/-
  Whatever the arguments of NumApart are, it answers true and leaves them. No condition.
-/
import Derived.Test.YtpegdcgpohdhnaaLaw01b
import Derived.Stop.BytesEq
namespace Go.Proofs.Ytpegdcgpohdhnaa
open Go.ChangeShapes Go.WideShapes Go.ChangeAt Go.RowKit

theorem layL_fit (L : List UInt8) (p : Nat) (l : List UInt8) (hp : p < 256) (h : p + l.length ≤ 256) : layL L p l = splice L p l := by
  unfold layL isPlaceB
  rw [if_pos (by simp; omega), Int.toNat_natCast, List.take_of_length_le (by omega)]
theorem splice_comm (L : List UInt8) (p : Nat) (d : List UInt8) (q : Nat) (c : List UInt8) (h1 : p + d.length ≤ q) (h2 : q + c.length ≤ L.length) :
    splice (splice L p d) q c = splice (splice L q c) p d := by
  have l1 := splice_len L p d (by omega)
  have l2 := splice_len L q c (by omega)
  apply List.ext_getElem?
  intro i
  rw [splice_get _ _ _ (by omega), splice_get _ _ _ (by omega), splice_get _ _ _ (by omega), splice_get _ _ _ (by omega)]
  by_cases a : q ≤ i ∧ i < q + c.length
  · rw [if_pos a, if_neg (by omega), if_pos a]
  · rw [if_neg a]
    by_cases b : p ≤ i ∧ i < p + d.length
    · rw [if_pos b, if_pos b]
    · rw [if_neg b, if_neg b, if_neg a]
theorem cutL_splice (L : List UInt8) (p : Nat) (d : List UInt8) (hp : p < 256) (h : p + d.length ≤ L.length) (hd : 1 ≤ d.length) : cutL (splice L p d) p d.length = d := by
  unfold cutL isPlaceB
  rw [if_pos (by simp; omega), Int.toNat_natCast, Int.toNat_natCast, splice_cut L p d h]

theorem Try.blockGuard : Try.prog.eqGuardType Try.prog.depth 34 = false := by kernel_rfl
set_option maxHeartbeats 1000000 in
theorem numApart_any (L : List UInt8) (hL : L.length = 256) (A0 : Option Addr) (n0 c0 : Nat) (l0 : List UInt8) (h0 : l0.length = n0) (m0 : n0 ≤ 281474976710656) (A1 : Option Addr) (n1 c1 : Nat) (l1 : List UInt8) (h1 : l1.length = n1) (m1 : n1 ≤ 281474976710656)
    (gap : Nat) (hg : gap < 256) (w : World) (r0 : RB w A0 l0) (r1 : RB w A1 l1) :
    Calls Try.prog 6 #[.agg (bcells L), .agg #[.slice A0 n0 c0, .slice A1 n1 c1], .int .u8 gap] w fun e w' => e = .returned (.bool true) ∧ Below w.heap.size w w' := by
  have HL := Lib.hid hL
  have H0 := Lib.hid h0
  have H1 := Lib.hid h1
  by_cases hs : n0 = 0 ∨ n1 = 0 ∨ 200 < n0 + n1
  · clear hL h0 h1
    have E2 : Hid (n0 ≠ 0 → n1 ≠ 0 → decide ((200 : Int) < n0 + n1) = true) := Lib.hid (fun a b => by simp; omega)
    by_cases z0 : n0 = 0
    · have e0 : ((n0 : Int) == 0) = true := by simp; omega
      clear hs z0
      go_enter Try.func6, Try.ntmps6
      go_wp2_with (refine wpList_box_row rfl _ _ rfl _ rfl ?_)
      apply Stop.go; intro w1 Hg1 Hb1
      go_wp2_with fail
      have Hg2 := Lib.hid (Grew.alloc w1 (.cells #[.slice A0 n0 c0, .slice A1 n1 c1] 49))
      have Hs2 := Lib.hid (Blk.new w1 49 #[.slice A0 n0 c0, .slice A1 n1 c1])
      generalize w1.alloc (.cells #[.slice A0 n0 c0, .slice A1 n1 c1] 49) = w2 at *
      have k0 := Hs2.out.cell 0
      have k1 := Hs2.out.cell 1
      go_quiet (fail)
      have Hw3 := Lib.hid (bt (bt Hg1.out.1 Hg2.out.1) (bdrew w2 nq))
      generalize w2.drewN nq = w3 at *
      go_wp2_with fail
      refine (works01_any _).mono ?_; rintro e w16 ⟨rfl, hb16⟩
      have Hw16 := Lib.hid (bt Hw3.out hb16)
      clear hb16
      go_wp2_with fail
      go_ret
      exact ⟨rfl, Hw16.out⟩
    · by_cases z1 : n1 = 0
      · have e0 : ((n0 : Int) == 0) = false := by simp; omega
        have e1 : ((n1 : Int) == 0) = true := by simp; omega
        clear hs z0 z1
        go_enter Try.func6, Try.ntmps6
        go_wp2_with (refine wpList_box_row rfl _ _ rfl _ rfl ?_)
        apply Stop.go; intro w1 Hg1 Hb1
        go_wp2_with fail
        have Hg2 := Lib.hid (Grew.alloc w1 (.cells #[.slice A0 n0 c0, .slice A1 n1 c1] 49))
        have Hs2 := Lib.hid (Blk.new w1 49 #[.slice A0 n0 c0, .slice A1 n1 c1])
        generalize w1.alloc (.cells #[.slice A0 n0 c0, .slice A1 n1 c1] 49) = w2 at *
        have k0 := Hs2.out.cell 0
        have k1 := Hs2.out.cell 1
        go_quiet (fail)
        have Hw3 := Lib.hid (bt (bt Hg1.out.1 Hg2.out.1) (bdrew w2 nq))
        generalize w2.drewN nq = w3 at *
        go_wp2_with fail
        refine (works01_any _).mono ?_; rintro e w16 ⟨rfl, hb16⟩
        have Hw16 := Lib.hid (bt Hw3.out hb16)
        clear hb16
        go_wp2_with fail
        go_ret
        exact ⟨rfl, Hw16.out⟩
      · have e0 : ((n0 : Int) == 0) = false := by simp; omega
        have e1 : ((n1 : Int) == 0) = false := by simp; omega
        have e2 := E2.out z0 z1
        clear hs z0 z1
        go_enter Try.func6, Try.ntmps6
        go_wp2_with (refine wpList_box_row rfl _ _ rfl _ rfl ?_)
        apply Stop.go; intro w1 Hg1 Hb1
        go_wp2_with fail
        have Hg2 := Lib.hid (Grew.alloc w1 (.cells #[.slice A0 n0 c0, .slice A1 n1 c1] 49))
        have Hs2 := Lib.hid (Blk.new w1 49 #[.slice A0 n0 c0, .slice A1 n1 c1])
        generalize w1.alloc (.cells #[.slice A0 n0 c0, .slice A1 n1 c1] 49) = w2 at *
        have k0 := Hs2.out.cell 0
        have k1 := Hs2.out.cell 1
        go_quiet (fail)
        have Hw3 := Lib.hid (bt (bt Hg1.out.1 Hg2.out.1) (bdrew w2 nq))
        generalize w2.drewN nq = w3 at *
        go_wp2_with fail
        refine (works01_any _).mono ?_; rintro e w16 ⟨rfl, hb16⟩
        have Hw16 := Lib.hid (bt Hw3.out hb16)
        clear hb16
        go_wp2_with fail
        go_ret
        exact ⟨rfl, Hw16.out⟩
  · have e0 : ((n0 : Int) == 0) = false := by simp; omega
    have e1 : ((n1 : Int) == 0) = false := by simp; omega
    have e2 : decide ((200 : Int) < n0 + n1) = false := by simp; omega
    obtain ⟨G, hG⟩ : ∃ G : Nat, (gap : Int) % 56 = G := ⟨gap % 56, by omega⟩
    have hG2 : G < 56 := by omega
    have Hat := Lib.hid (show n0 + G + n1 ≤ 255 by omega)
    clear hL h0 h1
    go_enter Try.func6, Try.ntmps6
    go_wp2_with (refine wpList_box_row rfl _ _ rfl _ rfl ?_)
    apply Stop.go; intro w1 Hg1 Hb1
    go_wp2_with fail
    have Hg2 := Lib.hid (Grew.alloc w1 (.cells #[.slice A0 n0 c0, .slice A1 n1 c1] 49))
    have Hb2 := Lib.hid (Hb1.out.below Hg2.out.1 (by rw [Hg1.out.2]; omega))
    have Hs2 := Lib.hid (Blk.new w1 49 #[.slice A0 n0 c0, .slice A1 n1 c1])
    generalize w1.alloc (.cells #[.slice A0 n0 c0, .slice A1 n1 c1] 49) = w2 at *
    have k0 := Hs2.out.cell 0
    have k1 := Hs2.out.cell 1
    go_quiet (fail)
    have Hg3 := Lib.hid (bdrew w2 nq)
    have Hb3 := Lib.hid (Hb2.out.ext Hg3.out)
    have Hw3 := Lib.hid (bt (bt Hg1.out.1 Hg2.out.1) Hg3.out)
    generalize w2.drewN nq = w3 at *
    have x0 : Hid (layL L 0 l0 = splice L 0 l0) := Lib.hid (layL_fit L 0 l0 (by omega) (by rw [H0.out]; omega))
    have y0 : Hid (layL L ((n0 : Int) + G) l1 = splice L (n0 + G) l1) := Lib.hid (layL_fit L (n0 + G) l1 (by omega) (by rw [H1.out]; omega))
    have sl0 : Hid ((splice L 0 l0).length = 256) := Lib.hid (by rw [splice_len _ _ _ (by rw [H0.out, HL.out]; omega), HL.out])
    have sl1 : Hid ((splice L (n0 + G) l1).length = 256) := Lib.hid (by rw [splice_len _ _ _ (by rw [H1.out, HL.out]; omega), HL.out])
    have x1 : Hid (layL (splice L 0 l0) ((n0 : Int) + G) l1 = splice (splice L 0 l0) (n0 + G) l1) := Lib.hid (layL_fit _ (n0 + G) l1 (by omega) (by rw [H1.out]; omega))
    have y1 : Hid (layL (splice L (n0 + G) l1) 0 l0 = splice (splice L 0 l0) (n0 + G) l1) := Lib.hid (by
      rw [show (0 : Int) = ((0 : Nat) : Int) from rfl, layL_fit _ 0 l0 (by omega) (by rw [H0.out]; omega)]
      exact (splice_comm L 0 l0 (n0 + G) l1 (by rw [H0.out]; omega) (by rw [H1.out, HL.out]; omega)).symm)
    have xl : Hid ((splice (splice L 0 l0) (n0 + G) l1).length = 256) := Lib.hid (by rw [splice_len _ _ _ (by rw [sl0.out, H1.out]; omega), sl0.out])
    have cut1 : Hid (cutL (splice (splice L 0 l0) (n0 + G) l1) ((n0 : Int) + G) (n1 : Nat) = l1) := Lib.hid (by
      have := cutL_splice (splice L 0 l0) (n0 + G) l1 (by omega) (by rw [sl0.out, H1.out]; omega) (by rw [H1.out]; omega)
      rwa [H1.out] at this)
    have cut0 : Hid (cutL (splice (splice L 0 l0) (n0 + G) l1) 0 (n0 : Nat) = l0) := Lib.hid (by
      rw [splice_comm L 0 l0 (n0 + G) l1 (by rw [H0.out]; omega) (by rw [H1.out, HL.out]; omega)]
      have := cutL_splice (splice L (n0 + G) l1) 0 l0 (by omega) (by rw [sl1.out, H0.out]; omega) (by rw [H0.out]; omega)
      rwa [H0.out] at this)
    generalize hX : splice (splice L 0 l0) (n0 + G) l1 = X at *
    clear hX
    go_wp2_with (refine wpList_load_arr rfl _ _ rfl _ rfl _ _ Hb3.out _ _ Try.underlying32 (Try.arr256Fits HL.out) ?_)
    refine (lay_any L HL.out _ _ _ _ l0 H0.out _ (r0.below Hw3.out)).mono ?_; rintro e w4 ⟨rfl, hb4⟩
    rw [x0.out]
    have Hb4 := Lib.hid hb4
    clear hb4
    go_wp2_with fail
    refine (lay_any _ sl0.out _ _ _ _ l1 H1.out _ (r1.below (bt Hw3.out Hb4.out))).mono ?_; rintro e w5 ⟨rfl, hb5⟩
    rw [x1.out]
    have Hw5 := Lib.hid (bt (bt Hw3.out Hb4.out) hb5)
    have Hb5 := Lib.hid ((Hb3.out.ext Hb4.out).ext hb5)
    clear hb5
    go_wp2_with (refine wpList_alloc_row rfl _ rfl _ Try.blockZero ?_)
    apply Stop.go; intro w6 Hg6 Hc6
    go_wp2_with (refine wpList_store_arr rfl _ _ _ rfl _ _ rfl rfl _ _ Hc6.out (Try.blockFits xl.out) (by rw [bcells_size, bcells_size, xl.out, zeros_len]) (oneCell_bcells _) ?_)
    apply Stop.go; intro w7 Ho7 Hc7
    have Hw7 := Lib.hid (bonly (bt Hw5.out Hg6.out.1) Ho7.out Hw5.out.size)
    have Hb7 := Lib.hid ((Hb5.out.ext Hg6.out.1).only Ho7.out (Nat.ne_of_lt Hb5.out.lt))
    go_wp2_with (refine wpList_load_arr rfl _ _ rfl _ rfl _ _ Hb7.out _ _ Try.underlying32 (Try.arr256Fits HL.out) ?_)
    refine (lay_any L HL.out _ _ _ _ l1 H1.out _ (r1.below Hw7.out)).mono ?_; rintro e w8 ⟨rfl, hb8⟩
    rw [y0.out]
    have Hb8 := Lib.hid hb8
    clear hb8
    go_wp2_with fail
    refine (lay_any _ sl1.out _ _ _ _ l0 H0.out _ (r0.below (bt Hw7.out Hb8.out))).mono ?_; rintro e w9 ⟨rfl, hb9⟩
    rw [y1.out]
    have Hw9 := Lib.hid (bt (bt Hw7.out Hb8.out) hb9)
    have Hc9 := Lib.hid ((Hc7.out.ext Hb8.out).ext hb9)
    clear hb9
    go_wp2_with (refine wpList_alloc_row rfl _ rfl _ Try.blockZero ?_)
    apply Stop.go; intro w10 Hg10 Hd10
    have Hc10 := Lib.hid (Hc9.out.ext Hg10.out.1)
    go_wp2_with (refine wpList_store_arr rfl _ _ _ rfl _ _ rfl rfl _ _ Hd10.out (Try.blockFits xl.out) (by rw [bcells_size, bcells_size, xl.out, zeros_len]) (oneCell_bcells _) ?_)
    apply Stop.go; intro w11 Ho11 Hd11
    have Hw11 := Lib.hid (bonly (bt Hw9.out Hg10.out.1) Ho11.out Hw9.out.size)
    have Hc11 := Lib.hid (Hc10.out.only Ho11.out (Nat.ne_of_lt Hc9.out.lt))
    go_wp2_with (first | refine wpList_load_arr rfl _ _ rfl _ rfl _ _ Hc11.out _ _ Try.underlying34 (Try.blockFits xl.out) ?_ | refine wpList_load_arr rfl _ _ rfl _ rfl _ _ Hd11.out _ _ Try.underlying34 (Try.blockFits xl.out) ?_ | refine wpList_eql_arr rfl _ _ _ _ rfl Try.blockGuard _ _ Try.underlying34 Try.underlying5 Try.byteSize X X rfl rfl xl.out xl.out true (by simp) ?_)
    refine (cut_any X xl.out _ _ _).mono ?_; rintro e w12 ⟨A2, n2, c2, rfl, hl2, hc2, hm2, hr2, hb2⟩
    rw [cut0.out] at hl2 hr2
    have Hl2 := Lib.hid hl2
    have Hr2 := Lib.hid hr2
    have Hm2 := Lib.hid (Nat.le_trans hc2 hm2)
    have Hw12 := Lib.hid (bt Hw11.out hb2)
    have Hc12 := Lib.hid (Hc11.out.ext hb2)
    clear hl2 hr2 hb2 hm2
    go_wp2_with fail
    refine (same_any _ _ _ l0 Hl2.out _ _ _ l0 H0.out Hm2.out (by unfold maxLen; omega) _ Hr2.out (r0.below Hw12.out)).mono ?_; rintro e w13 ⟨rfl, k13, rfl⟩
    have Hw13 := Lib.hid (bt Hw12.out (bdrew w12 k13))
    have Hc13 := Lib.hid (Hc12.out.ext (bdrew w12 k13))
    generalize w12.drewN k13 = w13 at *
    go_wp2_with (refine wpList_load_arr rfl _ _ rfl _ rfl _ _ Hc13.out _ _ Try.underlying34 (Try.blockFits xl.out) ?_)
    refine (cut_any X xl.out _ _ _).mono ?_; rintro e w14 ⟨A3, n3, c3, rfl, hl2, hc3, hm2, hr2, hb2⟩
    rw [cut1.out] at hl2 hr2
    have Hl3 := Lib.hid hl2
    have Hr3 := Lib.hid hr2
    have Hm3 := Lib.hid (Nat.le_trans hc3 hm2)
    have Hw14 := Lib.hid (bt Hw13.out hb2)
    clear hl2 hr2 hb2 hm2
    go_wp2_with fail
    refine (same_any _ _ _ l1 Hl3.out _ _ _ l1 H1.out Hm3.out (by unfold maxLen; omega) _ Hr3.out (r1.below Hw14.out)).mono ?_; rintro e w15 ⟨rfl, k15, rfl⟩
    have Hw15 := Lib.hid (bt Hw14.out (bdrew w14 k15))
    generalize w14.drewN k15 = w15 at *
    go_wp2_with fail
    refine (works01_any _).mono ?_; rintro e w16 ⟨rfl, hb16⟩
    have Hw16 := Lib.hid (bt Hw15.out hb16)
    clear hb16
    go_wp2_with fail
    go_ret
    exact ⟨rfl, Hw16.out⟩

set_option maxRecDepth 100000 in
theorem numApart_lifted (os : Os) (started : os.Started) (H : Type) (enc : TypeId × Value → H) :
    ReturnsInHanded {} Try.checked os 6 .any (Rows.numApartSpec.pre6 enc Try.prog Try.f6 Rows.numApartRow.domain false) (Rows.numApartSpec.post enc Try.prog Try.f6 false true false false) := by
  refine returnsInHanded_of_change_sized (C := Try.checked) Try.own started (by kernel_rfl) Try.func6 (ChangeSpec.witness6 (enc := enc) (C := Try.checked) false ⟨#[], #[.agg (bcells (zeros 256)), .agg #[.slice none 0 0, .slice none 0 0], .int .u8 0], []⟩ 8 (by kernel_rfl) (by kernel_rfl) (by kernel_rfl) (by kernel_rfl)) ?_; intro W base args ds gs before hval0 hW hcnd hsz0 _; have hval : ∀ (j : Nat) t v, Try.f6.params[j]? = some t → args[j]? = some v → Value.okWide Try.prog W .any base t v := hval0; have hsz : (DataW.weightsEach Try.prog (Try.f6.params.toList ++ Rows.numApartSpec.plain.varTypes Try.prog) (ds ++ gs)).all (· ≤ reachBytes) = true := hsz0; have hW' := hW; obtain ⟨p, q, hA0, hV, rfl, hfz, hnd⟩ := hW; have hA : DataW.TrodAll enc Try.prog W 0 (fun _ => true) true Try.f6.params.toList args.toList ds p := hA0; rw [Try.params6] at hA hval hsz; obtain ⟨v0, v1, v2, d0, d1, d2, p0, p1, p2, rfl, rfl, rfl, h0, h1, h2⟩ := trodAll_three hA; obtain ⟨rfl, rfl⟩ := trodVars_none hV; clear hA0 hval0 hsz0
  obtain ⟨L, rfl, hL⟩ := open_byte_array Try.underlying32 Try.underlying5 (by kernel_rfl) (by kernel_rfl) (hval 0 _ v0 rfl rfl) h0
  obtain ⟨A0, n0, c0, l0, A1, n1, c1, l1, x0, x1, rfl, rfl, ⟨hl0, _, _, hr0, hx0⟩, ⟨hl1, _, _, hr1, hx1⟩⟩ := open_bytes2 Try.underlying49 Try.underlying22 Try.underlying5 (by kernel_rfl) (by kernel_rfl) (by kernel_rfl) (hval 1 _ v1 rfl rfl) h1
  obtain ⟨v, rfl, rfl, rfl, wv⟩ := open_int Try.underlying5 (hval 2 _ v2 rfl rfl) h2
  have wv' := bounds_u8 wv
  obtain ⟨V, rfl⟩ := Int.eq_ofNat_of_zero_le wv'.1
  have hrb : reachBytes ≤ 281474976710656 := by decide
  have hby : Try.prog.bytesOf 5 = 1 := by kernel_rfl
  have m0 : n0 ≤ 281474976710656 := by
    rcases hx0 with ⟨_, h⟩ | ⟨es, sp, rfl, h⟩
    · omega
    · have := List.all_eq_true.1 hsz ((es.length + sp.length) * Try.prog.bytesOf 5) (DataW.weights_mem_each (j := 1) (t := 49) rfl rfl _ (by simp [DataW.weights, DataW.weightsAll, DataW.weightsEach, Try.underlying49, Try.underlying22]))
      rw [hby] at this
      simp at this
      omega
  have m1 : n1 ≤ 281474976710656 := by
    rcases hx1 with ⟨_, h⟩ | ⟨es, sp, rfl, h⟩
    · omega
    · have := List.all_eq_true.1 hsz ((es.length + sp.length) * Try.prog.bytesOf 5) (DataW.weights_mem_each (j := 1) (t := 49) rfl rfl _ (by simp [DataW.weights, DataW.weightsAll, DataW.weightsEach, Try.underlying49, Try.underlying22]))
      rw [hby] at this
      simp at this
      omega
  refine (numApart_any L hL A0 n0 c0 l0 hl0 m0 A1 n1 c1 l1 hl1 m1 V (by omega) W hr0 hr1).mono fun e W' ⟨he, hb⟩ => ?_
  subst he
  exact ⟨_, rfl, law_post Try.laidOut (by rw [Try.params6]; intro t ht; simp at ht; rcases ht with rfl | rfl | rfl <;> exact ⟨by kernel_rfl, of_decide_eq_true (by kernel_rfl)⟩) rfl rfl Try.underlying4 rfl hW' hb⟩

theorem numApart_holds : Rows.NumApartSaid := OpenClaim.holds_of_wide 6 Try.f6 rfl rfl rfl rfl rfl rfl rfl ⟨rfl, rfl, rfl, rfl, rfl⟩ rfl rfl rfl rfl rfl (by kernel_rfl) Try.func6 (by kernel_rfl) (of_decide_eq_true (by kernel_rfl)) (by unfold Func.isWrapper; first | (rw [if_pos (by decide +kernel)]; kernel_rfl) | (rw [if_neg (by decide +kernel)]; exact ⟨rfl, rfl⟩)) (fun os started H enc _ => numApart_lifted os started H enc)

end Go.Proofs.Ytpegdcgpohdhnaa
