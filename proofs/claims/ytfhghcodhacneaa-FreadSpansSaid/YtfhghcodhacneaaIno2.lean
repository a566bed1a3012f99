/-
  The contract of inode's Put.
-/
import Derived.Test.YtfhghcodhacneaaIno1
import Derived.Test.YtfhghcodhacneaaHeldT
namespace Go.Proofs.Ytfhghcodhacneaa
open Go.RowKit
set_option maxRecDepth 10000

/-- The bytes that Put tells. -/
def outI (l : List Int) : List UInt8 := if mayI l then putI l else zeros 32
theorem outI_len {l : List Int} (h : l.length = 11) : (outI l).length = 32 := by
  unfold outI
  split
  · exact putI_len h
  · exact zeros_len _

/-- What Put has: the inode, the result's cell, the block in the making. -/
structure PutI (w w' : World) (l : List Int) (g0 g2 g5 : Nat) (X : List UInt8) : Prop where
  lo : w.heap.size ≤ g0 ∧ g0 < g2 ∧ g2 < g5
  ino : Blk w' g0 42 (icells l)
  res : Blk w' g2 80 (bcells (zeros 32))
  b : Blk w' g5 52 (bcells X)
  len : X.length = 256
  bel : Below w.heap.size w w'
theorem PutI.ext {w w' w'' : World} {l : List Int} {g0 g2 g5 : Nat} {X : List UInt8} (h : PutI w w' l g0 g2 g5 X) (e : Below w'.heap.size w' w'') : PutI w w'' l g0 g2 g5 X :=
  ⟨h.lo, h.ino.ext e, h.res.ext e, h.b.ext e, h.len, bt h.bel e⟩
theorem PutI.put {w w' w'' : World} {l : List Int} {g0 g2 g5 : Nat} {X Y : List UInt8} (h : PutI w w' l g0 g2 g5 X) (o : Only w' w'' g5) (b : Blk w'' g5 52 (bcells Y)) (hY : Y.length = 256) : PutI w w'' l g0 g2 g5 Y :=
  ⟨h.lo, h.ino.only o (by have := h.lo; omega), h.res.only o (by have := h.lo; omega), b, hY, bonly h.bel o (by have := h.lo; omega)⟩
theorem wrap_short {n : Int} (h : 0 ≤ n ∧ n ≤ 65535) : IntKind.u64.wrap n = (n.toNat : Nat) ∧ n.toNat < 18446744073709551616 := by
  refine ⟨?_, by omega⟩
  rw [IntWalk.u64_in _ (by omega)]
  omega
set_option maxHeartbeats 3200000 in
theorem putI_any (l : List Int) (hl : l.length = 11) (w : World) :
    Calls Try.prog 49 #[.agg (icells l)] w fun e w' => e = .returned (.tuple #[.agg (bcells (outI l)), .int .i64 (okArg (mayI l))]) ∧ Below w.heap.size w w' := by
  obtain ⟨b, Hm⟩ : ∃ b, Hid (mayI l = b) := ⟨_, Lib.hid rfl⟩
  have HB := Lib.hid (show outI l = if b then putI l else zeros 32 by unfold outI; rw [Hm.out])
  have HzL : Hid ((zeros 32).length = 32) := Lib.hid (zeros_len _)
  have Hz2 : Hid ((zeros 256).length = 256) := Lib.hid (zeros_len _)
  have HPL := Lib.hid (putI_len hl)
  have HL := Lib.hid hl
  go_enter Try.func49, Try.ntmps49
  go_wp2_with (refine wpList_box_row rfl _ _ rfl _ rfl ?_)
  apply Stop.go; intro w1 Hg1 Hb1
  go_wp2_with (refine wpList_alloc_row rfl _ rfl _ Try.b32Zero ?_)
  apply Stop.go; intro w2 Hg2 Hb2
  have z1 := Lib.hid Hg1.out.2
  have z2 := Lib.hid Hg2.out.2
  have Hl2 := Lib.hid (Hb1.out.below Hg2.out.1 (by rw [z1.out]; omega))
  go_wp2_with (refine wpList_load_blk rfl _ _ rfl _ rfl _ _ Hl2.out _ Try.underlying42 rfl (Try.inoFits HL.out) ?_)
  refine (checkI_any l hl _).mono ?_; rintro e w3 ⟨rfl, hb3⟩
  have Hl3 := Lib.hid (Hl2.out.ext hb3)
  have Hz3 := Lib.hid (Hb2.out.ext hb3)
  have Hbel3 := Lib.hid (bt (bt Hg1.out.1 Hg2.out.1) hb3)
  have HO := Lib.hid (show w.heap.size < w1.heap.size ∧ w1.heap.size < w3.heap.size by have := z1.out; have := z2.out; have := hb3.size; omega)
  clear hb3 Hl2 Hb1 Hb2 Hg1 Hg2 z1 z2
  generalize w1.heap.size = g2 at *
  rw [Hm.out]
  cases b
  · rw [show okArg false = 1 from rfl]
    have HB0 : Hid (outI l = zeros 32) := HB
    go_wp2_with (first | refine wpList_build_zero rfl _ rfl _ Try.b32Zero _ _ Try.underlying80 Try.byteSize ?_ | refine wpList_store_arr rfl _ _ _ rfl _ _ rfl rfl _ _ Hz3.out (Try.b32Fits HzL.out) (by simp only [bcells_size, HzL.out]) (oneCell_bcells _) ?_)
    apply Stop.go; intro w4 Ho4 Hb4
    go_wp2_with ((with_reducible show bodyPost _ _ _ _ _ _); refine bodyPost_cell_tmp rfl _ rfl _ _ Hb4.out _ _ Try.underlying80 (Try.b32Fits HzL.out) rfl _ rfl ?_)
    apply Stop.go
    rw [HB0.out, Hm.out]
    exact ⟨⟨rfl, rfl⟩, bonly Hbel3.out Ho4.out (by have := HO.out; omega)⟩
  · rw [show okArg true = 0 from rfl]
    have HB1 : Hid (outI l = putI l) := HB
    obtain ⟨i0, i1, i2, i3, i4⟩ := mayI_in hl Hm.out
    have W0 := Lib.hid (wrap_short (n := fld l 0) (by omega))
    have W1 := Lib.hid (wrap_short i1)
    have W2 := Lib.hid (wrap_short (n := fld l 2) (by omega))
    have W3 := Lib.hid (wrap_short i3)
    have WN := Lib.hid (fun k (hk : k < 7) => wrap_short (i4 k hk))
    clear i0 i1 i2 i3 i4
    obtain ⟨X0, X1, X2, hX0, hX1, hX2, hX3, hL0, hL1, hL2⟩ := put_allI hl
    have HX0 := Lib.hid hX0
    have HX1 := Lib.hid hX1
    have HX2 := Lib.hid hX2
    have HX3 := Lib.hid hX3
    have HL0 := Lib.hid hL0
    have HL1 := Lib.hid hL1
    have HL2 := Lib.hid hL2
    have HL3 := Lib.hid (walkI_len hl 0 (by omega))
    clear hX0 hX1 hX2 hX3 hL0 hL1 hL2
    have c0 := Hl3.out.fld 0 (by rw [hl]; omega)
    go_wp2_with (refine wpList_build_zero rfl _ rfl _ Try.blockZero _ _ Try.underlying52 Try.byteSize ?_)
    refine (nwith_any (zeros 256) Hz2.out _ _ _ _ W0.out.1 W0.out.2 _).mono ?_; rintro e w4 ⟨rfl, hb4⟩
    rw [HX0.out]
    clear c0
    go_wp2_with (refine wpList_alloc_row rfl _ rfl _ Try.blockZero ?_)
    apply Stop.go; intro w5 Hg5 Hb5
    go_wp2_with (refine wpList_store_arr rfl _ _ _ rfl _ _ rfl rfl _ _ Hb5.out (Try.blockFits HL0.out) (by rw [bcells_size, bcells_size, HL0.out, Hz2.out]) (oneCell_bcells _) ?_)
    apply Stop.go; intro w6 Ho6 Hb6
    have hs4 := hb4.size
    have H6 : Hid (PutI w w6 l w.heap.size g2 w4.heap.size X0) := Lib.hid ⟨⟨Nat.le_refl _, HO.out.1, by have := HO.out.2; omega⟩, ((Hl3.out.ext hb4).ext Hg5.out.1).only Ho6.out (by have := HO.out; omega), ((Hz3.out.ext hb4).ext Hg5.out.1).only Ho6.out (by have := HO.out; omega), Hb6.out, HL0.out, bonly (bt (bt Hbel3.out hb4) Hg5.out.1) Ho6.out (by have := HO.out; omega)⟩
    generalize w4.heap.size = g5 at *
    clear Hb5 Hg5 Ho6 Hb6 hb4 hs4 Hl3 Hz3 Hbel3
    have B6 := Lib.hid H6.out.b
    have c1 := H6.out.ino.fld 1 (by rw [hl]; omega)
    go_wp2_with (refine wpList_load_arr rfl _ _ rfl _ rfl _ _ B6.out _ _ Try.underlying52 (Try.blockFits HL0.out) ?_)
    refine (nwith_any X0 HL0.out _ _ _ _ W1.out.1 W1.out.2 _).mono ?_; rintro e w7 ⟨rfl, hb7⟩
    rw [HX1.out]
    have H7 := Lib.hid (H6.out.ext hb7)
    have B7 := Lib.hid H7.out.b
    clear hb7 c1 B6 H6
    go_wp2_with (refine wpList_store_arr rfl _ _ _ rfl _ _ rfl rfl _ _ B7.out (Try.blockFits HL1.out) (by rw [bcells_size, bcells_size, HL1.out, HL0.out]) (oneCell_bcells _) ?_)
    apply Stop.go; intro w8 Ho8 Hb8
    have H8 := Lib.hid (H7.out.put Ho8.out Hb8.out HL1.out)
    have B8 := Lib.hid H8.out.b
    have c2 := H8.out.ino.fld 2 (by rw [hl]; omega)
    clear Ho8 Hb8 H7 B7
    go_wp2_with (refine wpList_load_arr rfl _ _ rfl _ rfl _ _ B8.out _ _ Try.underlying52 (Try.blockFits HL1.out) ?_)
    refine (nwith_any X1 HL1.out _ _ _ _ W2.out.1 W2.out.2 _).mono ?_; rintro e w9 ⟨rfl, hb9⟩
    rw [HX2.out]
    have H9 := Lib.hid (H8.out.ext hb9)
    have B9 := Lib.hid H9.out.b
    clear hb9 c2 B8 H8
    go_wp2_with (refine wpList_store_arr rfl _ _ _ rfl _ _ rfl rfl _ _ B9.out (Try.blockFits HL2.out) (by rw [bcells_size, bcells_size, HL2.out, HL1.out]) (oneCell_bcells _) ?_)
    apply Stop.go; intro w10 Ho10 Hb10
    have H10 := Lib.hid (H9.out.put Ho10.out Hb10.out HL2.out)
    have B10 := Lib.hid H10.out.b
    have c3 := H10.out.ino.fld 3 (by rw [hl]; omega)
    clear Ho10 Hb10 H9 B9
    go_wp2_with (refine wpList_load_arr rfl _ _ rfl _ rfl _ _ B10.out _ _ Try.underlying52 (Try.blockFits HL2.out) ?_)
    refine (nwith_any X2 HL2.out _ _ _ _ W3.out.1 W3.out.2 _).mono ?_; rintro e w11 ⟨rfl, hb11⟩
    rw [HX3.out]
    have H11 := Lib.hid (H10.out.ext hb11)
    have B11 := Lib.hid H11.out.b
    clear hb11 c3 B10 H10 HX0 HX1 HX2 HX3 HL0 HL1
    go_wp2_with (refine wpList_store_arr rfl _ _ _ rfl _ _ rfl rfl _ _ B11.out (Try.blockFits HL3.out) (by rw [bcells_size, bcells_size, HL3.out, HL2.out]) (oneCell_bcells _) ?_)
    apply Stop.go; intro w12 Ho12 Hb12
    have H12 := Lib.hid (H11.out.put Ho12.out Hb12.out HL3.out)
    have I12 := Lib.hid H12.out.ino
    clear Ho12 Hb12 H11 B11 W0 W1 W2 W3 HL2
    go_wp2_with (refine wpList_load_blk rfl _ _ rfl _ rfl _ _ I12.out _ Try.underlying42 rfl (Try.inoFits HL.out) ?_)
    refine (numbers_any l hl _).mono ?_; rintro e w13 ⟨rfl, hb13⟩
    have H13 := Lib.hid (H12.out.ext hb13)
    clear hb13 H12 I12 HL3 HO
    have HLW := Lib.hid (fun k (hk : k ≤ 7) => walkI_len hl k hk)
    have HST := Lib.hid (fun k (hk : k < 7) => walkI_step hl k hk)
    have HWE := Lib.hid (walkI_end hl)
    have HNL := Lib.hid (nums_len hl)
    go_wp2_with fail
    go_loopw [6, 7, 33] (fun _ _ i wr => ∃ k : Nat, k ≤ 7 ∧ i = .int .i64 k ∧ Hid (PutI w wr l w.heap.size g2 g5 (walkI l k))) (fun _ _ i _ => 7 - (intOf i).toNat)
    case atStart => exact ⟨0, Nat.zero_le _, rfl, H13⟩
    case round =>
      obtain ⟨k, hk, rfl, HP⟩ := hrel
      by_cases hlt : k < 7
      · have HLk := Lib.hid (HLW.out k (by omega))
        have HLn := Lib.hid (HLW.out (k + 1) (by omega))
        have hsk := HST.out k hlt
        rw [show ((10 + 2 * k : Nat) : Int) = 10 + 2 * (k : Int) from by omega] at hsk
        have HSk := Lib.hid hsk
        clear hsk
        have HWk := Lib.hid (WN.out k hlt)
        have d0 : decide ((k : Int) < 7) = true := by simp; omega
        clear HWE HLW HST WN
        go_wp2_with (refine wpList_index_ints rfl _ _ _ rfl _ _ Try.underlying96 Try.underlying3 Try.numSize (nums l) rfl _ _ rfl k rfl hlt (by rw [HNL.out]; exact hlt) ?_)
        have HB0 := Lib.hid HP.out.b
        refine WT.start 5 (S := fun w' : World => Blk w' g5 52 (bcells (walkI l k))) [false, false, false, false, false, false] 6 rfl rfl (by kernel_rfl) (HB0.out.ext (bdrew wr 1)) (fun hSn => ?_); obtain ⟨wS, hwS⟩ : ∃ x, (wr).drew = x := ⟨_, rfl⟩; have HE := Lib.hid (show Below (wr).heap.size (wr) wS from hwS ▸ bdrew wr 1); rw [hwS] at hSn ⊢; clear hwS
        refine WT.tv 0 rfl (fun w' hSw => run_load_arr _ _ rfl _ rfl _ _ hSw _ _ Try.underlying52 (Try.blockFits HLk.out)) ?_; simp only [setL]
        refine WT.tk 1 ?_; simp only [setL]
        refine WT.tk 3 ?_; simp only [setL]
        refine WT.only 2 _ rfl (by kernel_rfl) rfl (fun K hK => ?_)
        go_simp; refine (numberAt_any k (by omega) _).mono ?_; rintro e wa ⟨rfl, rfl⟩; go_simp
        have hSn := hSn; refine hK _ _ hSn ?_; clear hK; clear K; simp only [setL]
        refine WT.only 4 _ rfl (by kernel_rfl) rfl (fun K hK => ?_)
        go_simp; refine (nwith_any (walkI l k) HLk.out _ _ _ _ HWk.out.1 HWk.out.2 _).mono ?_; rintro e wa ⟨rfl, hba⟩; go_simp
        rw [HSk.out]
        have HE := Lib.hid (bt HE.out hba)
        have HPa := Lib.hid (HP.out.ext HE.out)
        have hSn := HPa.out.b; refine hK _ _ hSn ?_; clear hK; clear K; simp only [setL]
        refine WT.last _ rfl (by kernel_rfl) rfl (fun K hK => ?_)
        refine ow_store _ _ _ rfl _ _ rfl rfl _ _ hSn (Try.blockFits HLn.out) (by rw [bcells_size, bcells_size, HLn.out, HLk.out]) (oneCell_bcells _) ?_
        apply Stop.go; intro wb Hob Hbb
        have HPb := Lib.hid (HPa.out.put Hob.out Hbb.out HLn.out)
        refine hK _ _ ?_; clear hK; clear K; simp only [setL]; refine WT.done (by kernel_rfl) ?_
        clear HPa HP HB0 HE hSn Hob Hbb
        go_wp2_with fail
        go_roundw
        case rel => exact ⟨k + 1, by omega, by go_num, HPb⟩
        case measure => simp [intOf]; omega
      · obtain rfl : k = 7 := by omega
        have HL7 := Lib.hid (HLW.out 7 (by omega))
        have d0 : decide ((7 : Int) < 7) = false := by simp
        clear HLW HST WN
        go_wp2_with (refine wpList_alloc_row rfl _ rfl _ Try.b32Zero ?_)
        apply Stop.go; intro wa Hga Hba
        have HPa := Lib.hid (HP.out.ext Hga.out.1)
        have B7 := Lib.hid HPa.out.b
        have HS0 := Lib.hid (show w.heap.size ≤ wr.heap.size from HP.out.bel.size)
        have HN5 := Lib.hid (show g2 < wr.heap.size from HP.out.res.lt)
        generalize wr.heap.size = g8 at *
        clear HP Hga
        go_wp2_with fail
        refine WT.start 2 (S := fun w' : World => Blk w' g8 80 (bcells (zeros 32))) [false, false, false] 3 rfl rfl (by kernel_rfl) (Hba.out.ext (bdrew wa 1)) (fun hSn => ?_); obtain ⟨wS, hwS⟩ : ∃ x, (wa).drew = x := ⟨_, rfl⟩; have HE := Lib.hid (show Below (wa).heap.size (wa) wS from hwS ▸ bdrew wa 1); rw [hwS] at hSn ⊢; clear hwS
        refine WT.tv 0 rfl (fun w' hSw => exec_slice_all _ _ rfl 32 _ Try.underlying80 Try.byteSize g8 rfl (by decide)) ?_; simp only [setL]
        refine WT.tv 1 rfl (fun w' hSw => exec_slice_all _ _ rfl 256 _ Try.underlying52 Try.byteSize g5 rfl (by decide)) ?_; simp only [setL]
        refine WT.last _ rfl (by kernel_rfl) rfl (fun K hK => ?_)
        refine ow_copy _ _ _ _ rfl _ Try.underlying44 Try.byteSize g8 0 32 32 (zeros 32) _ rfl hSn (by rw [HzL.out]; omega) _ 256 256 (walkI l 7) rfl HL7.out (RB.of_blk0 (B7.out.ext HE.out)) ?_
        apply Stop.go; intro wb Hob Hbb
        have HCb := Lib.hid (show Blk wb g8 80 (bcells (putI l)) by
          have h := Hbb.out
          rw [HWE.out, splice_all _ _ (by rw [HPL.out, HzL.out])] at h
          exact h)
        have HRb := Lib.hid ((HPa.out.res.ext HE.out).only Hob.out (by have := HN5.out; omega))
        have HEb := Lib.hid (bonly (bt HPa.out.bel HE.out) Hob.out HS0.out)
        have HG2 := Lib.hid (show w.heap.size ≤ g2 from Nat.le_trans HPa.out.lo.1 (Nat.le_of_lt HPa.out.lo.2.1))
        refine hK _ _ ?_; clear hK; clear K; simp only [setL]; refine WT.done (by kernel_rfl) ?_
        clear HPa B7 Hob Hbb HE hSn Hba HWE HL7
        go_wp2_with (first | refine wpList_load_arr rfl _ _ rfl _ rfl _ _ HCb.out _ _ Try.underlying80 (Try.b32Fits HPL.out) ?_ | refine wpList_store_arr rfl _ _ _ rfl _ _ rfl rfl _ _ HRb.out (Try.b32Fits HPL.out) (by simp only [bcells_size, HPL.out, HzL.out]) (oneCell_bcells _) ?_)
        apply Stop.go; intro wc Hoc Hbc
        go_wp2_with ((with_reducible show bodyPost _ _ _ _ _ _); refine bodyPost_cell_tmp rfl _ rfl _ _ Hbc.out _ _ Try.underlying80 (Try.b32Fits HPL.out) rfl _ rfl ?_)
        apply Stop.go
        rw [HB1.out, Hm.out]
        exact ⟨⟨rfl, rfl⟩, bonly HEb.out Hoc.out HG2.out⟩

end Go.Proofs.Ytfhghcodhacneaa
