/-
  The contract of the document's Upto.
-/
import Derived.Test.YtpmbpklbiocclaaGreatRef12b
import Derived.Test.YtpmbpklbiocclaaGreatGrAD
import Derived.Deep.LoopGhost
namespace Go.Proofs.YtpmbpklbiocclaaGreat
open Go.RowKit

theorem DC.flush_last (x : DC) (no : Int) : (x.flush no).last = x.last := by
  unfold DC.flush
  split
  · rfl
  · split <;> rfl
theorem DC.flush_fuse {x : DC} (no : Int) (h : x.fuse < 9223372036854775808) : (x.flush no).fuse < 9223372036854775808 := by
  unfold DC.flush
  split
  · exact h
  · split
    · exact h
    · show (if 0 < x.fuse then x.fuse - 1 else x.fuse) < _
      split <;> omega
theorem DC.flush_less2 {x : DC} (hk : x.Ok) {c : Cg} {t : List Cg} (hl : x.list = c :: t) (hE : x.flushE c.block = 0) : (x.flush c.block).list.length < x.list.length := by
  have := DC.flush_less hk hl hE
  rw [hl]
  simp only [List.length_cons]
  omega
def DCM (p : Nat → Prop) (w : World) (g : Nat) (y : DC) (Ab : Option Addr) (nb cb : Nat) (Al : Option Addr) (nl cl : Nat) (Ak : Option Addr) (nk ck : Nat) : Prop := Blk w g 32 #[.slice Ab nb cb, .slice Al nl cl, .int .i64 ((y).last : Int), .int .i64 (y).fuse, .bool (y).off, .int .i64 ((y).wrote : Int), .slice Ak nk ck] ∧ DCQ p w y Ab nb cb Al nl cl Ak nk ck
set_option maxRecDepth 100000 in
set_option maxHeartbeats 8000000 in
theorem upto12_any (p : Nat → Prop) (x : DC) (Ab : Option Addr) (nb cb : Nat) (Al : Option Addr) (nl cl : Nat) (Ak : Option Addr) (nk ck : Nat) (id : Int) (w : World) (hp : ∀ q, w.heap.size ≤ q → p q) (h : DCQ p w x Ab nb cb Al nl cl Ak nk ck) (hok : x.Ok) (hlast : x.last ≤ 1000) (hfu : x.fuse < 9223372036854775808) :
    Calls Tryz.prog 56 #[.agg #[.slice Ab nb cb, .slice Al nl cl, .int .i64 ((x).last : Int), .int .i64 (x).fuse, .bool (x).off, .int .i64 ((x).wrote : Int), .slice Ak nk ck], .int .i64 id] w (RetDE p w (x.upto id).1 (x.upto id).2) := by
  have H := Lib.hid h
  have HP := Lib.hid hp
  have HOk := Lib.hid hok
  have HF0 := Lib.hid hfu
  have HL0 := Lib.hid hlast
  clear h hok hfu hlast hp
  go_enter Tryz.func56, Tryz.ntmps56
  go_wp2_with (refine wpList_box_row rfl _ _ rfl _ rfl ?_)
  apply Stop.go; intro w1 Hg1 Hb1
  go_wp2_with (refine wpList_alloc_row rfl _ rfl _ Tryz.dcZero ?_)
  apply Stop.go; intro w2 Hg2 Hb2
  have Hb12 := Lib.hid (Hb1.out.ext Hg2.out.1)
  have Hw2 := Lib.hid (bt Hg1.out.1 Hg2.out.1)
  have HS := Lib.hid (show w1.heap.size = w.heap.size + 1 ∧ w2.heap.size = w1.heap.size + 1 from ⟨Hg1.out.2, Hg2.out.2⟩)
  have HV := Lib.hid (show DCM (fun q => p q ∧ q ≠ w.heap.size ∧ q ≠ w1.heap.size) w2 w.heap.size x Ab nb cb Al nl cl Ak nk ck from ⟨Hb12.out, (H.out.mono (fun q hq hpq => ⟨hpq, by have := HS.out; omega⟩)).below Hw2.out⟩)
  obtain ⟨g4, hg4⟩ : ∃ q, q = w1.heap.size := ⟨_, rfl⟩
  rw [← hg4] at Hb2 HS HV ⊢
  have Z := Lib.hid (show g4 = w.heap.size + 1 ∧ g4 < w2.heap.size from by have := HS.out; omega)
  obtain ⟨pp, hpp⟩ : ∃ pp : Nat → Prop, (fun q => p q ∧ q ≠ w.heap.size ∧ q ≠ g4) = pp := ⟨_, rfl⟩
  have HPP := Lib.hid (show ∀ q, pp q ↔ (p q ∧ q ≠ w.heap.size ∧ q ≠ g4) from fun q => by rw [← hpp])
  rw [hpp] at HV
  clear Hg1 Hg2 Hb1 Hb12 hg4 H HS hpp
  go_wp2_with fail
  go_loopg [] (x.list.length) (fun gh wr => ∃ (y : DC) (Ab1 : Option Addr) (nb1 cb1 : Nat) (Al1 : Option Addr) (nl1 cl1 : Nat) (Ak1 : Option Addr) (nk1 ck1 : Nat), DCM pp wr w.heap.size y Ab1 nb1 cb1 Al1 nl1 cl1 Ak1 nk1 ck1 ∧ Blk wr g4 32 #[.slice none 0 0, .slice none 0 0, .int .i64 0, .int .i64 0, .bool false, .int .i64 0, .slice none 0 0] ∧ Below w.heap.size w wr ∧ Hid (g4 < wr.heap.size) ∧ Hid y.Ok ∧ Hid (y.upto id = x.upto id) ∧ Hid (y.last = x.last) ∧ Hid (y.fuse < 9223372036854775808) ∧ y.list.length ≤ gh)
  case atStart => exact ⟨x, _, _, _, _, _, _, _, _, _, HV.out, Hb2.out, Hw2.out, Lib.hid Z.out.2, HOk, Lib.hid rfl, Lib.hid rfl, HF0, Nat.le_refl _⟩
  case round =>
    obtain ⟨y, Ab1, nb1, cb1, Al1, nl1, cl1, Ak1, nk1, ck1, ⟨hc, hv⟩, hz, hbw, HG, HY, HU, HLx, HFu, hgl⟩ := hrel
    have C := Lib.hid hc
    have V := Lib.hid hv
    have Zr := Lib.hid hz
    have W := Lib.hid hbw
    have HGL := Lib.hid hgl
    clear hc hv hz hbw hgl HV Hb2 Hw2
    have c1 := C.out.seven.2.1
    by_cases hnl : nl1 = 0
    · have hl0 : y.list = [] := List.eq_nil_of_length_eq_zero (by rw [V.out.v.hnl, hnl])
      have d0 : decide (0 < nl1) = false := decide_eq_false (by omega)
      have HX := Lib.hid (show x.upto id = (y, 0) from by rw [← HU.out]; exact DC.upto_end (fun c t h => by rw [hl0] at h; cases h))
      clear hl0 hnl
      go_wp2_with (first | refine wpList_load_blk rfl _ _ rfl _ rfl _ _ C.out _ Tryz.underlying32 rfl Tryz.dcSize ?_ | refine wpList_store_arr rfl _ _ _ rfl _ #[.slice Ab1 nb1 cb1, .slice Al1 nl1 cl1, .int .i64 ((y).last : Int), .int .i64 (y).fuse, .bool (y).off, .int .i64 ((y).wrote : Int), .slice Ak1 nk1 ck1] rfl rfl _ _ Zr.out Tryz.dcSize rfl (by simp [Value.oneCell']) ?_); apply Stop.go; intro w4 Ho4 Hb4
      go_wp2_with ((with_reducible show bodyPost _ _ _ _ _ _); refine bodyPost_struct_tmp rfl _ rfl _ _ Hb4.out _ Tryz.underlying32 rfl Tryz.dcSize rfl _ rfl ?_); apply Stop.go
      rw [HX.out]
      have hw4 := bonly W.out Ho4.out (by have := Z.out; omega)
      exact ⟨_, _, _, _, _, _, _, _, _, rfl, (V.out.only Ho4.out (fun h => ((HPP.out _).1 h).2.2 rfl)).mono (fun q _ h => ((HPP.out _).1 h).1), hw4⟩
    · have hln : 0 < y.list.length := by have := V.out.v.hnl; omega
      obtain ⟨c, t, hct⟩ : ∃ c t, y.list = c :: t := by
        cases hq : y.list with
        | nil => rw [hq] at hln; cases hln
        | cons c t => exact ⟨c, t, rfl⟩
      have HCT := Lib.hid hct
      obtain ⟨ad, Ad, nd, cd, An, nn, cn, rfl, hcv, h0, h1, h2, h3, h4⟩ := V.out.v.list.cg hln
      have e0 : y.list[0] = c := by simp only [hct, List.getElem_cons_zero]
      rw [e0] at hcv h0 h1
      have z0 : 0 < nl1 := by omega
      have d0 : decide (0 < nl1) = true := decide_eq_true (by omega)
      have ea : ad.add (0 * 5) = ad := by simp [Addr.add]
      rw [ea] at h0 h1
      have k1 := cell_fld h0 h1
      have K1 := Lib.hid k1
      clear hct e0 h1 h2 h3 h4 hcv hln hnl ea
      by_cases hci : c.id ≤ id
      rotate_left
      · have d1 : decide (c.id ≤ id) = false := decide_eq_false hci
        have HX := Lib.hid (show x.upto id = (y, 0) from by rw [← HU.out]; exact DC.upto_end (fun c' t' h => by rw [HCT.out] at h; injection h with h1 h2; subst h1; exact hci))
        clear hci
        go_wp2_with (first | refine wpList_load_blk rfl _ _ rfl _ rfl _ _ C.out _ Tryz.underlying32 rfl Tryz.dcSize ?_ | refine wpList_store_arr rfl _ _ _ rfl _ #[.slice Ab1 nb1 cb1, .slice (some ad) nl1 cl1, .int .i64 (y.last : Int), .int .i64 y.fuse, .bool y.off, .int .i64 (y.wrote : Int), .slice Ak1 nk1 ck1] rfl rfl _ _ Zr.out Tryz.dcSize rfl (by simp [Value.oneCell']) ?_); apply Stop.go; intro w4 Ho4 Hb4
        go_wp2_with ((with_reducible show bodyPost _ _ _ _ _ _); refine bodyPost_struct_tmp rfl _ rfl _ _ Hb4.out _ Tryz.underlying32 rfl Tryz.dcSize rfl _ rfl ?_); apply Stop.go
        rw [HX.out]
        have hw4 := bonly W.out Ho4.out (by have := Z.out; omega)
        exact ⟨_, _, _, _, _, _, _, _, _, rfl, (V.out.only Ho4.out (fun h => ((HPP.out _).1 h).2.2 rfl)).mono (fun q _ h => ((HPP.out _).1 h).1), hw4⟩
      · have d1 : decide (c.id ≤ id) = true := decide_eq_true hci
        have HX := Lib.hid (show x.upto id = if y.flushE c.block = 0 then (y.flush c.block).upto id else (y.flush c.block, y.flushE c.block) from by rw [← HU.out]; exact DC.upto_step HY.out HCT.out hci)
        have HL1 := Lib.hid (fun hE => DC.flush_less2 HY.out HCT.out hE)
        have HOK2 := Lib.hid (DC.flush_ok HY.out c.block)
        have HLA2 := Lib.hid (DC.flush_last y c.block)
        have HFU2 := Lib.hid (DC.flush_fuse c.block HFu.out)
        clear hci HCT k1
        generalize hcb : c.block = b at *
        clear hcb
        go_wp2_with fail
        clear h0 c1
        refine WH.start (S := fun w' : World => Below wr.heap.size wr w') [false, false, false, false, false, false, false, false, false, false, false, false, false] 13 rfl rfl (by kernel_rfl) (bdrew wr 1) (fun hSn => ?_)
        obtain ⟨wS, hwS⟩ : ∃ q, wr.drew = q := ⟨_, rfl⟩
        rw [hwS] at hSn ⊢
        have BS := Lib.hid hSn
        clear hwS
        refine WH.tv 0 rfl (fun w' hSw => exec_load_blk _ _ rfl _ rfl _ _ (C.out.ext hSw) _ (Tryz.underlying32) rfl (Tryz.dcSize)) ?_; simp only [setL]
        refine WH.tk 1 ?_; simp only [setL]
        refine WH.tv 2 rfl (fun w' hSw => exec_load_cell _ _ rfl _ rfl (.slice (some ad) nl1 cl1) (C.out.ext hSw).seven.2.1 _ Tryz.underlying29 rfl) ?_; simp only [setL]
        refine WH.tk 3 ?_; simp only [setL]
        refine WH.tk 4 ?_; simp only [setL]
        refine WH.tv 5 rfl (fun w' hSw => exec_load_cell _ _ rfl _ rfl (.int .i64 b) ((hSw.cell (block_lt_of_cell K1.out)).trans K1.out) _ Tryz.underlying3 rfl) ?_; simp only [setL]
        have CF := fun (p' : Nat → Prop) (w' : World) (hb : Below wr.heap.size wr w') (hp' : ∀ q, w'.heap.size ≤ q → p' q) (hm : ∀ q, q < wr.heap.size → pp q → p' q) => flush12_any p' y Ab1 nb1 cb1 (some ad) nl1 cl1 Ak1 nk1 ck1 b w' hp' ((V.out.mono hm).below hb) HY.out (by rw [HLx.out]; exact HL0.out) HFu.out
        have PN := Lib.hid (show ∀ q, wr.heap.size ≤ q → pp q from fun q hq => (HPP.out q).2 ⟨HP.out q (by have := HG.out; have := Z.out; omega), by have := HG.out; have := Z.out; omega⟩)
        obtain ⟨y2, hy2⟩ : ∃ q, y.flush b = q := ⟨_, rfl⟩
        obtain ⟨E2, hE2⟩ : ∃ q, y.flushE b = q := ⟨_, rfl⟩
        rw [hy2, hE2] at HX HL1
        rw [hy2] at HOK2 HLA2 HFU2
        rw [hy2, hE2] at CF
        have CF := Lib.hid CF
        clear hy2 hE2
        refine WH.two 6 10 _ _ rfl rfl (by kernel_rfl) rfl rfl (fun K hK => ?_) (fun K hK => ?_)
        focus (
          go_simp; refine (CF.out pp wS BS.out (fun q hq => PN.out q (Nat.le_trans BS.out.size hq)) (fun _ _ h => h)).mono ?_; rintro e w5 ⟨Ab2, nb2, cb2, Al2, nl2, cl2, Ak2, nk2, ck2, rfl, hv5, hb5⟩; go_simp
          have V5 := Lib.hid hv5
          have B5 := Lib.hid (bt BS.out hb5)
          clear hv5 hb5 CF
          have hSn := B5.out; refine hK _ _ hSn ?_; clear hK; clear K; simp only [setL]
          refine WH.tk 7 ?_; simp only [setL]
          refine WH.tk 8 ?_; simp only [setL]
          refine WH.tk 9 ?_; simp only [setL]
          refine WH.only 10 _ rfl (by kernel_rfl) rfl (fun K hK => ?_)
          refine ow_alloc _ rfl _ Tryz.dcZero ?_
          apply Stop.go; intro w6 Hg6 Hb6
          have B6 := Lib.hid (bt B5.out Hg6.out.1)
          have hSn := B6.out; refine hK _ _ hSn ?_; clear hK; clear K; simp only [setL]
          refine WH.only 11 _ rfl (by kernel_rfl) rfl (fun K hK => ?_)
          refine ow_store _ _ _ rfl _ #[.slice Ab2 nb2 cb2, .slice Al2 nl2 cl2, .int .i64 ((y2).last : Int), .int .i64 (y2).fuse, .bool (y2).off, .int .i64 ((y2).wrote : Int), .slice Ak2 nk2 ck2] rfl rfl _ _ Hb6.out Tryz.dcSize rfl (by simp [Value.oneCell']) ?_
          apply Stop.go; intro w7 Ho7 Hb7
          have B57 := Lib.hid (bonly (bt (Below.refl _ w5) Hg6.out.1) Ho7.out (Nat.le_refl _))
          have B7 := Lib.hid (bt B5.out B57.out)
          have V7 := Lib.hid (V5.out.below B57.out)
          have hSn := B7.out; refine hK _ _ hSn ?_; clear hK; clear K; simp only [setL]
          refine WH.tk 12 ?_; simp only [setL]
          refine WH.done (by kernel_rfl) ?_
          have G7 := Lib.hid (show w.heap.size ≠ w5.heap.size ∧ g4 ≠ w5.heap.size from by have := B5.out.size; have := HG.out; have := Z.out; omega)
          clear B6 Hg6 Hb6 Ho7 B57 V5 B5
          obtain ⟨g6, hg6⟩ : ∃ q, q = w5.heap.size := ⟨_, rfl⟩
          rw [← hg6] at Hb7 G7 ⊢
          clear hg6)
        rotate_left
        focus (
          refine ow_alloc _ rfl _ Tryz.dcZero ?_
          apply Stop.go; intro w5 Hg5 Hb5
          have B5 := Lib.hid (bt BS.out Hg5.out.1)
          have hSn := B5.out; refine hK _ _ hSn ?_; clear hK; clear K; simp only [setL]
          have N5 := Lib.hid (show w5.heap.size = wS.heap.size + 1 ∧ wr.heap.size ≤ wS.heap.size from ⟨Hg5.out.2, BS.out.size⟩)
          refine WH.only 6 _ rfl (by kernel_rfl) rfl (fun K hK => ?_); go_simp; refine (CF.out (fun q => pp q ∧ q ≠ wS.heap.size) w5 B5.out (fun q hq => ⟨PN.out q (by have := N5.out; omega), by have := N5.out; omega⟩) (fun q hq h => ⟨h, by have := N5.out; omega⟩)).mono ?_; rintro e w6 ⟨Ab2, nb2, cb2, Al2, nl2, cl2, Ak2, nk2, ck2, rfl, hv6, hb6⟩; go_simp
          have V6 := Lib.hid hv6
          have B6 := Lib.hid (bt B5.out hb6)
          have Hb6 := Lib.hid (Hb5.out.ext hb6)
          clear hv6 hb6 CF Hb5 Hg5
          have hSn := B6.out; refine hK _ _ hSn ?_; clear hK; clear K; simp only [setL]
          refine WH.tk 7 ?_; simp only [setL]
          refine WH.tk 8 ?_; simp only [setL]
          refine WH.tk 9 ?_; simp only [setL]
          refine WH.only 11 _ rfl (by kernel_rfl) rfl (fun K hK => ?_)
          refine ow_store _ _ _ rfl _ #[.slice Ab2 nb2 cb2, .slice Al2 nl2 cl2, .int .i64 ((y2).last : Int), .int .i64 (y2).fuse, .bool (y2).off, .int .i64 ((y2).wrote : Int), .slice Ak2 nk2 ck2] rfl rfl _ _ Hb6.out Tryz.dcSize rfl (by simp [Value.oneCell']) ?_
          apply Stop.go; intro w7 Ho7 Hb7
          have B7 := Lib.hid (bonly B6.out Ho7.out N5.out.2)
          have V7 := Lib.hid ((V6.out.only Ho7.out (fun h => h.2 rfl)).mono (p' := pp) (fun q _ h => h.1))
          have hSn := B7.out; refine hK _ _ hSn ?_; clear hK; clear K; simp only [setL]
          refine WH.tk 12 ?_; simp only [setL]
          refine WH.done (by kernel_rfl) ?_
          have G7 := Lib.hid (show w.heap.size ≠ wS.heap.size ∧ g4 ≠ wS.heap.size from by have := N5.out; have := HG.out; have := Z.out; omega)
          clear B6 Hb6 Ho7 V6 B5 N5
          obtain ⟨g6, hg6⟩ : ∃ q, q = wS.heap.size := ⟨_, rfl⟩
          rw [← hg6] at Hb7 G7 ⊢
          clear hg6)
        all_goals
          have C7 := Lib.hid (C.out.ext B7.out)
          have Z7 := Lib.hid (Zr.out.ext B7.out)
          have W7 := Lib.hid (bt W.out B7.out)
          have S7 := Lib.hid (show g4 < w7.heap.size from by have := B7.out.size; have := HG.out; omega)
          clear hSn BS C Zr V W HU HY HFu
          go_wp2_with (first | refine wpList_load_blk rfl _ _ rfl _ rfl _ _ Hb7.out _ Tryz.underlying32 rfl Tryz.dcSize ?_ | refine wpList_store_arr rfl _ _ _ rfl _ #[.slice Ab2 nb2 cb2, .slice Al2 nl2 cl2, .int .i64 ((y2).last : Int), .int .i64 (y2).fuse, .bool (y2).off, .int .i64 ((y2).wrote : Int), .slice Ak2 nk2 ck2] rfl rfl _ _ C7.out Tryz.dcSize rfl (by simp [Value.oneCell']) ?_); apply Stop.go; intro w8 Ho8 Hb8
          have V8 := Lib.hid (V7.out.only Ho8.out (fun h => ((HPP.out _).1 h).2.1 rfl))
          have Z8 := Lib.hid (Z7.out.only Ho8.out (by have := Z.out; omega))
          have W8 := Lib.hid (bonly W7.out Ho8.out (Nat.le_refl _))
          have S8 := Lib.hid (show g4 < w8.heap.size from by rw [Ho8.out.size]; exact S7.out)
          clear Ho8 V7 Z7 W7 C7 Hb7 S7
          by_cases hE0 : E2 = 0
          · have d2 : (E2 == 0) = true := by simp [hE0]
            rw [if_pos hE0] at HX
            have HL2 := Lib.hid (HL1.out hE0)
            subst hE0
            go_wp2_with fail
            go_roundg (y2.list.length)
            case measure => have h1 := HL2.out; have h2 := HGL.out; omega
            case rel => exact ⟨y2, _, _, _, _, _, _, _, _, _, ⟨Hb8.out, V8.out⟩, Z8.out, W8.out, Lib.hid S8.out, HOK2, Lib.hid HX.out.symm, Lib.hid (HLA2.out.trans HLx.out), HFU2, Nat.le_refl _⟩
          · have d2 : (E2 == 0) = false := by simpa using hE0
            rw [if_neg hE0] at HX
            clear hE0
            go_wp2_with (first | refine wpList_load_blk rfl _ _ rfl _ rfl _ _ Hb8.out _ Tryz.underlying32 rfl Tryz.dcSize ?_ | refine wpList_store_arr rfl _ _ _ rfl _ #[.slice Ab2 nb2 cb2, .slice Al2 nl2 cl2, .int .i64 ((y2).last : Int), .int .i64 (y2).fuse, .bool (y2).off, .int .i64 ((y2).wrote : Int), .slice Ak2 nk2 ck2] rfl rfl _ _ Z8.out Tryz.dcSize rfl (by simp [Value.oneCell']) ?_); apply Stop.go; intro w9 Ho9 Hb9
            go_wp2_with ((with_reducible show bodyPost _ _ _ _ _ _); refine bodyPost_struct_tmp rfl _ rfl _ _ Hb9.out _ Tryz.underlying32 rfl Tryz.dcSize rfl _ rfl ?_); apply Stop.go
            rw [HX.out]
            have hw9 := bonly W8.out Ho9.out (by have := Z.out; omega)
            exact ⟨_, _, _, _, _, _, _, _, _, rfl, (V8.out.only Ho9.out (fun h => ((HPP.out _).1 h).2.2 rfl)).mono (fun q _ h => ((HPP.out _).1 h).1), hw9⟩

end Go.Proofs.YtpmbpklbiocclaaGreat
