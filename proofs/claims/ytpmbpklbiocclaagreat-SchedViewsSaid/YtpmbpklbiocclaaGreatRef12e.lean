/-
  The contract of the document's Go.
-/
import Derived.Test.YtpmbpklbiocclaaGreatRef12c
import Derived.Test.YtpmbpklbiocclaaGreatRef12d
namespace Go.Proofs.YtpmbpklbiocclaaGreat
open Go.RowKit

theorem Tryz.stepSizeE : (Tryz.prog.info? 61).map (·.size) = some 5 := by kernel_rfl
theorem Tryz.dcIntSzE : (Tryz.prog.info? 3).map (·.size) = some 1 := by kernel_rfl
theorem Tryz.dcBoolSzE : (Tryz.prog.info? 4).map (·.size) = some 1 := by kernel_rfl
theorem DCQ.again {p : Nat → Prop} {w : World} {x : DC} {Ab : Option Addr} {nb cb : Nat} {Al : Option Addr} {nl cl : Nat} {Ak : Option Addr} {nk ck : Nat} (h : DCQ p w x Ab nb cb Al nl cl Ak nk ck) (f : Int) (o : Bool) : DCQ p w { x with fuse := f, off := o } Ab nb cb Al nl cl Ak nk ck :=
  ⟨⟨h.v.hnb, h.v.hcb, h.v.hmb, h.v.base, h.v.hnl, h.v.hcl, h.v.hml, h.v.list, h.v.hnk, h.v.hck, h.v.hmk, h.v.knows, h.v.need⟩, h.bp, h.lp, h.b0, h.l0, h.k0⟩
set_option maxRecDepth 100000 in
set_option maxHeartbeats 16000000 in
theorem rgo12_any (p : Nat → Prop) (x : DC) (Ab : Option Addr) (nb cb : Nat) (Al : Option Addr) (nl cl : Nat) (Ak : Option Addr) (nk ck : Nat) (s : Cg) (Ad : Option Addr) (nd cd : Nat) (An : Option Addr) (nn cn : Nat) (w : World) (hp : ∀ q, w.heap.size ≤ q → p q) (h : DCQ p w x Ab nb cb Al nl cl Ak nk ck) (hs : CV w s Ad nd cd An nn cn) (hps : 0 < nd → ∀ ad, Ad = some ad → p ad.block) (hnd : nd ≤ 300) (hnn : nn ≤ 20) (hok : x.Ok) (hlast : x.last ≤ 900) (hfu : x.fuse < 9223372036854775808) :
    Calls Tryz.prog 25 #[.agg #[.slice Ab nb cb, .slice Al nl cl, .int .i64 ((x).last : Int), .int .i64 (x).fuse, .bool (x).off, .int .i64 ((x).wrote : Int), .slice Ak nk ck], .agg #[.int .i64 s.id, .int .i64 s.block, .int .i64 s.p.at_, .slice Ad nd cd, .slice An nn cn]] w (RetDNE p w (x.go ⟨s.id, s.block, s.p, s.needs⟩).1 (x.go ⟨s.id, s.block, s.p, s.needs⟩).2.1 (x.go ⟨s.id, s.block, s.p, s.needs⟩).2.2) := by
  have HQ := Lib.hid h
  have HP := Lib.hid hp
  have HS := Lib.hid hs
  have HPS := Lib.hid hps
  have HOk := Lib.hid hok
  have HG0 : Hid (x.go ⟨s.id, s.block, s.p, s.needs⟩ = if s.id = 0 then (x.put ⟨s.id, s.block, s.p, s.needs⟩, x.putN ⟨s.id, s.block, s.p, s.needs⟩, x.putE ⟨s.id, s.block, s.p, s.needs⟩) else if s.id = 1 then (x.flush s.block, 0, x.flushE s.block) else if s.id = 2 then ((x.upto s.block).1, 0, (x.upto s.block).2)
      else if s.id = 3 then ((x.upto (x.last : Int)).1, 0, (x.upto (x.last : Int)).2) else if s.id = 4 then (x.setFuse s.block, 0, 0) else if s.id = 5 then (x.up, 0, 0) else (x, 0, 0)) := Lib.hid rfl
  clear h hs hok hp hps
  go_enter Tryz.func25, Tryz.ntmps25
  go_wp2_with (refine wpList_box_row rfl _ _ rfl _ rfl ?_)
  apply Stop.go; intro w1 Hg1 Hb1
  go_wp2_with (refine wpList_box_row rfl _ _ rfl _ rfl ?_)
  apply Stop.go; intro w2 Hg2 Hb2
  go_wp2_with (refine wpList_alloc_row rfl _ rfl _ Tryz.dcZero ?_)
  apply Stop.go; intro w3 Hg3 Hb3
  have C3 := Lib.hid (Hb1.out.ext (bt Hg2.out.1 Hg3.out.1))
  have S3 := Lib.hid (Hb2.out.ext Hg3.out.1)
  have W3 := Lib.hid (bt (bt Hg1.out.1 Hg2.out.1) Hg3.out.1)
  have Z := Lib.hid (show w1.heap.size = w.heap.size + 1 ∧ w2.heap.size = w1.heap.size + 1 ∧ w3.heap.size = w2.heap.size + 1 from ⟨Hg1.out.2, Hg2.out.2, Hg3.out.2⟩)
  obtain ⟨g3, hg3⟩ : ∃ q, q = w1.heap.size := ⟨_, rfl⟩
  obtain ⟨g4, hg4⟩ : ∃ q, q = w2.heap.size := ⟨_, rfl⟩
  rw [← hg3] at S3 Z ⊢
  rw [← hg4] at Hb3 Z ⊢
  have Z3 := Lib.hid (show Blk w3 g4 32 #[.slice none 0 0, .slice none 0 0, .int .i64 0, .int .i64 0, .bool false, .int .i64 0, .slice none 0 0] from Hb3.out)
  have PN := Lib.hid (show ∀ q, w3.heap.size ≤ q → p q ∧ q ≠ g4 from fun q hq => ⟨HP.out q (by have := Z.out; omega), by have := Z.out; omega⟩)
  have Q3 := Lib.hid ((HQ.out.mono (p' := fun q => p q ∧ q ≠ g4) (fun q hq h => ⟨h, by have := Z.out; omega⟩)).below W3.out)
  have V3 := Lib.hid (HS.out.below W3.out)
  clear hg3 hg4 Hg1 Hg2 Hg3 Hb1 Hb2 Hb3
  have c0 := S3.out.five.1
  by_cases d0 : s.id = 0
  · have e0 : (s.id == 0) = true := by simp [d0]
    have HG := Lib.hid (HG0.out.trans (if_pos d0))
    clear d0
    go_wp2_with (first | refine wpList_load_blk rfl _ _ rfl _ rfl _ _ C3.out _ Tryz.underlying32 rfl Tryz.dcSize ?_ | refine wpList_load_blk rfl _ _ rfl _ rfl _ _ S3.out _ Tryz.underlying61 rfl Tryz.stepSizeE ?_)
    have CP := put12_any (fun q => p q ∧ q ≠ g4) x Ab nb cb Al nl cl Ak nk ck s Ad nd cd An nn cn w3 PN.out Q3.out V3.out (fun h0 ad e => ⟨HPS.out h0 ad e, by
      have h1 : ad.block < w.heap.size := by
        subst e
        exact HS.out.p.lt (by rw [HS.out.p.len]; exact h0)
      have := Z.out
      omega⟩) hnd hnn HOk.out hlast
    obtain ⟨y, hy⟩ : ∃ y, x.put ⟨s.id, s.block, s.p, s.needs⟩ = y := ⟨_, rfl⟩
    obtain ⟨zn, hzn⟩ : ∃ y, x.putN ⟨s.id, s.block, s.p, s.needs⟩ = y := ⟨_, rfl⟩
    obtain ⟨ze, hze⟩ : ∃ y, x.putE ⟨s.id, s.block, s.p, s.needs⟩ = y := ⟨_, rfl⟩
    rw [hy, hzn, hze] at CP
    have HGe := Lib.hid (show x.go ⟨s.id, s.block, s.p, s.needs⟩ = (y, zn, ze) from by rw [HG.out, hy, hzn, hze])
    clear hy hzn hze HG
    refine (CP).mono ?_; rintro e w5 ⟨Ab1, nb1, cb1, Al1, nl1, cl1, Ak1, nk1, ck1, rfl, hv5, hb5⟩
    have V5 := Lib.hid hv5
    have Z5 := Lib.hid (Z3.out.ext hb5)
    have W5 := Lib.hid (bt W3.out hb5)
    clear hv5 hb5 CP
    go_wp2_with (refine wpList_store_arr rfl _ _ _ rfl _ #[.slice Ab1 nb1 cb1, .slice Al1 nl1 cl1, .int .i64 ((y).last : Int), .int .i64 (y).fuse, .bool (y).off, .int .i64 ((y).wrote : Int), .slice Ak1 nk1 ck1] rfl rfl _ _ Z5.out Tryz.dcSize rfl (by simp [Value.oneCell']) ?_)
    apply Stop.go; intro w6 Ho6 Hb6
    go_wp2_with ((with_reducible show bodyPost _ _ _ _ _ _); refine bodyPost_struct_tmp2 rfl _ rfl _ _ Hb6.out _ Tryz.underlying32 rfl Tryz.dcSize rfl _ rfl _ rfl ?_); apply Stop.go
    rw [HGe.out]
    exact ⟨_, _, _, _, _, _, _, _, _, rfl, (V5.out.only Ho6.out (fun h => h.2 rfl)).mono (fun q _ h => h.1), bonly W5.out Ho6.out (by have := Z.out; omega)⟩
  · have e0 : (s.id == 0) = false := by simpa using d0
    have HG1 := Lib.hid (HG0.out.trans (if_neg d0))
    have c1 := S3.out.five.2.1
    clear d0 HG0
    by_cases d1 : s.id = 1
    · have e1 : (s.id == 1) = true := by simp [d1]
      have HG := Lib.hid (HG1.out.trans (if_pos d1))
      clear d1 HG1
      go_wp2_with (refine wpList_load_blk rfl _ _ rfl _ rfl _ _ C3.out _ Tryz.underlying32 rfl Tryz.dcSize ?_)
      have CP := flush12_any (fun q => p q ∧ q ≠ g4) x Ab nb cb Al nl cl Ak nk ck s.block w3 PN.out Q3.out HOk.out (by omega) hfu
      obtain ⟨y, hy⟩ : ∃ y, x.flush s.block = y := ⟨_, rfl⟩
      obtain ⟨ze, hze⟩ : ∃ y, x.flushE s.block = y := ⟨_, rfl⟩
      rw [hy, hze] at CP
      have HGe := Lib.hid (show x.go ⟨s.id, s.block, s.p, s.needs⟩ = (y, 0, ze) from by rw [HG.out, hy, hze])
      clear hy hze HG
      refine (CP).mono ?_; rintro e w5 ⟨Ab1, nb1, cb1, Al1, nl1, cl1, Ak1, nk1, ck1, rfl, hv5, hb5⟩; have V5 := Lib.hid hv5; have Z5 := Lib.hid (Z3.out.ext hb5); have W5 := Lib.hid (bt W3.out hb5); have G5 := Lib.hid (show g4 < w5.heap.size from by have := hb5.size; have := Z.out; omega); clear hv5 hb5 CP; go_wp2_with (refine wpList_alloc_row rfl _ rfl _ Tryz.dcZero ?_); apply Stop.go; intro w6 Hg6 Hb6; go_wp2_with (refine wpList_store_arr rfl _ _ _ rfl _ #[.slice Ab1 nb1 cb1, .slice Al1 nl1 cl1, .int .i64 ((y).last : Int), .int .i64 (y).fuse, .bool (y).off, .int .i64 ((y).wrote : Int), .slice Ak1 nk1 ck1] rfl rfl _ _ Hb6.out Tryz.dcSize rfl (by simp [Value.oneCell']) ?_); apply Stop.go; intro w7 Ho7 Hb7; have B7 := Lib.hid (bonly (bt (Below.refl _ w5) Hg6.out.1) Ho7.out (Nat.le_refl _)); have Z7 := Lib.hid (Z5.out.ext B7.out); have V7 := Lib.hid (V5.out.below B7.out); have W7 := Lib.hid (bt W5.out B7.out); clear Ho7 Hb6 Hg6 Z5 V5 W5 B7; go_wp2_with (first | refine wpList_load_blk rfl _ _ rfl _ rfl _ _ Hb7.out _ Tryz.underlying32 rfl Tryz.dcSize ?_ | refine wpList_store_arr rfl _ _ _ rfl _ #[.slice Ab1 nb1 cb1, .slice Al1 nl1 cl1, .int .i64 ((y).last : Int), .int .i64 (y).fuse, .bool (y).off, .int .i64 ((y).wrote : Int), .slice Ak1 nk1 ck1] rfl rfl _ _ Z7.out Tryz.dcSize rfl (by simp [Value.oneCell']) ?_); apply Stop.go; intro w8 Ho8 Hb8; go_wp2_with ((with_reducible show bodyPost _ _ _ _ _ _); refine bodyPost_struct_tmp2 rfl _ rfl _ _ Hb8.out _ Tryz.underlying32 rfl Tryz.dcSize rfl _ rfl _ rfl ?_); apply Stop.go; rw [HGe.out]; exact ⟨_, _, _, _, _, _, _, _, _, rfl, (V7.out.only Ho8.out (fun h => h.2 rfl)).mono (fun q _ h => h.1), bonly W7.out Ho8.out (by have := Z.out; omega)⟩
    · have e1 : (s.id == 1) = false := by simpa using d1
      have HG2 := Lib.hid (HG1.out.trans (if_neg d1))
      clear d1 HG1
      by_cases d2 : s.id = 2
      · have e2 : (s.id == 2) = true := by simp [d2]
        have HG := Lib.hid (HG2.out.trans (if_pos d2))
        clear d2 HG2
        go_wp2_with (refine wpList_load_blk rfl _ _ rfl _ rfl _ _ C3.out _ Tryz.underlying32 rfl Tryz.dcSize ?_)
        have CP := upto12_any (fun q => p q ∧ q ≠ g4) x Ab nb cb Al nl cl Ak nk ck s.block w3 PN.out Q3.out HOk.out (by omega) hfu
        obtain ⟨yy, hyy⟩ : ∃ y, x.upto s.block = y := ⟨_, rfl⟩
        rw [hyy] at CP
        obtain ⟨y, ze⟩ := yy
        have HGe := Lib.hid (show x.go ⟨s.id, s.block, s.p, s.needs⟩ = (y, 0, ze) from by rw [HG.out, hyy])
        clear hyy HG
        refine (CP).mono ?_; rintro e w5 ⟨Ab1, nb1, cb1, Al1, nl1, cl1, Ak1, nk1, ck1, rfl, hv5, hb5⟩; have V5 := Lib.hid hv5; have Z5 := Lib.hid (Z3.out.ext hb5); have W5 := Lib.hid (bt W3.out hb5); have G5 := Lib.hid (show g4 < w5.heap.size from by have := hb5.size; have := Z.out; omega); clear hv5 hb5 CP; go_wp2_with (refine wpList_alloc_row rfl _ rfl _ Tryz.dcZero ?_); apply Stop.go; intro w6 Hg6 Hb6; go_wp2_with (refine wpList_store_arr rfl _ _ _ rfl _ #[.slice Ab1 nb1 cb1, .slice Al1 nl1 cl1, .int .i64 ((y).last : Int), .int .i64 (y).fuse, .bool (y).off, .int .i64 ((y).wrote : Int), .slice Ak1 nk1 ck1] rfl rfl _ _ Hb6.out Tryz.dcSize rfl (by simp [Value.oneCell']) ?_); apply Stop.go; intro w7 Ho7 Hb7; have B7 := Lib.hid (bonly (bt (Below.refl _ w5) Hg6.out.1) Ho7.out (Nat.le_refl _)); have Z7 := Lib.hid (Z5.out.ext B7.out); have V7 := Lib.hid (V5.out.below B7.out); have W7 := Lib.hid (bt W5.out B7.out); clear Ho7 Hb6 Hg6 Z5 V5 W5 B7; go_wp2_with (first | refine wpList_load_blk rfl _ _ rfl _ rfl _ _ Hb7.out _ Tryz.underlying32 rfl Tryz.dcSize ?_ | refine wpList_store_arr rfl _ _ _ rfl _ #[.slice Ab1 nb1 cb1, .slice Al1 nl1 cl1, .int .i64 ((y).last : Int), .int .i64 (y).fuse, .bool (y).off, .int .i64 ((y).wrote : Int), .slice Ak1 nk1 ck1] rfl rfl _ _ Z7.out Tryz.dcSize rfl (by simp [Value.oneCell']) ?_); apply Stop.go; intro w8 Ho8 Hb8; go_wp2_with ((with_reducible show bodyPost _ _ _ _ _ _); refine bodyPost_struct_tmp2 rfl _ rfl _ _ Hb8.out _ Tryz.underlying32 rfl Tryz.dcSize rfl _ rfl _ rfl ?_); apply Stop.go; rw [HGe.out]; exact ⟨_, _, _, _, _, _, _, _, _, rfl, (V7.out.only Ho8.out (fun h => h.2 rfl)).mono (fun q _ h => h.1), bonly W7.out Ho8.out (by have := Z.out; omega)⟩
      · have e2 : (s.id == 2) = false := by simpa using d2
        have HG3 := Lib.hid (HG2.out.trans (if_neg d2))
        clear d2 HG2
        by_cases d3 : s.id = 3
        · have e3 : (s.id == 3) = true := by simp [d3]
          have HG := Lib.hid (HG3.out.trans (if_pos d3))
          have k2 := C3.out.seven.2.2.1
          clear d3 HG3
          go_wp2_with (refine wpList_load_blk rfl _ _ rfl _ rfl _ _ C3.out _ Tryz.underlying32 rfl Tryz.dcSize ?_)
          have CP := upto12_any (fun q => p q ∧ q ≠ g4) x Ab nb cb Al nl cl Ak nk ck (x.last : Int) w3 PN.out Q3.out HOk.out (by omega) hfu
          obtain ⟨yy, hyy⟩ : ∃ y, x.upto (x.last : Int) = y := ⟨_, rfl⟩
          rw [hyy] at CP
          obtain ⟨y, ze⟩ := yy
          have HGe := Lib.hid (show x.go ⟨s.id, s.block, s.p, s.needs⟩ = (y, 0, ze) from by rw [HG.out, hyy])
          clear hyy HG
          refine (CP).mono ?_; rintro e w5 ⟨Ab1, nb1, cb1, Al1, nl1, cl1, Ak1, nk1, ck1, rfl, hv5, hb5⟩; have V5 := Lib.hid hv5; have Z5 := Lib.hid (Z3.out.ext hb5); have W5 := Lib.hid (bt W3.out hb5); have G5 := Lib.hid (show g4 < w5.heap.size from by have := hb5.size; have := Z.out; omega); clear hv5 hb5 CP; go_wp2_with (refine wpList_alloc_row rfl _ rfl _ Tryz.dcZero ?_); apply Stop.go; intro w6 Hg6 Hb6; go_wp2_with (refine wpList_store_arr rfl _ _ _ rfl _ #[.slice Ab1 nb1 cb1, .slice Al1 nl1 cl1, .int .i64 ((y).last : Int), .int .i64 (y).fuse, .bool (y).off, .int .i64 ((y).wrote : Int), .slice Ak1 nk1 ck1] rfl rfl _ _ Hb6.out Tryz.dcSize rfl (by simp [Value.oneCell']) ?_); apply Stop.go; intro w7 Ho7 Hb7; have B7 := Lib.hid (bonly (bt (Below.refl _ w5) Hg6.out.1) Ho7.out (Nat.le_refl _)); have Z7 := Lib.hid (Z5.out.ext B7.out); have V7 := Lib.hid (V5.out.below B7.out); have W7 := Lib.hid (bt W5.out B7.out); clear Ho7 Hb6 Hg6 Z5 V5 W5 B7; go_wp2_with (first | refine wpList_load_blk rfl _ _ rfl _ rfl _ _ Hb7.out _ Tryz.underlying32 rfl Tryz.dcSize ?_ | refine wpList_store_arr rfl _ _ _ rfl _ #[.slice Ab1 nb1 cb1, .slice Al1 nl1 cl1, .int .i64 ((y).last : Int), .int .i64 (y).fuse, .bool (y).off, .int .i64 ((y).wrote : Int), .slice Ak1 nk1 ck1] rfl rfl _ _ Z7.out Tryz.dcSize rfl (by simp [Value.oneCell']) ?_); apply Stop.go; intro w8 Ho8 Hb8; go_wp2_with ((with_reducible show bodyPost _ _ _ _ _ _); refine bodyPost_struct_tmp2 rfl _ rfl _ _ Hb8.out _ Tryz.underlying32 rfl Tryz.dcSize rfl _ rfl _ rfl ?_); apply Stop.go; rw [HGe.out]; exact ⟨_, _, _, _, _, _, _, _, _, rfl, (V7.out.only Ho8.out (fun h => h.2 rfl)).mono (fun q _ h => h.1), bonly W7.out Ho8.out (by have := Z.out; omega)⟩
        · have e3 : (s.id == 3) = false := by simpa using d3
          have HG4 := Lib.hid (HG3.out.trans (if_neg d3))
          clear d3 HG3
          by_cases d4 : s.id = 4
          · have e4 : (s.id == 4) = true := by simp [d4]
            have e5 : (s.id == 5) = false := by simp [d4]
            have HG := Lib.hid (HG4.out.trans (if_pos d4))
            clear d4 HG4
            go_wp2_with (refine wpList_store_cell rfl _ _ _ rfl Tryz.dcIntSzE w.heap.size 3 rfl (.int .i64 s.block) rfl rfl rfl _ _ C3.out (by show 3 < 7; omega) ?_)
            apply Stop.go; intro w4 Ho4 Hb4
            have C4 := Lib.hid (show Blk w4 w.heap.size 32 #[.slice Ab nb cb, .slice Al nl cl, .int .i64 (x.last : Int), .int .i64 (s.block), .bool x.off, .int .i64 (x.wrote : Int), .slice Ak nk ck] from Hb4.out)
            have S4 := Lib.hid (S3.out.only Ho4.out (by have := Z.out; omega))
            have Z4 := Lib.hid (Z3.out.only Ho4.out (by have := Z.out; omega))
            have W4 := Lib.hid (bonly W3.out Ho4.out (Nat.le_refl _))
            clear Ho4 Hb4 C3 S3 Z3 W3
            have c0 := S4.out.five.1
            have c1 := S4.out.five.2.1
            by_cases hn : s.block < 0
            · have e6 : decide (s.block < 0) = true := decide_eq_true hn
              have HF := Lib.hid (show x.setFuse s.block = { x with fuse := -1, off := x.off } from by unfold DC.setFuse; rw [if_pos hn])
              clear hn
              go_wp2_with (refine wpList_store_cell rfl _ _ _ rfl Tryz.dcIntSzE w.heap.size 3 rfl (Value.int .i64 (-1)) rfl rfl rfl _ _ C4.out (by show 3 < 7; omega) ?_)
              apply Stop.go; intro w5 Ho5 Hb5
              have C5 := Lib.hid (show Blk w5 w.heap.size 32 #[.slice Ab nb cb, .slice Al nl cl, .int .i64 (x.last : Int), .int .i64 (-1), .bool x.off, .int .i64 (x.wrote : Int), .slice Ak nk ck] from Hb5.out)
              have Z5 := Lib.hid (Z4.out.only Ho5.out (by have := Z.out; omega))
              have S5 := Lib.hid (S4.out.only Ho5.out (by have := Z.out; omega))
              have W5 := Lib.hid (bonly W4.out Ho5.out (Nat.le_refl _))
              clear Ho5 Hb5 c0 c1
              have c0 := S5.out.five.1
              go_wp2_with (first | refine wpList_load_blk rfl _ _ rfl _ rfl _ _ C5.out _ Tryz.underlying32 rfl Tryz.dcSize ?_ | refine wpList_store_arr rfl _ _ _ rfl _ #[.slice Ab nb cb, .slice Al nl cl, .int .i64 (x.last : Int), .int .i64 (-1), .bool x.off, .int .i64 (x.wrote : Int), .slice Ak nk ck] rfl rfl _ _ Z5.out Tryz.dcSize rfl (by simp [Value.oneCell']) ?_); apply Stop.go; intro w6 Ho6 Hb6
              go_wp2_with ((with_reducible show bodyPost _ _ _ _ _ _); refine bodyPost_struct_tmp2 rfl _ rfl _ _ Hb6.out _ Tryz.underlying32 rfl Tryz.dcSize rfl _ rfl _ rfl ?_); apply Stop.go
              rw [HG.out, HF.out]
              have hw6 := bonly W5.out Ho6.out (by have := Z.out; omega)
              exact ⟨_, _, _, _, _, _, _, _, _, rfl, (HQ.out.below hw6).again _ _, hw6⟩
            · have e6 : decide (s.block < 0) = false := decide_eq_false hn
              have HF := Lib.hid (show x.setFuse s.block = { x with fuse := s.block, off := x.off } from by unfold DC.setFuse; rw [if_neg hn])
              clear hn
              go_wp2_with (first | refine wpList_load_blk rfl _ _ rfl _ rfl _ _ C4.out _ Tryz.underlying32 rfl Tryz.dcSize ?_ | refine wpList_store_arr rfl _ _ _ rfl _ #[.slice Ab nb cb, .slice Al nl cl, .int .i64 (x.last : Int), .int .i64 (s.block), .bool x.off, .int .i64 (x.wrote : Int), .slice Ak nk ck] rfl rfl _ _ Z4.out Tryz.dcSize rfl (by simp [Value.oneCell']) ?_); apply Stop.go; intro w6 Ho6 Hb6
              go_wp2_with ((with_reducible show bodyPost _ _ _ _ _ _); refine bodyPost_struct_tmp2 rfl _ rfl _ _ Hb6.out _ Tryz.underlying32 rfl Tryz.dcSize rfl _ rfl _ rfl ?_); apply Stop.go
              rw [HG.out, HF.out]
              have hw6 := bonly W4.out Ho6.out (by have := Z.out; omega)
              exact ⟨_, _, _, _, _, _, _, _, _, rfl, (HQ.out.below hw6).again _ _, hw6⟩
          · have e4 : (s.id == 4) = false := by simpa using d4
            have HG5 := Lib.hid (HG4.out.trans (if_neg d4))
            clear d4 HG4
            by_cases d5 : s.id = 5
            · have e5 : (s.id == 5) = true := by simp [d5]
              have HG := Lib.hid (HG5.out.trans (if_pos d5))
              clear d5 HG5
              go_wp2_with (refine wpList_store_cell rfl _ _ _ rfl Tryz.dcIntSzE w.heap.size 3 rfl (Value.int .i64 (-1)) rfl rfl rfl _ _ C3.out (by show 3 < 7; omega) ?_)
              apply Stop.go; intro w4 Ho4 Hb4
              have C4 := Lib.hid (show Blk w4 w.heap.size 32 #[.slice Ab nb cb, .slice Al nl cl, .int .i64 (x.last : Int), .int .i64 (-1), .bool x.off, .int .i64 (x.wrote : Int), .slice Ak nk ck] from Hb4.out)
              have Z4 := Lib.hid (Z3.out.only Ho4.out (by have := Z.out; omega))
              have W4 := Lib.hid (bonly W3.out Ho4.out (Nat.le_refl _))
              clear Ho4 Hb4 C3 Z3 W3
              go_wp2_with (refine wpList_store_cell rfl _ _ _ rfl Tryz.dcBoolSzE w.heap.size 4 rfl (.bool false) rfl rfl rfl _ _ C4.out (by show 4 < 7; omega) ?_)
              apply Stop.go; intro w5 Ho5 Hb5
              have C5 := Lib.hid (show Blk w5 w.heap.size 32 #[.slice Ab nb cb, .slice Al nl cl, .int .i64 (x.last : Int), .int .i64 (-1), .bool false, .int .i64 (x.wrote : Int), .slice Ak nk ck] from Hb5.out)
              have Z5 := Lib.hid (Z4.out.only Ho5.out (by have := Z.out; omega))
              have W5 := Lib.hid (bonly W4.out Ho5.out (Nat.le_refl _))
              clear Ho5 Hb5
              go_wp2_with (first | refine wpList_load_blk rfl _ _ rfl _ rfl _ _ C5.out _ Tryz.underlying32 rfl Tryz.dcSize ?_ | refine wpList_store_arr rfl _ _ _ rfl _ #[.slice Ab nb cb, .slice Al nl cl, .int .i64 (x.last : Int), .int .i64 (-1), .bool false, .int .i64 (x.wrote : Int), .slice Ak nk ck] rfl rfl _ _ Z5.out Tryz.dcSize rfl (by simp [Value.oneCell']) ?_); apply Stop.go; intro w6 Ho6 Hb6
              go_wp2_with ((with_reducible show bodyPost _ _ _ _ _ _); refine bodyPost_struct_tmp2 rfl _ rfl _ _ Hb6.out _ Tryz.underlying32 rfl Tryz.dcSize rfl _ rfl _ rfl ?_); apply Stop.go
              rw [HG.out]
              have hw6 := bonly W5.out Ho6.out (by have := Z.out; omega)
              exact ⟨_, _, _, _, _, _, _, _, _, rfl, (HQ.out.below hw6).again _ _, hw6⟩
            · have e5 : (s.id == 5) = false := by simpa using d5
              have HG := Lib.hid (HG5.out.trans (if_neg d5))
              clear d5 HG5
              go_wp2_with (first | refine wpList_load_blk rfl _ _ rfl _ rfl _ _ C3.out _ Tryz.underlying32 rfl Tryz.dcSize ?_ | refine wpList_store_arr rfl _ _ _ rfl _ #[.slice Ab nb cb, .slice Al nl cl, .int .i64 ((x).last : Int), .int .i64 (x).fuse, .bool (x).off, .int .i64 ((x).wrote : Int), .slice Ak nk ck] rfl rfl _ _ Z3.out Tryz.dcSize rfl (by simp [Value.oneCell']) ?_); apply Stop.go; intro w6 Ho6 Hb6
              go_wp2_with ((with_reducible show bodyPost _ _ _ _ _ _); refine bodyPost_struct_tmp2 rfl _ rfl _ _ Hb6.out _ Tryz.underlying32 rfl Tryz.dcSize rfl _ rfl _ rfl ?_); apply Stop.go
              rw [HG.out]
              have hw6 := bonly W3.out Ho6.out (by have := Z.out; omega)
              exact ⟨_, _, _, _, _, _, _, _, _, rfl, HQ.out.below hw6, hw6⟩

end Go.Proofs.YtpmbpklbiocclaaGreat
