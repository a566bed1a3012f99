/-
  Texts of this claim joined: Ref13, Sch13.
-/
import Derived.Test.YtpmbpklbiocclaaGreatRef12b
import Derived.Test.YtpmbpklbiocclaaGreatGrAV
import Derived.Test.YtpmbpklbiocclaaGreatGrBA
import Derived.Test.YtpmbpklbiocclaaGreatGrBB
import Derived.Test.YtpmbpklbiocclaaGreatGrAU
import Derived.Test.YtpmbpklbiocclaaGreatGrAB

namespace Go.Proofs.YtpmbpklbiocclaaGreat
open Go.RowKit

theorem atZ_range13 (m : Int) (x : Nat) (h : 1 ≤ m) : 0 ≤ atZ m x ∧ atZ m x < m := by
  unfold atZ
  have := Int.natCast_nonneg (wholeW (mulW x (floatOfInt .f64 m)))
  generalize ((wholeW (mulW x (floatOfInt .f64 m)) : Nat) : Int) = W at *
  (repeat' split) <;> omega
theorem atZ_nan (m : Int) (x : Nat) (h : 1 ≤ m) (hx : nanB x = true) : atZ m x = 0 := by
  unfold atZ
  have h1 : keyN x ≤ 0 := by
    unfold nanB at hx
    unfold keyN
    rw [if_pos (of_decide_eq_true hx)]
    decide
  rw [if_neg (by omega), if_pos h1]
def atB (b : Nat) (n : Nat) : Nat := (atZ (n : Int) b).toNat
theorem atB_spec {b n : Nat} (h : 0 < n) : (atB b n : Int) = atZ (n : Int) b ∧ atB b n < n := by
  have := atZ_range13 (n : Int) b (by omega)
  unfold atB
  omega
set_option maxHeartbeats 1600000 in
theorem rat13_any (n : Nat) (h1 : 0 < n) (h2 : n < 9223372036854775808) (b : Nat) (hb : b < 18446744073709551616) (w : World) :
    Calls Tryz.prog 27 #[.int .i64 (n : Int), .int .u64 (b : Int)] w fun e w' => e = .returned (.int .i64 (atB b n : Int)) ∧ Below w.heap.size w w' := by
  have HS := Lib.hid (atB_spec (b := b) h1)
  have HN := Lib.hid (fun (h : nanB b = true) => atZ_nan (n : Int) b (by omega) h)
  have CF := rfrom_any b hb w
  have CA := fun w' => rat_any (n : Int) b (by omega) (by omega) hb w'
  obtain ⟨v, hv⟩ : ∃ v, nanB b = v := ⟨_, rfl⟩
  rw [hv] at CF HN
  generalize atB b n = k at *
  have CA := Lib.hid CA
  clear hv
  go_enter Tryz.func27, Tryz.ntmps27
  go_wp2_with fail
  refine (CF).mono ?_; rintro e w1 ⟨rfl, rfl⟩
  cases v
  · go_wp2_with fail
    refine (CA.out _).mono ?_; rintro e w2 ⟨rfl, m, rfl⟩
    go_wp2_with fail
    go_ret
    exact ⟨by rw [HS.out.1]; rfl, bdrew _ m⟩
  · go_wp2_with fail
    go_ret
    exact ⟨by rw [HS.out.1, HN.out (by first | rfl | trivial)]; rfl, Below.refl _ _⟩
set_option maxRecDepth 100000 in
set_option maxHeartbeats 8000000 in
theorem rstep13_any (p : Nat → Prop) (x : DC) (Ab : Option Addr) (nb cb : Nat) (Al : Option Addr) (nl cl : Nat) (Ak : Option Addr) (nk ck : Nat) (b : Nat) (hb : b < 18446744073709551616) (w : World) (hp : ∀ q, w.heap.size ≤ q → p q) (h : DCQ p w x Ab nb cb Al nl cl Ak nk ck) (hok : x.Ok) (hlast : x.last ≤ 1000) (hfu : x.fuse < 9223372036854775808) :
    Calls Tryz.prog 9 #[.agg #[.slice Ab nb cb, .slice Al nl cl, .int .i64 ((x).last : Int), .int .i64 (x).fuse, .bool (x).off, .int .i64 ((x).wrote : Int), .slice Ak nk ck], .int .u64 (b : Int)] w (RetDNE p w (x.step (atB b)).1 (x.step (atB b)).2.1 (x.step (atB b)).2.2) := by
  have HQ := Lib.hid h
  have HP := Lib.hid hp
  have HOk := Lib.hid hok
  have HN0 := Lib.hid (fun (h0 : blocksC x.list = []) => (show x.step (atB b) = (x, -1, 0) from by unfold DC.step; rw [if_pos h0]))
  have HN1 := Lib.hid (fun (h0 : blocksC x.list ≠ []) => (show x.step (atB b) = (x.flush ((blocksC x.list).getD (atB b (blocksC x.list).length) 0), (blocksC x.list).getD (atB b (blocksC x.list).length) 0, x.flushE ((blocksC x.list).getD (atB b (blocksC x.list).length) 0)) from by unfold DC.step; rw [if_neg h0]))
  have HBL := Lib.hid (blocksC_len x.list)
  have hml := h.v.hml
  have hnl := Lib.hid h.v.hnl
  clear h hp hok
  go_enter Tryz.func9, Tryz.ntmps9
  go_wp2_with (refine wpList_box_row rfl _ _ rfl _ rfl ?_)
  apply Stop.go; intro w1 Hg1 Hb1
  go_wp2_with (refine wpList_alloc_row rfl _ rfl _ Tryz.dcZero ?_)
  apply Stop.go; intro w2 Hg2 Hb2
  have C2 := Lib.hid (Hb1.out.ext Hg2.out.1)
  have W2 := Lib.hid (bt Hg1.out.1 Hg2.out.1)
  have Z := Lib.hid (show w1.heap.size = w.heap.size + 1 ∧ w2.heap.size = w1.heap.size + 1 from ⟨Hg1.out.2, Hg2.out.2⟩)
  obtain ⟨g4, hg4⟩ : ∃ q, q = w1.heap.size := ⟨_, rfl⟩
  rw [← hg4] at Hb2 Z ⊢
  have Z2 := Lib.hid (show Blk w2 g4 32 #[.slice none 0 0, .slice none 0 0, .int .i64 0, .int .i64 0, .bool false, .int .i64 0, .slice none 0 0] from Hb2.out)
  clear hg4 Hg1 Hg2 Hb1 Hb2
  have c1 := C2.out.seven.2.1
  go_wp2_with fail
  refine (rblocks9_any Al nl cl x.list hnl.out (by omega) _ (HQ.out.v.list.below W2.out)).mono ?_; rintro e w3 ⟨Ai, ni, ci, rfl, q1, q2, q3, hri, hb3⟩
  have RI := Lib.hid hri
  have Q1 := Lib.hid q1
  have C3 := Lib.hid (C2.out.ext hb3)
  have Z3 := Lib.hid (Z2.out.ext hb3)
  have W3 := Lib.hid (bt W2.out hb3)
  have G3 := Lib.hid (show g4 < w3.heap.size from by have := hb3.size; have := Z.out; omega)
  have NI := Lib.hid (show ni ≤ 1000 from by have h1 := HBL.out; have h2 := hnl.out; omega)
  clear q1 q2 q3 hri hb3 C2 Z2 W2 c1
  by_cases h0 : ni = 0
  · have d0 : ((ni : Int) == 0) = true := by simp [h0]
    have HX := Lib.hid (HN0.out (List.eq_nil_of_length_eq_zero (by rw [Q1.out, h0])))
    clear h0
    go_wp2_with (first | refine wpList_load_blk rfl _ _ rfl _ rfl _ _ C3.out _ Tryz.underlying32 rfl Tryz.dcSize ?_ | refine wpList_store_arr rfl _ _ _ rfl _ #[.slice Ab nb cb, .slice Al nl cl, .int .i64 ((x).last : Int), .int .i64 (x).fuse, .bool (x).off, .int .i64 ((x).wrote : Int), .slice Ak nk ck] rfl rfl _ _ Z3.out Tryz.dcSize rfl (by simp [Value.oneCell']) ?_); apply Stop.go; intro w4 Ho4 Hb4
    go_wp2_with ((with_reducible show bodyPost _ _ _ _ _ _); refine bodyPost_struct_tmp2 rfl _ rfl _ _ Hb4.out _ Tryz.underlying32 rfl Tryz.dcSize rfl _ rfl _ rfl ?_); apply Stop.go
    rw [HX.out]
    have hw4 := bonly W3.out Ho4.out (by have := Z.out; omega)
    exact ⟨_, _, _, _, _, _, _, _, _, rfl, HQ.out.below hw4, hw4⟩
  · have d0 : ((ni : Int) == 0) = false := by simp [h0]
    have HX := Lib.hid (HN1.out (fun e => h0 (by rw [← Q1.out, e]; rfl)))
    have hpos : 0 < ni := by omega
    have hs := (atB_spec (b := b) hpos).2
    rw [Q1.out] at HX
    have CA := rat13_any ni hpos (by have := NI.out; omega) b hb
    generalize atB b ni = k at *
    have hkl : k < (blocksC x.list).length := by rw [Q1.out]; exact hs
    obtain ⟨adi, rfl, kc⟩ := RI.out.int k hkl
    have hgd : (blocksC x.list).getD k 0 = (blocksC x.list)[k] := by rw [List.getD_eq_getElem?_getD, List.getElem?_eq_getElem hkl]; rfl
    rw [hgd] at HX
    generalize (blocksC x.list)[k] = no at *
    have zk : (k : Int) < ni := by omega
    have KC := Lib.hid kc
    clear hgd h0 kc hkl
    go_wp2_with fail
    refine (CA _).mono ?_; rintro e w4 ⟨rfl, hb4⟩
    have C4 := Lib.hid (C3.out.ext hb4)
    have Z4 := Lib.hid (Z3.out.ext hb4)
    have W4 := Lib.hid (bt W3.out hb4)
    have G4 := Lib.hid (show g4 < w4.heap.size from Nat.lt_of_lt_of_le G3.out hb4.size)
    have kc := (hb4.cell (block_lt_of_cell KC.out)).trans KC.out
    clear hb4 C3 Z3 W3 G3 CA
    go_wp2_with (refine wpList_load_blk rfl _ _ rfl _ rfl _ _ C4.out _ Tryz.underlying32 rfl Tryz.dcSize ?_)
    have CF := flush12_any (fun q => p q ∧ q ≠ g4) x Ab nb cb Al nl cl Ak nk ck no w4 (fun q hq => ⟨HP.out q (by have := W4.out.size; omega), by have := G4.out; omega⟩) ((HQ.out.mono (fun q hq h => ⟨h, by have := Z.out; omega⟩)).below W4.out) HOk.out hlast hfu
    obtain ⟨y, hy⟩ : ∃ y, x.flush no = y := ⟨_, rfl⟩
    obtain ⟨ze, hze⟩ : ∃ z, x.flushE no = z := ⟨_, rfl⟩
    rw [hy, hze] at CF HX
    clear hy hze kc
    refine (CF).mono ?_; rintro e w5 ⟨Ab1, nb1, cb1, Al1, nl1, cl1, Ak1, nk1, ck1, rfl, hv5, hb5⟩
    have V5 := Lib.hid hv5
    have Z5 := Lib.hid (Z4.out.ext hb5)
    have W5 := Lib.hid (bt W4.out hb5)
    clear hv5 hb5 CF C4 Z4 W4
    go_wp2_with (refine wpList_alloc_row rfl _ rfl _ Tryz.dcZero ?_)
    apply Stop.go; intro w6 Hg6 Hb6
    go_wp2_with (refine wpList_store_arr rfl _ _ _ rfl _ #[.slice Ab1 nb1 cb1, .slice Al1 nl1 cl1, .int .i64 ((y).last : Int), .int .i64 (y).fuse, .bool (y).off, .int .i64 ((y).wrote : Int), .slice Ak1 nk1 ck1] rfl rfl _ _ Hb6.out Tryz.dcSize rfl (by simp [Value.oneCell']) ?_)
    apply Stop.go; intro w7 Ho7 Hb7
    have B7 := Lib.hid (bonly (bt (Below.refl _ w5) Hg6.out.1) Ho7.out (Nat.le_refl _))
    have Z7 := Lib.hid (Z5.out.ext B7.out)
    have V7 := Lib.hid (V5.out.below B7.out)
    have W7 := Lib.hid (bt W5.out B7.out)
    clear Ho7 Hb6 Hg6 Z5 V5 W5 B7
    go_wp2_with (first | refine wpList_load_blk rfl _ _ rfl _ rfl _ _ Hb7.out _ Tryz.underlying32 rfl Tryz.dcSize ?_ | refine wpList_store_arr rfl _ _ _ rfl _ #[.slice Ab1 nb1 cb1, .slice Al1 nl1 cl1, .int .i64 ((y).last : Int), .int .i64 (y).fuse, .bool (y).off, .int .i64 ((y).wrote : Int), .slice Ak1 nk1 ck1] rfl rfl _ _ Z7.out Tryz.dcSize rfl (by simp [Value.oneCell']) ?_); apply Stop.go; intro w8 Ho8 Hb8
    go_wp2_with ((with_reducible show bodyPost _ _ _ _ _ _); refine bodyPost_struct_tmp2 rfl _ rfl _ _ Hb8.out _ Tryz.underlying32 rfl Tryz.dcSize rfl _ rfl _ rfl ?_); apply Stop.go
    rw [HX.out]
    exact ⟨_, _, _, _, _, _, _, _, _, rfl, (V7.out.only Ho8.out (fun h => h.2 rfl)).mono (fun q _ h => h.1), bonly W7.out Ho8.out (by have := Z.out; omega)⟩

end Go.Proofs.YtpmbpklbiocclaaGreat

namespace Go.Proofs.YtpmbpklbiocclaaGreat
open Go.RowKit

section
variable {w : World} {ro : Nat → Option Rl} {c b g : Nat} {x : DC} {T : Nat}
set_option maxRecDepth 100000 in
set_option maxHeartbeats 4000000 in
theorem c_step (h : Cch w ro c b g x T) (hT : T ≤ 1000) (h16 : x.base.length = 16) (m : Nat) (hm : m < 18446744073709551616) :
    Calls Tryz.prog 10 #[.pointer (some ⟨c, 0, none⟩), .int .u64 (m : Int)] w fun e w' => e = .returned (.tuple #[.int .i64 (x.step (atB m)).2.1, .int .i64 (x.step (atB m)).2.2]) ∧ ∃ ro', Cch w' ro' c b g (x.step (atB m)).1 T ∧ Tr ro ro' w w' := by
  have H := Lib.hid h
  have HOk := Lib.hid h.ok
  have HN0 := Lib.hid (fun (h0 : blocksC x.list = []) => (show x.step (atB m) = (x, -1, 0) from by unfold DC.step; rw [if_pos h0]))
  have HN1 := Lib.hid (fun (h0 : blocksC x.list ≠ []) => (show x.step (atB m) = (x.flush ((blocksC x.list).getD (atB m (blocksC x.list).length) 0), (blocksC x.list).getD (atB m (blocksC x.list).length) 0, x.flushE ((blocksC x.list).getD (atB m (blocksC x.list).length) 0)) from by unfold DC.step; rw [if_neg h0]))
  have HBL := Lib.hid (show (blocksC x.list).length ≤ 1000 from by have h1 := blocksC_len x.list; have h2 := h.ok.wrote; have h3 := h.last; omega)
  have HB := Lib.hid (fun (k : Nat) (hk : k < (blocksC x.list).length) => (show -9223372036854775808 ≤ (blocksC x.list)[k] ∧ (blocksC x.list)[k] < 9223372036854775808 from by
    obtain ⟨d, hd, he⟩ := (blocksC_mem x.list _).1 (List.getElem_mem hk)
    have h1 := h.ok.blk d hd
    have h2 := h16
    omega))
  have CD := c_dirty h hT
  clear h
  go_enter Tryz.func10, Tryz.ntmps10
  go_wp2_with fail
  refine (CD).mono ?_; rintro e w1 ⟨v, rfl, hoi, hb1⟩
  have OLT := fun q (e : v.ownBlock = some q) => H.out.none_ge (OwnC.lt hoi q e).1
  obtain ⟨Ai, ci, ei, -, -, hri⟩ := hoi.ints
  obtain ⟨ni, hni⟩ : ∃ n, (blocksC x.list).length = n := ⟨_, rfl⟩
  rw [hni] at ei
  subst ei
  have HNI := Lib.hid hni
  have RI := Lib.hid hri
  have C1 := Lib.hid (H.out.ext hb1)
  have T1 := Lib.hid (Tr.of_below ro hb1)
  rw [hni] at HBL
  clear hri hoi hb1 hni CD
  by_cases h0 : ni = 0
  · have HX := Lib.hid (HN0.out (List.eq_nil_of_length_eq_zero (by rw [HNI.out, h0])))
    subst h0
    have CA := at_any ((0 : Nat) : Int) m (by decide) (by decide) hm
    rw [show atZ ((0 : Nat) : Int) m = -1 from by unfold atZ; rw [if_pos (by decide)]] at CA
    go_wp2_with fail
    refine (fromR_any m w1).mono ?_; rintro e w2 ⟨rfl, rfl⟩
    go_wp2_with fail
    refine (CA _).mono ?_; rintro e w3 ⟨rfl, rfl⟩
    go_wp2_with fail
    go_ret2
    rw [HX.out]
    exact ⟨rfl, ro, C1.out, T1.out⟩
  · have HX := Lib.hid (HN1.out (fun e => h0 (by rw [← HNI.out, e]; rfl)))
    have hpos : 0 < ni := by omega
    have hs := atB_spec (b := m) hpos
    rw [HNI.out] at HX
    have CA := at_any (ni : Int) m (by omega) (by have := HBL.out; omega) hm
    rw [← hs.1] at CA
    generalize atB m ni = k at *
    have hkl : k < (blocksC x.list).length := by rw [HNI.out]; exact hs.2
    have hbk := HB.out k hkl
    have LT := Lib.hid OLT
    obtain ⟨adi, rfl, kc⟩ := RI.out.int k hkl
    have HNR := Lib.hid (show ro adi.block = none from LT.out adi.block rfl)
    have hgd : (blocksC x.list).getD k 0 = (blocksC x.list)[k] := by rw [List.getD_eq_getElem?_getD, List.getElem?_eq_getElem hkl]; rfl
    rw [hgd] at HX
    generalize (blocksC x.list)[k] = no at *
    have zk : (k : Int) < ni := by omega
    have dk : decide ((k : Int) < 0) = false := decide_eq_false (by omega)
    have KC := Lib.hid kc
    clear hgd h0 hkl hs kc LT
    go_wp2_with fail
    refine (fromR_any m w1).mono ?_; rintro e w2 ⟨rfl, rfl⟩
    go_wp2_with fail
    refine (CA _).mono ?_; rintro e w3 ⟨rfl, rfl⟩
    go_wp2_with fail
    have C3 := Lib.hid (C1.out.ext (bdrew _ 1))
    have T3 := Lib.hid (T1.out.bel (bdrew _ 1))
    have KC3 := Lib.hid (show (w3.drewN 1).cell? (adi.add k) = some (.int .i64 no) from KC.out)
    refine WH.start (S := fun w' : World => w'.cell? (adi.add k) = some (.int .i64 no)) (List.replicate 12 false) 12 rfl rfl (by kernel_rfl) KC3.out (fun hSn => ?_)
    simp only [List.replicate]
    focus (
      obtain ⟨wS, hwS⟩ : ∃ y, w3.drew = y := ⟨_, rfl⟩
      rw [show w3.drewN 1 = wS from hwS] at C3 T3
      rw [hwS] at hSn ⊢
      clear hwS KC KC3
      refine WH.tk 0 ?_; simp only [setL]
      refine WH.tk 1 ?_; simp only [setL]
      refine WH.tk 2 ?_; simp only [setL]
      refine WH.tv 3 rfl (fun w' hSw => exec_load_cell _ _ rfl (adi.add k) rfl (.int .i64 no) hSw _ Tryz.underlying3 rfl) ?_; simp only [setL]
      refine WH.tk 4 ?_; simp only [setL]
      refine WH.tk 5 ?_; simp only [setL]
      refine WH.tk 6 ?_; simp only [setL]
      refine WH.tk 7 ?_; simp only [setL]
      refine WH.tv 8 rfl (fun w' hSw => exec_load_cell _ _ rfl (adi.add k) rfl (.int .i64 no) hSw _ Tryz.underlying3 rfl) ?_; simp only [setL]
      have CF := c_flush C3.out hT no hbk.1 hbk.2
      obtain ⟨y, hy⟩ : ∃ y, x.flush no = y := ⟨_, rfl⟩
      obtain ⟨ze, hze⟩ : ∃ z, x.flushE no = z := ⟨_, rfl⟩
      rw [hy, hze] at CF HX
      clear hy hze
      refine WH.only 9 _ rfl (by kernel_rfl) rfl (fun K hK => ?_); go_simp; refine (CF).mono ?_; rintro e w4 ⟨rfl, ro4, hc4, ht4⟩; go_simp
      have C4 := Lib.hid hc4
      have T4 := Lib.hid (T3.out.trans ht4)
      have hlt := block_lt_of_cell hSn
      have hS4 : w4.cell? (adi.add k) = some (.int .i64 no) := by
        rw [World.cell?_of_block (w := wS) (w' := w4) (a := adi.add k) (ht4.keep _ hlt (by rw [block_of_add]; exact HNR.out)).2]
        exact hSn
      clear hc4 ht4 CF hlt
      have hSn := hS4; refine hK _ _ hSn ?_; clear hK; clear K; simp only [setL]
      refine WH.tk 10 ?_; simp only [setL]
      refine WH.tk 11 ?_; simp only [setL]
      refine WH.done (by kernel_rfl) ?_
      clear hSn hS4
      go_wp2_with fail
      go_ret2
      rw [HX.out]
      exact ⟨rfl, ro4, C4.out, T4.out⟩)
end

end Go.Proofs.YtpmbpklbiocclaaGreat
