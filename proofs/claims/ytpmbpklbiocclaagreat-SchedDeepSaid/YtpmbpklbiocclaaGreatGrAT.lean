/-
  Texts of this claim joined: R09d, R09e.
-/
import Derived.Test.YtpmbpklbiocclaaGreatGrAR
import Derived.Test.YtpmbpklbiocclaaGreatGrAS
import Derived.Test.YtpmbpklbiocclaaGreatGrAH
import Derived.Test.YtpmbpklbiocclaaGreatGrAA

/-
  The contract of the document's Waits.
-/
namespace Go.Proofs.YtpmbpklbiocclaaGreat
open Go.RowKit

theorem rin9_is (A : Option Addr) (n cap : Nat) (l : List Int) (hn : l.length = n) (hm : n ≤ maxLen) (x : Int) (b : Bool) (hb : l.contains x = b) (w : World) (hr : RC w A (ivals l)) :
    Calls Tryz.prog 84 #[.slice A n cap, .int .i64 x] w fun e w' => e = .returned (.bool b) ∧ w = w' := by
  subst hb
  exact rin9_any A n cap l hn hm x w hr
set_option maxRecDepth 100000 in
set_option maxHeartbeats 8000000 in
theorem rwaits9_any (A : Option Addr) (n cap : Nat) (l : List Cg) (hn : l.length = n) (hm : n ≤ 4096) (hN : ∀ c ∈ l, c.needs.length ≤ 4096) (id : Int) (w : World) (hr : RdL RdC w A 5 l) :
    Calls Tryz.prog 89 #[.slice A n cap, .int .i64 id] w (RetI w (waitsC l id)) := by
  have Hn := Lib.hid hn
  have Hr := Lib.hid hr
  have HNN := Lib.hid hN
  obtain ⟨W, hW⟩ : ∃ W, waitsC l id = W := ⟨_, rfl⟩
  rw [hW]
  have HW := Lib.hid hW
  clear hn hr hN hW
  go_enter Tryz.func89, Tryz.ntmps89
  go_wp2_with fail
  refine (rplace_any A n cap l Hn.out (by unfold maxLen; omega) id _ Hr.out).mono ?_; rintro e w1 ⟨rfl, hpl⟩
  have HMay := Lib.hid (rmay_any A n cap l Hn.out hm HNN.out w Hr.out)
  cases hmay : mayC l
  · have HE : Hid (W = []) := Lib.hid (HW.out.symm.trans (waitsC_not id hmay))
    rw [hmay] at HMay
    clear hmay
    rcases hpl with ⟨p, hp, rfl, -, -⟩ | ⟨rfl, -⟩
    all_goals
      go_wp2_with fail
      refine (HMay.out).mono ?_; rintro e w2 ⟨rfl, hb2⟩
      have Hb2 := Lib.hid hb2
      clear hb2
      go_wp2_with fail
      go_ret
      rw [HE.out]
      exact RetI.nil_ Hb2.out
  · have Hmay := Lib.hid hmay
    rw [hmay] at HMay
    clear hmay
    rcases hpl with ⟨p, hp, rfl, hid, -⟩ | ⟨rfl, hno⟩
    rotate_left
    focus (
      have HE : Hid (W = []) := Lib.hid (HW.out.symm.trans (waitsC_none hno))
      clear hno
      go_wp2_with fail
      refine (HMay.out).mono ?_; rintro e w2 ⟨rfl, hb2⟩
      have Hb2 := Lib.hid hb2
      clear hb2
      go_wp2_with fail
      go_ret
      rw [HE.out]
      exact RetI.nil_ Hb2.out)
    have HWp := Lib.hid (HW.out.symm.trans (waitsC_at Hmay.out hp hid))
    have hN' := HNN.out l[p] (List.getElem_mem hp)
    obtain ⟨ad, Ad, nd, cd, An, nn, cn, rfl, hcv, h0, h1, h2, h3, h4⟩ := Hr.out.cg hp
    have hpn : p < n := by have := Hn.out; omega
    have P1 := Lib.hid (cell_fld h0 h1)
    have P2 := Lib.hid (cell_fld h0 h2)
    have P3 := Lib.hid (cell_fld1 (i := 2) h0 h3)
    have P4 := Lib.hid (cell_fld h0 h4)
    have Hcv0 := Lib.hid hcv
    clear h0 h1 h2 h3 h4 hcv hid hN'
    generalize l[p] = c at *
    have z0 : (p : Int) < n := by omega
    have dp : decide ((p : Int) < 0) = false := decide_eq_false (by omega)
    go_wp2_with fail
    refine (HMay.out).mono ?_; rintro e w2 ⟨rfl, hb2⟩
    have Hw2 := Lib.hid hb2
    clear hb2
    go_wp2_with fail
    go_loopw [5, 7] (fun v i wr => ∃ k : Nat, k ≤ p ∧ i = .int .i64 k ∧ OwnC wr w.heap.size 3 v (ivals (preW l c k)) ∧ Below w.heap.size w wr) (fun _ i _ => p - (intOf i).toNat)
    case atStart => exact ⟨0, Nat.zero_le _, rfl, OwnC.nil_ _ _ _, Hw2.out⟩
    case round =>
      obtain ⟨k, hk, rfl, hu, hbw⟩ := hrel
      have Hu := Lib.hid hu
      have Hbw := Lib.hid hbw
      clear hu hbw
      by_cases hlt : k < p
      · have d0 : decide ((k : Int) < p) = true := by simpa using hlt
        have hkl : k < l.length := by have := Hn.out; omega
        have z1 : (k : Int) < n := by omega
        have Hoff := Lib.hid (preW_off (c := c) hkl)
        have Hon := Lib.hid (preW_on (c := c) hkl)
        have hl0 := preW_len l c k
        have hl1 : (ivals (preW l c k)).length + 1 ≤ maxLen := by rw [ivals_len]; unfold maxLen; omega
        have hl2 : ((ivals (preW l c k)).length + 1) * 8 ≤ 140737488355328 := by rw [ivals_len]; omega
        obtain ⟨ad', Ae, ne, ce, Am, nm, cm, e', hdv, h0, h1, h2, h3, h4⟩ := (Hr.out.below Hbw.out).cg hkl
        injection e' with e'
        subst e'
        have D0 := Lib.hid h0
        have D1 := Lib.hid (cell_fld h0 h1)
        have D2 := Lib.hid (cell_fld h0 h2)
        have D3 := Lib.hid (cell_fld1 (i := 2) h0 h3)
        have Hdv := Lib.hid hdv
        have Q1 := Lib.hid ((Hbw.out.cell (block_lt_of_cell P1.out)).trans P1.out)
        have Q2 := Lib.hid ((Hbw.out.cell (block_lt_of_cell P2.out)).trans P2.out)
        have Q3 := Lib.hid ((Hbw.out.cell (block_lt_of_cell P3.out)).trans P3.out)
        have Q4 := Lib.hid ((Hbw.out.cell (block_lt_of_cell P4.out)).trans P4.out)
        have Hcv := Lib.hid (Hcv0.out.below Hbw.out)
        clear h0 h1 h2 h3 h4 hdv
        have Hk := Lib.hid (show keepsB l[k] c = ((decide (l[k].block = c.block) && meetP l[k].p c.p) || c.needs.contains l[k].id) from rfl)
        generalize l[k] = d at *
        generalize preW l c k = L at *
        clear hkl
        by_cases hbl : d.block = c.block
        · have e1 : (d.block == c.block) = true := by simpa using hbl
          have HBL := Lib.hid hbl
          clear hbl
          cases hm : meetP d.p c.p
          focus (
              have Hm := Lib.hid hm
              clear hm
              go_wp2_with fail
              refine WH.start (S := fun w' : World => Below wr.heap.size wr w') (List.replicate 25 false) 25 rfl rfl (by kernel_rfl) (bdrew wr 1) (fun hSn => ?_)
              simp only [List.replicate]
              refine WH.tk 0 ?_; simp only [setL]
              refine WH.tk 1 ?_; simp only [setL]
              refine WH.tk 2 ?_; simp only [setL]
              refine WH.tk 3 ?_; simp only [setL]
              refine WH.tv 4 rfl (fun w' hSw => exec_load_cell _ _ rfl (⟨(ad.add (k * 5)).block, (ad.add (k * 5)).off + 1, none⟩) rfl (.int .i64 d.block) ((hSw.cell (block_lt_of_cell D1.out)).trans D1.out) _ Tryz.underlying3 rfl) ?_; simp only [setL]
              refine WH.tk 5 ?_; simp only [setL]
              refine WH.tk 6 ?_; simp only [setL]
              refine WH.tk 7 ?_; simp only [setL]
              refine WH.tk 8 ?_; simp only [setL]
              refine WH.tv 9 rfl (fun w' hSw => exec_load_cell _ _ rfl (⟨(ad.add (p * 5)).block, (ad.add (p * 5)).off + 1, none⟩) rfl (.int .i64 c.block) ((hSw.cell (block_lt_of_cell Q1.out)).trans Q1.out) _ Tryz.underlying3 rfl) ?_; simp only [setL]
              refine WH.tk 10 ?_; simp only [setL]
              refine WH.tk 11 ?_; simp only [setL]
              refine WH.tk 12 ?_; simp only [setL]
              refine WH.tk 13 ?_; simp only [setL]
              refine WH.tk 14 ?_; simp only [setL]
              refine WH.tk 15 ?_; simp only [setL]
              refine WH.tv 16 rfl (fun w' hSw => exec_load_pair _ _ rfl ⟨(ad.add (k * 5)).block, (ad.add (k * 5)).off + 2, none⟩ rfl (.int .i64 d.p.at_) (.slice Ae ne ce) ((hSw.cell (block_lt_of_cell D2.out)).trans D2.out) ((hSw.cell (block_lt_of_cell D3.out)).trans D3.out) _ Tryz.underlying58 Tryz.rpatchSize) ?_; simp only [setL]
              refine WH.tk 17 ?_; simp only [setL]
              refine WH.tk 18 ?_; simp only [setL]
              refine WH.tk 19 ?_; simp only [setL]
              refine WH.tk 20 ?_; simp only [setL]
              refine WH.tv 21 rfl (fun w' hSw => exec_load_pair _ _ rfl ⟨(ad.add (p * 5)).block, (ad.add (p * 5)).off + 2, none⟩ rfl (.int .i64 c.p.at_) (.slice Ad nd cd) ((hSw.cell (block_lt_of_cell Q2.out)).trans Q2.out) ((hSw.cell (block_lt_of_cell Q3.out)).trans Q3.out) _ Tryz.underlying58 Tryz.rpatchSize) ?_; simp only [setL]
              refine WH.only 22 _ rfl (by kernel_rfl) rfl (fun K hK => ?_); go_simp; refine (rmeet_any d.p Ae ne ce c.p Ad nd cd _ (Hdv.out.p.below hSn) (Hcv.out.p.below hSn)).mono ?_; rintro e w3 ⟨rfl, hb3⟩; go_simp
              rw [Hm.out]
              have hSn := bt hSn hb3; refine hK _ _ hSn ?_; clear hK; clear K; simp only [setL]
              refine WH.tk 23 ?_; simp only [setL]
              refine WH.tk 24 ?_; simp only [setL]
              refine WH.done (by kernel_rfl) ?_
              have HB := Lib.hid hSn
              clear hSn
              have Hu := Lib.hid (Hu.out.ext HB.out)
              have Hbw := Lib.hid (bt Hbw.out HB.out)
              have Hcv := Lib.hid (Hcv.out.below HB.out)
              have Hdv := Lib.hid (Hdv.out.below HB.out)
              have Q1 := Lib.hid ((HB.out.cell (block_lt_of_cell Q1.out)).trans Q1.out)
              have Q2 := Lib.hid ((HB.out.cell (block_lt_of_cell Q2.out)).trans Q2.out)
              have Q3 := Lib.hid ((HB.out.cell (block_lt_of_cell Q3.out)).trans Q3.out)
              have Q4 := Lib.hid ((HB.out.cell (block_lt_of_cell Q4.out)).trans Q4.out)
              have D0 := Lib.hid ((HB.out.cell (block_lt_of_cell D0.out)).trans D0.out)
              have D1 := Lib.hid ((HB.out.cell (block_lt_of_cell D1.out)).trans D1.out)
              have D2 := Lib.hid ((HB.out.cell (block_lt_of_cell D2.out)).trans D2.out)
              have D3 := Lib.hid ((HB.out.cell (block_lt_of_cell D3.out)).trans D3.out)
              clear HB
              cases hin : c.needs.contains d.id
              focus (
                have Hin := Lib.hid hin
                clear hin
                go_wp2_with fail
                refine WH.start (S := fun w' : World => Below w3.heap.size w3 w') (List.replicate 14 false) 14 rfl rfl (by kernel_rfl) (bdrew w3 1) (fun hSn => ?_)
                simp only [List.replicate]
                refine WH.tk 0 ?_; simp only [setL]
                refine WH.tk 1 ?_; simp only [setL]
                refine WH.tk 2 ?_; simp only [setL]
                refine WH.tk 3 ?_; simp only [setL]
                refine WH.tk 4 ?_; simp only [setL]
                refine WH.tk 5 ?_; simp only [setL]
                refine WH.tv 6 rfl (fun w' hSw => exec_load_cell _ _ rfl (⟨(ad.add (p * 5)).block, (ad.add (p * 5)).off + 4, none⟩) rfl (.slice An nn cn) ((hSw.cell (block_lt_of_cell Q4.out)).trans Q4.out) _ Tryz.underlying59 rfl) ?_; simp only [setL]
                refine WH.tk 7 ?_; simp only [setL]
                refine WH.tk 8 ?_; simp only [setL]
                refine WH.tk 9 ?_; simp only [setL]
                refine WH.tk 10 ?_; simp only [setL]
                refine WH.tv 11 rfl (fun w' hSw => exec_load_cell _ _ rfl (ad.add (k * 5)) rfl (.int .i64 d.id) ((hSw.cell (block_lt_of_cell D0.out)).trans D0.out) _ Tryz.underlying3 rfl) ?_; simp only [setL]
                refine WH.only 12 _ rfl (by kernel_rfl) rfl (fun K hK => ?_); go_simp; refine (rin9_is An nn cn c.needs Hcv.out.len (Nat.le_trans Hcv.out.cap Hcv.out.max) d.id _ Hin.out _ (Hcv.out.read.below hSn)).mono ?_; rintro e w4 ⟨rfl, rfl⟩; go_simp
                have hSn := hSn; refine hK _ _ hSn ?_; clear hK; clear K; simp only [setL]
                refine WH.tk 13 ?_; simp only [setL]
                refine WH.done (by kernel_rfl) ?_
                have HB := Lib.hid hSn
                clear hSn
                have Hu := Lib.hid (Hu.out.ext HB.out)
                have Hbw := Lib.hid (bt Hbw.out HB.out)
                have Hcv := Lib.hid (Hcv.out.below HB.out)
                have Hdv := Lib.hid (Hdv.out.below HB.out)
                have Q1 := Lib.hid ((HB.out.cell (block_lt_of_cell Q1.out)).trans Q1.out)
                have Q2 := Lib.hid ((HB.out.cell (block_lt_of_cell Q2.out)).trans Q2.out)
                have Q3 := Lib.hid ((HB.out.cell (block_lt_of_cell Q3.out)).trans Q3.out)
                have Q4 := Lib.hid ((HB.out.cell (block_lt_of_cell Q4.out)).trans Q4.out)
                have D0 := Lib.hid ((HB.out.cell (block_lt_of_cell D0.out)).trans D0.out)
                have D1 := Lib.hid ((HB.out.cell (block_lt_of_cell D1.out)).trans D1.out)
                have D2 := Lib.hid ((HB.out.cell (block_lt_of_cell D2.out)).trans D2.out)
                have D3 := Lib.hid ((HB.out.cell (block_lt_of_cell D3.out)).trans D3.out)
                clear HB
                generalize hgw : w3.drew = w9 at *
                clear hgw
                have HX := Lib.hid (Hoff.out (by rw [Hk.out, Hin.out, decide_eq_true HBL.out, Hm.out]; rfl))
                go_wp2_with fail
                go_roundw
                case rel => exact ⟨k + 1, by omega, by go_num, by rw [HX.out]; exact Hu.out, Hbw.out⟩
                case measure => simp [intOf]; omega)
              focus (
                have Hin := Lib.hid hin
                clear hin
                go_wp2_with fail
                refine WH.start (S := fun w' : World => Below w3.heap.size w3 w') (List.replicate 14 false) 14 rfl rfl (by kernel_rfl) (bdrew w3 1) (fun hSn => ?_)
                simp only [List.replicate]
                refine WH.tk 0 ?_; simp only [setL]
                refine WH.tk 1 ?_; simp only [setL]
                refine WH.tk 2 ?_; simp only [setL]
                refine WH.tk 3 ?_; simp only [setL]
                refine WH.tk 4 ?_; simp only [setL]
                refine WH.tk 5 ?_; simp only [setL]
                refine WH.tv 6 rfl (fun w' hSw => exec_load_cell _ _ rfl (⟨(ad.add (p * 5)).block, (ad.add (p * 5)).off + 4, none⟩) rfl (.slice An nn cn) ((hSw.cell (block_lt_of_cell Q4.out)).trans Q4.out) _ Tryz.underlying59 rfl) ?_; simp only [setL]
                refine WH.tk 7 ?_; simp only [setL]
                refine WH.tk 8 ?_; simp only [setL]
                refine WH.tk 9 ?_; simp only [setL]
                refine WH.tk 10 ?_; simp only [setL]
                refine WH.tv 11 rfl (fun w' hSw => exec_load_cell _ _ rfl (ad.add (k * 5)) rfl (.int .i64 d.id) ((hSw.cell (block_lt_of_cell D0.out)).trans D0.out) _ Tryz.underlying3 rfl) ?_; simp only [setL]
                refine WH.only 12 _ rfl (by kernel_rfl) rfl (fun K hK => ?_); go_simp; refine (rin9_is An nn cn c.needs Hcv.out.len (Nat.le_trans Hcv.out.cap Hcv.out.max) d.id _ Hin.out _ (Hcv.out.read.below hSn)).mono ?_; rintro e w4 ⟨rfl, rfl⟩; go_simp
                have hSn := hSn; refine hK _ _ hSn ?_; clear hK; clear K; simp only [setL]
                refine WH.tk 13 ?_; simp only [setL]
                refine WH.done (by kernel_rfl) ?_
                have HB := Lib.hid hSn
                clear hSn
                have Hu := Lib.hid (Hu.out.ext HB.out)
                have Hbw := Lib.hid (bt Hbw.out HB.out)
                have Hcv := Lib.hid (Hcv.out.below HB.out)
                have Hdv := Lib.hid (Hdv.out.below HB.out)
                have Q1 := Lib.hid ((HB.out.cell (block_lt_of_cell Q1.out)).trans Q1.out)
                have Q2 := Lib.hid ((HB.out.cell (block_lt_of_cell Q2.out)).trans Q2.out)
                have Q3 := Lib.hid ((HB.out.cell (block_lt_of_cell Q3.out)).trans Q3.out)
                have Q4 := Lib.hid ((HB.out.cell (block_lt_of_cell Q4.out)).trans Q4.out)
                have D0 := Lib.hid ((HB.out.cell (block_lt_of_cell D0.out)).trans D0.out)
                have D1 := Lib.hid ((HB.out.cell (block_lt_of_cell D1.out)).trans D1.out)
                have D2 := Lib.hid ((HB.out.cell (block_lt_of_cell D2.out)).trans D2.out)
                have D3 := Lib.hid ((HB.out.cell (block_lt_of_cell D3.out)).trans D3.out)
                clear HB
                generalize hgw : w3.drew = w9 at *
                clear hgw
                have HX := Lib.hid (Hon.out (by rw [Hk.out, Hin.out, decide_eq_true HBL.out, Hm.out]; rfl))
                have c0 := D0.out
                go_wp2_with (at_builtin; refine wpList_append_one rfl _ _ _ _ rfl Tryz.underlying59 (.int .i64 0) 8 Tryz.infoInt rfl w.heap.size _ _ rfl Hu.out (.int .i64 d.id) rfl rfl Hbw.out.size hl1 hl2 ?_)
                apply Stop.go
                intro v' w6 Hv' Ha'
                have D6 := Lib.hid (Hbw.out.trans Ha'.out.below)
                go_wp2_with fail
                go_roundw
                case rel => exact ⟨k + 1, by omega, by go_num, by rw [HX.out, ← ivals_snoc]; exact Hv'.out, D6.out⟩
                case measure => simp [intOf]; omega))
          focus (
              have Hm := Lib.hid hm
              clear hm
              go_wp2_with fail
              refine WH.start (S := fun w' : World => Below wr.heap.size wr w') (List.replicate 25 false) 25 rfl rfl (by kernel_rfl) (bdrew wr 1) (fun hSn => ?_)
              simp only [List.replicate]
              refine WH.tk 0 ?_; simp only [setL]
              refine WH.tk 1 ?_; simp only [setL]
              refine WH.tk 2 ?_; simp only [setL]
              refine WH.tk 3 ?_; simp only [setL]
              refine WH.tv 4 rfl (fun w' hSw => exec_load_cell _ _ rfl (⟨(ad.add (k * 5)).block, (ad.add (k * 5)).off + 1, none⟩) rfl (.int .i64 d.block) ((hSw.cell (block_lt_of_cell D1.out)).trans D1.out) _ Tryz.underlying3 rfl) ?_; simp only [setL]
              refine WH.tk 5 ?_; simp only [setL]
              refine WH.tk 6 ?_; simp only [setL]
              refine WH.tk 7 ?_; simp only [setL]
              refine WH.tk 8 ?_; simp only [setL]
              refine WH.tv 9 rfl (fun w' hSw => exec_load_cell _ _ rfl (⟨(ad.add (p * 5)).block, (ad.add (p * 5)).off + 1, none⟩) rfl (.int .i64 c.block) ((hSw.cell (block_lt_of_cell Q1.out)).trans Q1.out) _ Tryz.underlying3 rfl) ?_; simp only [setL]
              refine WH.tk 10 ?_; simp only [setL]
              refine WH.tk 11 ?_; simp only [setL]
              refine WH.tk 12 ?_; simp only [setL]
              refine WH.tk 13 ?_; simp only [setL]
              refine WH.tk 14 ?_; simp only [setL]
              refine WH.tk 15 ?_; simp only [setL]
              refine WH.tv 16 rfl (fun w' hSw => exec_load_pair _ _ rfl ⟨(ad.add (k * 5)).block, (ad.add (k * 5)).off + 2, none⟩ rfl (.int .i64 d.p.at_) (.slice Ae ne ce) ((hSw.cell (block_lt_of_cell D2.out)).trans D2.out) ((hSw.cell (block_lt_of_cell D3.out)).trans D3.out) _ Tryz.underlying58 Tryz.rpatchSize) ?_; simp only [setL]
              refine WH.tk 17 ?_; simp only [setL]
              refine WH.tk 18 ?_; simp only [setL]
              refine WH.tk 19 ?_; simp only [setL]
              refine WH.tk 20 ?_; simp only [setL]
              refine WH.tv 21 rfl (fun w' hSw => exec_load_pair _ _ rfl ⟨(ad.add (p * 5)).block, (ad.add (p * 5)).off + 2, none⟩ rfl (.int .i64 c.p.at_) (.slice Ad nd cd) ((hSw.cell (block_lt_of_cell Q2.out)).trans Q2.out) ((hSw.cell (block_lt_of_cell Q3.out)).trans Q3.out) _ Tryz.underlying58 Tryz.rpatchSize) ?_; simp only [setL]
              refine WH.only 22 _ rfl (by kernel_rfl) rfl (fun K hK => ?_); go_simp; refine (rmeet_any d.p Ae ne ce c.p Ad nd cd _ (Hdv.out.p.below hSn) (Hcv.out.p.below hSn)).mono ?_; rintro e w3 ⟨rfl, hb3⟩; go_simp
              rw [Hm.out]
              have hSn := bt hSn hb3; refine hK _ _ hSn ?_; clear hK; clear K; simp only [setL]
              refine WH.tk 23 ?_; simp only [setL]
              refine WH.tk 24 ?_; simp only [setL]
              refine WH.done (by kernel_rfl) ?_
              have HB := Lib.hid hSn
              clear hSn
              have Hu := Lib.hid (Hu.out.ext HB.out)
              have Hbw := Lib.hid (bt Hbw.out HB.out)
              have Hcv := Lib.hid (Hcv.out.below HB.out)
              have Hdv := Lib.hid (Hdv.out.below HB.out)
              have Q1 := Lib.hid ((HB.out.cell (block_lt_of_cell Q1.out)).trans Q1.out)
              have Q2 := Lib.hid ((HB.out.cell (block_lt_of_cell Q2.out)).trans Q2.out)
              have Q3 := Lib.hid ((HB.out.cell (block_lt_of_cell Q3.out)).trans Q3.out)
              have Q4 := Lib.hid ((HB.out.cell (block_lt_of_cell Q4.out)).trans Q4.out)
              have D0 := Lib.hid ((HB.out.cell (block_lt_of_cell D0.out)).trans D0.out)
              have D1 := Lib.hid ((HB.out.cell (block_lt_of_cell D1.out)).trans D1.out)
              have D2 := Lib.hid ((HB.out.cell (block_lt_of_cell D2.out)).trans D2.out)
              have D3 := Lib.hid ((HB.out.cell (block_lt_of_cell D3.out)).trans D3.out)
              clear HB
              go_wp2_with fail
              refine WH.start (S := fun w' : World => Below w3.heap.size w3 w') (List.replicate 14 false) 14 rfl rfl (by kernel_rfl) (bdrew w3 1) (fun hSn => ?_)
              simp only [List.replicate]
              refine WH.tk 0 ?_; simp only [setL]
              refine WH.tk 1 ?_; simp only [setL]
              refine WH.skip 2 _ rfl (by kernel_rfl) (fun _ _ _ h => h) rfl (by assumption) ?_; simp only [setL]
              refine WH.skip 3 _ rfl (by kernel_rfl) (fun _ _ _ h => h) rfl (by assumption) ?_; simp only [setL]
              refine WH.skip 4 _ rfl (by kernel_rfl) (fun _ _ _ h => h) rfl (by assumption) ?_; simp only [setL]
              refine WH.skip 5 _ rfl (by kernel_rfl) (fun _ _ _ h => h) rfl (by assumption) ?_; simp only [setL]
              refine WH.skip 6 _ rfl (by kernel_rfl) (fun _ _ _ h => h) rfl (by assumption) ?_; simp only [setL]
              refine WH.skip 7 _ rfl (by kernel_rfl) (fun _ _ _ h => h) rfl (by assumption) ?_; simp only [setL]
              refine WH.skip 8 _ rfl (by kernel_rfl) (fun _ _ _ h => h) rfl (by assumption) ?_; simp only [setL]
              refine WH.skip 9 _ rfl (by kernel_rfl) (fun _ _ _ h => h) rfl (by assumption) ?_; simp only [setL]
              refine WH.skip 10 _ rfl (by kernel_rfl) (fun _ _ _ h => h) rfl (by assumption) ?_; simp only [setL]
              refine WH.skip 11 _ rfl (by kernel_rfl) (fun _ _ _ h => h) rfl (by assumption) ?_; simp only [setL]
              refine WH.onlySkip 12 _ rfl (by kernel_rfl) rfl (by assumption) ?_; simp only [setL]
              refine WH.tk 13 ?_; simp only [setL]
              refine WH.done (by kernel_rfl) ?_
              have HB := Lib.hid hSn
              clear hSn
              have Hu := Lib.hid (Hu.out.ext HB.out)
              have Hbw := Lib.hid (bt Hbw.out HB.out)
              have Hcv := Lib.hid (Hcv.out.below HB.out)
              have Hdv := Lib.hid (Hdv.out.below HB.out)
              have Q1 := Lib.hid ((HB.out.cell (block_lt_of_cell Q1.out)).trans Q1.out)
              have Q2 := Lib.hid ((HB.out.cell (block_lt_of_cell Q2.out)).trans Q2.out)
              have Q3 := Lib.hid ((HB.out.cell (block_lt_of_cell Q3.out)).trans Q3.out)
              have Q4 := Lib.hid ((HB.out.cell (block_lt_of_cell Q4.out)).trans Q4.out)
              have D0 := Lib.hid ((HB.out.cell (block_lt_of_cell D0.out)).trans D0.out)
              have D1 := Lib.hid ((HB.out.cell (block_lt_of_cell D1.out)).trans D1.out)
              have D2 := Lib.hid ((HB.out.cell (block_lt_of_cell D2.out)).trans D2.out)
              have D3 := Lib.hid ((HB.out.cell (block_lt_of_cell D3.out)).trans D3.out)
              clear HB
              generalize hgw : w3.drew = w9 at *
              clear hgw
              have HX := Lib.hid (Hon.out (by rw [Hk.out, decide_eq_true HBL.out, Hm.out]; rfl))
              have c0 := D0.out
              go_wp2_with (at_builtin; refine wpList_append_one rfl _ _ _ _ rfl Tryz.underlying59 (.int .i64 0) 8 Tryz.infoInt rfl w.heap.size _ _ rfl Hu.out (.int .i64 d.id) rfl rfl Hbw.out.size hl1 hl2 ?_)
              apply Stop.go
              intro v' w6 Hv' Ha'
              have D6 := Lib.hid (Hbw.out.trans Ha'.out.below)
              go_wp2_with fail
              go_roundw
              case rel => exact ⟨k + 1, by omega, by go_num, by rw [HX.out, ← ivals_snoc]; exact Hv'.out, D6.out⟩
              case measure => simp [intOf]; omega)
        · have e1 : (d.block == c.block) = false := by simpa using hbl
          have HBL := Lib.hid hbl
          clear hbl
          focus (
            go_wp2_with fail
            refine WH.start (S := fun w' : World => Below wr.heap.size wr w') (List.replicate 25 false) 25 rfl rfl (by kernel_rfl) (bdrew wr 1) (fun hSn => ?_)
            simp only [List.replicate]
            refine WH.tk 0 ?_; simp only [setL]
            refine WH.tk 1 ?_; simp only [setL]
            refine WH.tk 2 ?_; simp only [setL]
            refine WH.tk 3 ?_; simp only [setL]
            refine WH.tv 4 rfl (fun w' hSw => exec_load_cell _ _ rfl (⟨(ad.add (k * 5)).block, (ad.add (k * 5)).off + 1, none⟩) rfl (.int .i64 d.block) ((hSw.cell (block_lt_of_cell D1.out)).trans D1.out) _ Tryz.underlying3 rfl) ?_; simp only [setL]
            refine WH.tk 5 ?_; simp only [setL]
            refine WH.tk 6 ?_; simp only [setL]
            refine WH.tk 7 ?_; simp only [setL]
            refine WH.tk 8 ?_; simp only [setL]
            refine WH.tv 9 rfl (fun w' hSw => exec_load_cell _ _ rfl (⟨(ad.add (p * 5)).block, (ad.add (p * 5)).off + 1, none⟩) rfl (.int .i64 c.block) ((hSw.cell (block_lt_of_cell Q1.out)).trans Q1.out) _ Tryz.underlying3 rfl) ?_; simp only [setL]
            refine WH.tk 10 ?_; simp only [setL]
            refine WH.tk 11 ?_; simp only [setL]
            refine WH.skip 12 _ rfl (by kernel_rfl) (fun _ _ _ h => h) rfl (by assumption) ?_; simp only [setL]
            refine WH.skip 13 _ rfl (by kernel_rfl) (fun _ _ _ h => h) rfl (by assumption) ?_; simp only [setL]
            refine WH.skip 14 _ rfl (by kernel_rfl) (fun _ _ _ h => h) rfl (by assumption) ?_; simp only [setL]
            refine WH.skip 15 _ rfl (by kernel_rfl) (fun _ _ _ h => h) rfl (by assumption) ?_; simp only [setL]
            refine WH.skip 16 _ rfl (by kernel_rfl) (fun _ _ _ h => h) rfl (by assumption) ?_; simp only [setL]
            refine WH.skip 17 _ rfl (by kernel_rfl) (fun _ _ _ h => h) rfl (by assumption) ?_; simp only [setL]
            refine WH.skip 18 _ rfl (by kernel_rfl) (fun _ _ _ h => h) rfl (by assumption) ?_; simp only [setL]
            refine WH.skip 19 _ rfl (by kernel_rfl) (fun _ _ _ h => h) rfl (by assumption) ?_; simp only [setL]
            refine WH.skip 20 _ rfl (by kernel_rfl) (fun _ _ _ h => h) rfl (by assumption) ?_; simp only [setL]
            refine WH.skip 21 _ rfl (by kernel_rfl) (fun _ _ _ h => h) rfl (by assumption) ?_; simp only [setL]
            refine WH.onlySkip 22 _ rfl (by kernel_rfl) rfl (by assumption) ?_; simp only [setL]
            refine WH.tk 23 ?_; simp only [setL]
            refine WH.tk 24 ?_; simp only [setL]
            refine WH.done (by kernel_rfl) ?_
            have HB := Lib.hid hSn
            clear hSn
            have Hu := Lib.hid (Hu.out.ext HB.out)
            have Hbw := Lib.hid (bt Hbw.out HB.out)
            have Hcv := Lib.hid (Hcv.out.below HB.out)
            have Hdv := Lib.hid (Hdv.out.below HB.out)
            have Q1 := Lib.hid ((HB.out.cell (block_lt_of_cell Q1.out)).trans Q1.out)
            have Q2 := Lib.hid ((HB.out.cell (block_lt_of_cell Q2.out)).trans Q2.out)
            have Q3 := Lib.hid ((HB.out.cell (block_lt_of_cell Q3.out)).trans Q3.out)
            have Q4 := Lib.hid ((HB.out.cell (block_lt_of_cell Q4.out)).trans Q4.out)
            have D0 := Lib.hid ((HB.out.cell (block_lt_of_cell D0.out)).trans D0.out)
            have D1 := Lib.hid ((HB.out.cell (block_lt_of_cell D1.out)).trans D1.out)
            have D2 := Lib.hid ((HB.out.cell (block_lt_of_cell D2.out)).trans D2.out)
            have D3 := Lib.hid ((HB.out.cell (block_lt_of_cell D3.out)).trans D3.out)
            clear HB
            generalize hgw : wr.drew = w8 at *
            clear hgw
            cases hin : c.needs.contains d.id
            focus (
              have Hin := Lib.hid hin
              clear hin
              go_wp2_with fail
              refine WH.start (S := fun w' : World => Below w8.heap.size w8 w') (List.replicate 14 false) 14 rfl rfl (by kernel_rfl) (bdrew w8 1) (fun hSn => ?_)
              simp only [List.replicate]
              refine WH.tk 0 ?_; simp only [setL]
              refine WH.tk 1 ?_; simp only [setL]
              refine WH.tk 2 ?_; simp only [setL]
              refine WH.tk 3 ?_; simp only [setL]
              refine WH.tk 4 ?_; simp only [setL]
              refine WH.tk 5 ?_; simp only [setL]
              refine WH.tv 6 rfl (fun w' hSw => exec_load_cell _ _ rfl (⟨(ad.add (p * 5)).block, (ad.add (p * 5)).off + 4, none⟩) rfl (.slice An nn cn) ((hSw.cell (block_lt_of_cell Q4.out)).trans Q4.out) _ Tryz.underlying59 rfl) ?_; simp only [setL]
              refine WH.tk 7 ?_; simp only [setL]
              refine WH.tk 8 ?_; simp only [setL]
              refine WH.tk 9 ?_; simp only [setL]
              refine WH.tk 10 ?_; simp only [setL]
              refine WH.tv 11 rfl (fun w' hSw => exec_load_cell _ _ rfl (ad.add (k * 5)) rfl (.int .i64 d.id) ((hSw.cell (block_lt_of_cell D0.out)).trans D0.out) _ Tryz.underlying3 rfl) ?_; simp only [setL]
              refine WH.only 12 _ rfl (by kernel_rfl) rfl (fun K hK => ?_); go_simp; refine (rin9_is An nn cn c.needs Hcv.out.len (Nat.le_trans Hcv.out.cap Hcv.out.max) d.id _ Hin.out _ (Hcv.out.read.below hSn)).mono ?_; rintro e w4 ⟨rfl, rfl⟩; go_simp
              have hSn := hSn; refine hK _ _ hSn ?_; clear hK; clear K; simp only [setL]
              refine WH.tk 13 ?_; simp only [setL]
              refine WH.done (by kernel_rfl) ?_
              have HB := Lib.hid hSn
              clear hSn
              have Hu := Lib.hid (Hu.out.ext HB.out)
              have Hbw := Lib.hid (bt Hbw.out HB.out)
              have Hcv := Lib.hid (Hcv.out.below HB.out)
              have Hdv := Lib.hid (Hdv.out.below HB.out)
              have Q1 := Lib.hid ((HB.out.cell (block_lt_of_cell Q1.out)).trans Q1.out)
              have Q2 := Lib.hid ((HB.out.cell (block_lt_of_cell Q2.out)).trans Q2.out)
              have Q3 := Lib.hid ((HB.out.cell (block_lt_of_cell Q3.out)).trans Q3.out)
              have Q4 := Lib.hid ((HB.out.cell (block_lt_of_cell Q4.out)).trans Q4.out)
              have D0 := Lib.hid ((HB.out.cell (block_lt_of_cell D0.out)).trans D0.out)
              have D1 := Lib.hid ((HB.out.cell (block_lt_of_cell D1.out)).trans D1.out)
              have D2 := Lib.hid ((HB.out.cell (block_lt_of_cell D2.out)).trans D2.out)
              have D3 := Lib.hid ((HB.out.cell (block_lt_of_cell D3.out)).trans D3.out)
              clear HB
              generalize hgw : w8.drew = w9 at *
              clear hgw
              have HX := Lib.hid (Hoff.out (by rw [Hk.out, Hin.out, decide_eq_false HBL.out]; rfl))
              go_wp2_with fail
              go_roundw
              case rel => exact ⟨k + 1, by omega, by go_num, by rw [HX.out]; exact Hu.out, Hbw.out⟩
              case measure => simp [intOf]; omega)
            focus (
              have Hin := Lib.hid hin
              clear hin
              go_wp2_with fail
              refine WH.start (S := fun w' : World => Below w8.heap.size w8 w') (List.replicate 14 false) 14 rfl rfl (by kernel_rfl) (bdrew w8 1) (fun hSn => ?_)
              simp only [List.replicate]
              refine WH.tk 0 ?_; simp only [setL]
              refine WH.tk 1 ?_; simp only [setL]
              refine WH.tk 2 ?_; simp only [setL]
              refine WH.tk 3 ?_; simp only [setL]
              refine WH.tk 4 ?_; simp only [setL]
              refine WH.tk 5 ?_; simp only [setL]
              refine WH.tv 6 rfl (fun w' hSw => exec_load_cell _ _ rfl (⟨(ad.add (p * 5)).block, (ad.add (p * 5)).off + 4, none⟩) rfl (.slice An nn cn) ((hSw.cell (block_lt_of_cell Q4.out)).trans Q4.out) _ Tryz.underlying59 rfl) ?_; simp only [setL]
              refine WH.tk 7 ?_; simp only [setL]
              refine WH.tk 8 ?_; simp only [setL]
              refine WH.tk 9 ?_; simp only [setL]
              refine WH.tk 10 ?_; simp only [setL]
              refine WH.tv 11 rfl (fun w' hSw => exec_load_cell _ _ rfl (ad.add (k * 5)) rfl (.int .i64 d.id) ((hSw.cell (block_lt_of_cell D0.out)).trans D0.out) _ Tryz.underlying3 rfl) ?_; simp only [setL]
              refine WH.only 12 _ rfl (by kernel_rfl) rfl (fun K hK => ?_); go_simp; refine (rin9_is An nn cn c.needs Hcv.out.len (Nat.le_trans Hcv.out.cap Hcv.out.max) d.id _ Hin.out _ (Hcv.out.read.below hSn)).mono ?_; rintro e w4 ⟨rfl, rfl⟩; go_simp
              have hSn := hSn; refine hK _ _ hSn ?_; clear hK; clear K; simp only [setL]
              refine WH.tk 13 ?_; simp only [setL]
              refine WH.done (by kernel_rfl) ?_
              have HB := Lib.hid hSn
              clear hSn
              have Hu := Lib.hid (Hu.out.ext HB.out)
              have Hbw := Lib.hid (bt Hbw.out HB.out)
              have Hcv := Lib.hid (Hcv.out.below HB.out)
              have Hdv := Lib.hid (Hdv.out.below HB.out)
              have Q1 := Lib.hid ((HB.out.cell (block_lt_of_cell Q1.out)).trans Q1.out)
              have Q2 := Lib.hid ((HB.out.cell (block_lt_of_cell Q2.out)).trans Q2.out)
              have Q3 := Lib.hid ((HB.out.cell (block_lt_of_cell Q3.out)).trans Q3.out)
              have Q4 := Lib.hid ((HB.out.cell (block_lt_of_cell Q4.out)).trans Q4.out)
              have D0 := Lib.hid ((HB.out.cell (block_lt_of_cell D0.out)).trans D0.out)
              have D1 := Lib.hid ((HB.out.cell (block_lt_of_cell D1.out)).trans D1.out)
              have D2 := Lib.hid ((HB.out.cell (block_lt_of_cell D2.out)).trans D2.out)
              have D3 := Lib.hid ((HB.out.cell (block_lt_of_cell D3.out)).trans D3.out)
              clear HB
              generalize hgw : w8.drew = w9 at *
              clear hgw
              have HX := Lib.hid (Hon.out (by rw [Hk.out, Hin.out, decide_eq_false HBL.out]; rfl))
              have c0 := D0.out
              go_wp2_with (at_builtin; refine wpList_append_one rfl _ _ _ _ rfl Tryz.underlying59 (.int .i64 0) 8 Tryz.infoInt rfl w.heap.size _ _ rfl Hu.out (.int .i64 d.id) rfl rfl Hbw.out.size hl1 hl2 ?_)
              apply Stop.go
              intro v' w6 Hv' Ha'
              have D6 := Lib.hid (Hbw.out.trans Ha'.out.below)
              go_wp2_with fail
              go_roundw
              case rel => exact ⟨k + 1, by omega, by go_num, by rw [HX.out, ← ivals_snoc]; exact Hv'.out, D6.out⟩
              case measure => simp [intOf]; omega))
      · have d0 : decide ((k : Int) < p) = false := by simpa using hlt
        have HX : Hid (W = preW l c k) := Lib.hid (by rw [HWp.out, show k = p by omega])
        go_wp2_with fail
        go_ret
        rw [HX.out]
        exact Hu.out.retI Hbw.out

end Go.Proofs.YtpmbpklbiocclaaGreat

/-
  The contract of the document's Ready.
-/
namespace Go.Proofs.YtpmbpklbiocclaaGreat
open Go.RowKit

def allT (W R : List Int) (j : Nat) : Bool := (W.take j).all fun x => R.contains x
theorem allT_succ {W R : List Int} {j : Nat} (h : j < W.length) : allT W R (j + 1) = (allT W R j && R.contains W[j]) := by
  unfold allT
  rw [List.take_succ_eq_append_getElem h, List.all_append]
  simp
theorem allT_all (W R : List Int) (j : Nat) (h : W.length ≤ j) : allT W R j = W.all fun x => R.contains x := by
  unfold allT
  rw [List.take_of_length_le h]
theorem waitsC_len (l : List Cg) (id : Int) : (waitsC l id).length ≤ l.length := by
  unfold waitsC
  split
  · split
    · simp
    · rename_i pre c h
      obtain ⟨_, post, hl, _⟩ := splitId_some h
      rw [List.length_map]
      refine Nat.le_trans (List.length_filter_le _ _) ?_
      rw [hl]
      simp
  · simp

def RetIO (w : World) (l : List Int) (e : Ending) (w' : World) : Prop := ∃ v, e = .returned v ∧ OwnC w' w.heap.size 3 v (ivals l) ∧ Below w.heap.size w w'
theorem RetIO.plain {w w' : World} {l : List Int} {e : Ending} (h : RetIO w l e w') : RetI w l e w' := by
  obtain ⟨v, rfl, ho, hb⟩ := h
  exact ho.retI hb

set_option maxRecDepth 100000 in
set_option maxHeartbeats 8000000 in
theorem rready9O_any (A : Option Addr) (n cap : Nat) (l : List Cg) (hn : l.length = n) (hm : n ≤ 4096) (hN : ∀ c ∈ l, c.needs.length ≤ 4096) (block : Int) (w : World) (hr : RdL RdC w A 5 l) :
    Calls Tryz.prog 59 #[.slice A n cap, .int .i64 block] w (RetIO w (readyC l block)) := by
  have Hn := Lib.hid hn
  have Hr := Lib.hid hr
  have HNN := Lib.hid hN
  obtain ⟨W, hW⟩ : ∃ W, readyC l block = W := ⟨_, rfl⟩
  rw [hW]
  have HW := Lib.hid hW
  clear hn hr hN hW
  have HMay := Lib.hid (rmay_any A n cap l Hn.out hm HNN.out w Hr.out)
  cases hmay : mayC l
  · have HE : Hid (W = []) := Lib.hid (HW.out.symm.trans (by unfold readyC; rw [hmay]; rfl))
    rw [hmay] at HMay
    clear hmay
    go_enter Tryz.func59, Tryz.ntmps59
    go_wp2_with fail
    refine (HMay.out).mono ?_; rintro e w2 ⟨rfl, hb2⟩
    have Hb2 := Lib.hid hb2
    clear hb2
    go_wp2_with fail
    go_ret
    rw [HE.out]
    exact ⟨_, rfl, OwnC.nil_ _ _ _, Hb2.out⟩
  · have Hmay := Lib.hid hmay
    rw [hmay] at HMay
    clear hmay
    go_enter Tryz.func59, Tryz.ntmps59
    go_wp2_with fail
    refine (HMay.out).mono ?_; rintro e w2 ⟨rfl, hb2⟩
    have Hw2 := Lib.hid hb2
    clear hb2
    go_wp2_with fail
    go_loopw [5, 6] (fun v i wr => ∃ k : Nat, k ≤ n ∧ i = .int .i64 k ∧ OwnC wr w.heap.size 3 v (ivals (rdN l block k)) ∧ Below w.heap.size w wr) (fun _ i _ => n - (intOf i).toNat)
    case atStart => exact ⟨0, Nat.zero_le _, rfl, OwnC.nil_ _ _ _, Hw2.out⟩
    case round =>
      obtain ⟨k, hk, rfl, hu, hbw⟩ := hrel
      have Hu := Lib.hid hu
      have Hbw := Lib.hid hbw
      clear hu hbw
      by_cases hlt : k < n
      · have d0 : decide ((k : Int) < n) = true := by simpa using hlt
        have hkl : k < l.length := by have := Hn.out; omega
        have z1 : (k : Int) < n := by omega
        have HS := Lib.hid (rdN_succ (block := block) hkl)
        have hl0 := rdN_len l block k
        have hl1 : (ivals (rdN l block k)).length + 1 ≤ maxLen := by rw [ivals_len]; unfold maxLen; omega
        have hl2 : ((ivals (rdN l block k)).length + 1) * 8 ≤ 140737488355328 := by rw [ivals_len]; omega
        have HR0 := Lib.hid (show (rdN l block k).length ≤ maxLen by unfold maxLen; omega)
        obtain ⟨ad, Ad, nd, cd, An, nn, cn, rfl, hcv, h0, h1, h2, h3, h4⟩ := (Hr.out.below Hbw.out).cg hkl
        have K0 := Lib.hid h0
        have c1 := cell_fld h0 h1
        clear h0 h1 h2 h3 h4 hcv
        generalize l[k] = c at *
        generalize rdN l block k = R at *
        clear hkl
        by_cases hbl : c.block = block
        · have e1 : (c.block != block) = false := by simpa using hbl
          have HBL := Lib.hid hbl
          clear hbl
          have c0 := K0.out
          go_wp2_with fail
          refine (rwaits9_any (some ad) n cap l Hn.out hm HNN.out c.id _ (Hr.out.below Hbw.out)).mono ?_; rintro e w3 ⟨A3, n3, c3, rfl, e3, q3, r3, hr3, hb3⟩
          have Hr3 := Lib.hid hr3
          have HX3 := Lib.hid (show (waitsC l c.id).length = n3 ∧ n3 ≤ c3 ∧ c3 ≤ maxLen ∧ n3 ≤ 4096 from ⟨e3, q3, r3, by have := waitsC_len l c.id; have := Hn.out; omega⟩)
          have Hb3 := Lib.hid (bt Hbw.out hb3)
          have Hu3 := Lib.hid (Hu.out.ext hb3)
          have hn3 : n3 ≤ 4096 := HX3.out.2.2.2
          obtain ⟨Av, cv, rfl, hv1, hv2, hv3⟩ := Hu3.out.ints
          have HV := Lib.hid (show R.length ≤ cv ∧ cv ≤ maxLen from ⟨hv1, hv2⟩)
          have Hv3 := Lib.hid hv3
          have K3 := Lib.hid ((hb3.cell (block_lt_of_cell K0.out)).trans K0.out)
          clear hr3 e3 q3 r3 hb3 hv1 hv2 hv3 c0 c1
          have HS1 := Lib.hid (show rdN l block (k + 1) = if allT (waitsC l c.id) R n3 = true then R ++ [c.id] else R by
            rw [HS.out, allT_all _ _ _ (Nat.le_of_eq HX3.out.1), HBL.out]
            by_cases h : ((waitsC l c.id).all fun x => R.contains x) = true
            · rw [if_pos ⟨rfl, h⟩, if_pos h]
            · rw [if_neg (fun hh => h hh.2), if_neg h])
          generalize waitsC l c.id = WL at *
          go_wp2_with fail
          generalize hw9 : w3 = w9 at *
          clear hw9
          go_loopw [8, 9] (fun f j wq => ∃ m : Nat, m ≤ n3 ∧ j = .int .i64 m ∧ f = .bool (allT WL R m) ∧ wq = w9) (fun _ j _ => n3 - (intOf j).toNat)
          case atStart => exact ⟨0, Nat.zero_le _, rfl, rfl, rfl⟩
          case round =>
            obtain ⟨m, hm2, rfl, rfl, rfl⟩ := hrel
            by_cases hmt : m < n3
            · have d1 : decide ((m : Int) < n3) = true := by simpa using hmt
              have hml : m < WL.length := by have := HX3.out.1; omega
              obtain ⟨aw, rfl, hc⟩ := Hr3.out.int m hml
              have HA := Lib.hid (allT_succ (R := R) hml)
              generalize WL[m] = x at *
              obtain ⟨b, hb⟩ : ∃ b, R.contains x = b := ⟨_, rfl⟩
              rw [hb] at HA
              have HB := Lib.hid hb
              clear hb hml
              generalize allT WL R m = f at *
              cases f
              · go_wp2_with fail
                go_roundw
                case rel => exact ⟨m + 1, by omega, by go_num, by rw [HA.out]; rfl, by first | rfl | trivial⟩
                case measure => simp [intOf]; omega
              · go_wp2_with fail
                refine (rin9_is Av R.length cv R rfl HR0.out x b HB.out _ Hv3.out).mono ?_; rintro e wx ⟨rfl, rfl⟩
                go_wp2_with fail
                go_roundw
                case rel => exact ⟨m + 1, by omega, by go_num, by rw [HA.out]; rfl, by first | rfl | trivial⟩
                case measure => simp [intOf]; omega
            · have d1 : decide ((m : Int) < n3) = false := by simpa using hmt
              rw [show m = n3 by omega]
              cases hf : allT WL R n3
              · have HX := Lib.hid (show rdN l block (k + 1) = R by rw [HS1.out, hf]; rfl)
                clear hf
                go_wp2_with fail
                go_roundw
                case rel => exact ⟨k + 1, by omega, by go_num, by rw [HX.out]; exact Hu3.out, Hb3.out⟩
                case measure => simp [intOf]; omega
              · have HX := Lib.hid (show rdN l block (k + 1) = R ++ [c.id] by rw [HS1.out, hf]; rfl)
                clear hf
                have c0 := K3.out
                go_wp2_with (at_builtin; refine wpList_append_one rfl _ _ _ _ rfl Tryz.underlying59 (.int .i64 0) 8 Tryz.infoInt rfl w.heap.size _ _ rfl Hu3.out (.int .i64 c.id) rfl rfl Hb3.out.size hl1 hl2 ?_)
                apply Stop.go
                intro v' w6 Hv' Ha'
                have D6 := Lib.hid (Hb3.out.trans Ha'.out.below)
                go_wp2_with fail
                go_roundw
                case rel => exact ⟨k + 1, by omega, by go_num, by rw [HX.out, ← ivals_snoc]; exact Hv'.out, D6.out⟩
                case measure => simp [intOf]; omega
        · have e1 : (c.block != block) = true := by simpa using hbl
          have HX := Lib.hid (show rdN l block (k + 1) = R by rw [HS.out, if_neg (fun h => hbl h.1)])
          clear hbl
          go_wp2_with fail
          go_roundw
          case rel => exact ⟨k + 1, by omega, by go_num, by rw [HX.out]; exact Hu.out, Hbw.out⟩
          case measure => simp [intOf]; omega
      · have d0 : decide ((k : Int) < n) = false := by simpa using hlt
        have HX : Hid (W = rdN l block k) := Lib.hid (by rw [← HW.out, readyC_rdN block Hmay.out, Hn.out, show k = n by omega])
        go_wp2_with fail
        go_ret
        rw [HX.out]
        exact ⟨_, rfl, Hu.out, Hbw.out⟩

theorem rready9_any (A : Option Addr) (n cap : Nat) (l : List Cg) (hn : l.length = n) (hm : n ≤ 4096) (hN : ∀ c ∈ l, c.needs.length ≤ 4096) (block : Int) (w : World) (hr : RdL RdC w A 5 l) :
    Calls Tryz.prog 59 #[.slice A n cap, .int .i64 block] w (RetI w (readyC l block)) := (rready9O_any A n cap l hn hm hN block w hr).mono fun _ _ h => h.plain

end Go.Proofs.YtpmbpklbiocclaaGreat
