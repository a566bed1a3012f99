/-
  The contract of package sched's Deep (stage 13): one more that needs all that is left is deeper by one than the deepest.
-/
import Derived.Test.YtpmbpklbiocclaaGreatGrBC
import Derived.Test.YtpmbpklbiocclaaGreatGrBJ
import Derived.Test.YtpmbpklbiocclaaGreatGrBH
import Derived.Test.YtpmbpklbiocclaaGreatGrBG
import Derived.Test.YtpmbpklbiocclaaGreatGrBE
import Derived.Test.YtpmbpklbiocclaaGreatGrAO
import Derived.Test.YtpmbpklbiocclaaGreatGrAJ
namespace Go.Proofs.YtpmbpklbiocclaaGreat
open Go.RowKit

theorem Tryz.intSizeD : (Tryz.prog.info? 3).map (·.size) = some 1 := by kernel_rfl
def idAtD (l : List Cg) (k : Nat) : Int := (l.getD k default).id
theorem zc_readD {w : World} {g n : Nat} {e : TypeId} {z : Nat → Int} {ss : List Int} (hg : Blk w g e (zc n z)) (hn : ss.length = n) (hz : ∀ k (h : k < ss.length), ss[k] = z k) : RC w (some ⟨g, 0, none⟩) (ivals ss) := fun k hk => by
  rw [ivals_len] at hk
  refine ⟨_, rfl, ?_⟩
  rw [addr_add0, hg.cell, zc_get z (by omega)]
  simp [ivals, hz k hk]
theorem RB.of_blkZ {w : World} {g : Nat} {t : TypeId} (h : Blk w g t #[.int .u8 0]) : RB w (some ⟨g, 0, none⟩) [0] := fun k hk => by
  obtain rfl : k = 0 := by simp at hk; omega
  exact ⟨_, rfl, h.cell 0⟩
def moreOf (z : Int) (l : List Cg) : Cg := ⟨z, 0, ⟨0, [0]⟩, l.map (·.id)⟩
theorem moreOf_is {z : Int} {l : List Cg} (h : ∀ c ∈ l, c.id < z) : moreC l (moreOf z l) := ⟨rfl, rfl, rfl, h⟩
set_option maxRecDepth 100000 in
set_option maxHeartbeats 16000000 in
theorem deepC13 : DeepC := by
  intro w ro c b g x T h hT
  have HM := Lib.hid h.ok.may
  have HI := Lib.hid h.ok.ids
  have HN := Lib.hid (show ∀ d ∈ x.list, d.needs.length ≤ 4096 from fun d hd => by have h1 := h.ok.nlen d hd; have h2 := h.last; omega)
  have HLn := Lib.hid (show x.list.length ≤ 1000 from by have h2 := h.ok.wrote; have h3 := h.last; omega)
  have HLa := Lib.hid (show x.last ≤ 1000 from by have h3 := h.last; omega)
  have HDle := Lib.hid (show deepC x.list ≤ 1000 from maxL_le fun y hy => by
    obtain ⟨d, hd, rfl⟩ := List.mem_map.1 hy
    have h1 := depthC_le (id := d.id) h.ok.may
    have h0 := (allC_sub h.ok.may (id := d.id) ⟨d, hd, rfl⟩).length_le
    rw [List.length_map] at h0
    have h2 := h.ok.wrote
    have h3 := h.last
    omega)
  have CA := Lib.hid (fun (w' : World) (hb : Below w.heap.size w w') => c_last (h.ext hb))
  have CL := c_left h hT
  clear h
  obtain ⟨la, hla⟩ : ∃ n, x.last = n := ⟨_, rfl⟩
  rw [hla] at CA HI HLa
  clear hla
  generalize x.list = L at *
  go_enter Tryz.func14, Tryz.ntmps14
  go_wp2_with fail
  refine (CL).mono ?_; rintro e w1 ⟨A1, n1, c1, rfl, q1, q2, q3, ho1, hb1⟩
  have Q1 := Lib.hid q1
  have O1 := Lib.hid ho1.plainHi
  have R1 : Hid (RdL RdC w1 A1 5 L) := Lib.hid (by
    obtain ⟨A', c', k1, _, _, k4⟩ := ho1.plainHi.read
    injection k1 with k1
    subst k1
    exact k4)
  have B1 := Lib.hid hb1
  have hn1 : n1 ≤ 1000 := by have := HLn.out; omega
  clear q1 q2 q3 ho1 hb1 CL HLn
  go_wp2_with (refine wpList_make_zero rfl _ _ _ _ rfl Tryz.underlying59 (.int .i64 0) 8 Tryz.infoInt rfl .i64 .i64 _ _ n1 rfl rfl rfl rfl (by omega) (by omega) (zc n1 (fun _ => 0)) (zc_zero n1) ?_)
  apply Stop.go; intro w2 Hg2 Hb2
  generalize hgm : w1.heap.size = gm at Hb2 ⊢
  have GM := Lib.hid hgm
  clear hgm
  go_wp2_with fail
  go_loopw [15] (fun i wr => ∃ k : Nat, k ≤ n1 ∧ i = .int .i64 k ∧ Blk wr gm 3 (zc n1 (fun i => if i < k then idAtD L i else 0)) ∧ Below w1.heap.size w1 wr) (fun i _ => n1 - (intOf i).toNat)
  case atStart => exact ⟨0, Nat.zero_le _, rfl, by have := Hb2.out; rw [zc_congr (z := fun _ => 0) (fun k _ => by rw [if_neg (Nat.not_lt_zero k)])]; exact this, Hg2.out.1⟩
  case round =>
    obtain ⟨k, hk, rfl, hbk, hbw⟩ := hrel
    have Hbk := Lib.hid hbk
    have Hbw := Lib.hid hbw
    clear hbk hbw
    by_cases hlt : k < n1
    · have d0 : decide ((k : Int) < (n1 : Int)) = true := by simpa using hlt
      have hkl : k < L.length := by rw [Q1.out]; exact hlt
      have z1 : (k : Int) < n1 := by omega
      obtain ⟨ad, Ad, nd, cd, An, nn, cn, rfl, hcv, h0, h1, h2, h3, h4⟩ := (R1.out.below Hbw.out).cg hkl
      have C0 := Lib.hid h0
      have C1 := Lib.hid h1
      have C2 := Lib.hid h2
      have C3 := Lib.hid h3
      have C4 := Lib.hid h4
      clear h0 h1 h2 h3 h4 hcv
      have HE := Lib.hid (show idAtD L k = L[k].id by unfold idAtD; simp [List.getD, hkl])
      have HS := Lib.hid (zc_step n1 (idAtD L) k)
      rw [HE.out] at HS
      generalize L[k] = c at *
      go_wp2_with (first | refine wpList_load_five rfl _ _ rfl (ad.add (k * 5)) rfl _ _ _ _ _ C0.out C1.out C2.out C3.out C4.out _ Tryz.underlying88 Tryz.chgSize ?_ | refine wpList_alloc_row rfl _ rfl _ Tryz.chgZero ?_); apply Stop.go; intro w3 Hg3 Hb3; go_wp2_with (refine wpList_store_arr rfl _ _ _ rfl _ #[.int .i64 c.id, .int .i64 c.block, .int .i64 c.p.at_, .slice Ad nd cd, .slice An nn cn] rfl rfl _ _ Hb3.out Tryz.chgSize rfl (by simp [Value.oneCell']) ?_); apply Stop.go; intro w4 Ho4 Hb4; have D4 := Lib.hid (bonly Hg3.out.1 Ho4.out (Nat.le_refl _))
      have c1 : w4.cell? ⟨wr.heap.size, 0, none⟩ = some (.int .i64 c.id) := Hb4.out.five.1
      have Hk4 := Lib.hid (Hbk.out.ext D4.out)
      go_wp2_with (refine wpList_store_cell rfl _ _ _ rfl Tryz.intSizeD gm k rfl (.int .i64 c.id) rfl rfl rfl _ _ Hk4.out (by rw [zc_size]; exact hlt) ?_)
      apply Stop.go; intro w5 Ho5 Hb5
      rw [HS.out] at Hb5
      go_wp2_with fail
      go_roundw
      case rel => exact ⟨k + 1, by omega, by go_num, Hb5.out, bonly (bt Hbw.out D4.out) Ho5.out (Nat.le_of_eq GM.out)⟩
      case measure => simp [intOf]; omega
    · have d0 : decide (k < n1) = false := decide_eq_false hlt
      have hblk := Hbk.out
      rw [zc_congr (z := idAtD L) (fun i hi => by rw [if_pos (by omega)])] at hblk
      have RN := Lib.hid (zc_readD (ss := L.map (·.id)) hblk (by simpa using Q1.out) (fun k hk => by
        have hk' : k < L.length := by simpa using hk
        simp [idAtD, List.getD, hk']))
      have BW := Lib.hid (bt B1.out Hbw.out)
      have OR := Lib.hid (O1.out.ext Hbw.out)
      have GMr := Lib.hid hblk.lt
      have OLT := Lib.hid (fun q e => show q < gm from by have h1 := (O1.out.lt q e).2; have h2 := GM.out; omega)
      obtain ⟨z, hz⟩ : ∃ z : Int, (la : Int) + 1 = z := ⟨_, rfl⟩
      have ZL := Lib.hid (show 0 < z ∧ z ≤ 1001 from by have := HLa.out; omega)
      have MC := Lib.hid (moreOf_is (z := z) (l := L) (fun c hc => by have := HI.out c hc; omega))
      have MD := Lib.hid (more_depth HM.out MC.out ZL.out.1)
      have q9 : IntKind.i64.wrap ((la : Int) + 1) = z := by have := HLa.out; rw [IntKind.wrap_i64]; omega
      obtain ⟨dd, hdd⟩ : ∃ d, deepC L = d := ⟨_, rfl⟩
      obtain ⟨d1, hd1⟩ : ∃ d, dd + 1 = d := ⟨_, rfl⟩
      have q10 : IntKind.i64.wrap ((d1 : Int) - 1) = (dd : Int) := by have := HDle.out; rw [IntKind.wrap_i64]; omega
      rw [hdd, hd1] at MD
      have DE := Lib.hid hdd
      clear hblk hlt hz hdd hd1 Hbk Hbw
      go_wp2_with fail
      refine (CA.out wr BW.out).mono ?_; rintro e wr ⟨rfl, rfl⟩
      clear CA
      go_wp2_with (refine wpList_build_one1 rfl _ _ _ rfl Tryz.underlying56 1 (.int .u8 0) Tryz.byteInfo (.int .u8 0) rfl rfl rfl ?_)
      apply Stop.go; intro w4 Hg4 Hb4
      go_wp2_with (refine wpList_alloc_row rfl _ rfl _ Tryz.chgZero ?_)
      apply Stop.go; intro w5 Hg5 Hb5
      go_wp2_with (refine wpList_store_arr rfl _ _ _ rfl _ #[.int .i64 z, .int .i64 0, .int .i64 0, .slice (some ⟨wr.heap.size, 0, none⟩) 1 1, .slice (some ⟨gm, 0, none⟩) n1 n1] rfl rfl _ _ Hb5.out Tryz.chgSize rfl (by simp [Value.oneCell']) ?_)
      apply Stop.go; intro w6 Ho6 Hb6
      have B46 := Lib.hid (bonly (bt Hg4.out.1 Hg5.out.1) Ho6.out Hg4.out.1.size)
      have CVm : Hid (CV w6 (moreOf z L) (some ⟨wr.heap.size, 0, none⟩) 1 1 (some ⟨gm, 0, none⟩) n1 n1) := Lib.hid ⟨(show -9223372036854775808 ≤ z from by have := ZL.out; omega), (show z < 9223372036854775808 from by have := ZL.out; omega), (by show (-9223372036854775808 : Int) ≤ 0; decide), (by show (0 : Int) < 9223372036854775808; decide), ⟨(by show (-9223372036854775808 : Int) ≤ 0; decide), (by show (0 : Int) < 9223372036854775808; decide), rfl, Nat.le_refl _, (by decide), (RB.of_blkZ Hb4.out).below (bonly Hg5.out.1 Ho6.out (Nat.le_refl _))⟩, (by show (L.map (·.id)).length = n1; rw [List.length_map]; exact Q1.out), Nat.le_refl _, (by unfold maxLen; omega), RN.out.below B46.out, (fun y hy => by
        obtain ⟨d, hd, rfl⟩ := List.mem_map.1 hy
        have h1 := HI.out d hd
        have h2 := mayN_gt HM.out d hd
        have h3 := HLa.out
        omega)⟩
      have O6 := Lib.hid (OR.out.ext B46.out)
      have BW6 := Lib.hid (bt BW.out B46.out)
      have Z5 := Lib.hid (show wr.heap.size < w4.heap.size from by have := Hg4.out.2; omega)
      have N46 := Lib.hid B46.out.size
      obtain ⟨gA, hgA⟩ : ∃ k, w4.heap.size = k := ⟨_, rfl⟩
      rw [hgA] at Hb6 Z5 ⊢
      clear Hg4 Hb4 Hg5 Hb5 Ho6 hgA OR RN BW B46
      go_wp2_with fail
      refine WH.start (S := fun w' : World => Blk w' gA 88 #[.int .i64 z, .int .i64 0, .int .i64 0, .slice (some ⟨wr.heap.size, 0, none⟩) 1 1, .slice (some ⟨gm, 0, none⟩) n1 n1]) (List.replicate 9 false) 9 rfl rfl (by kernel_rfl) (Hb6.out.ext (bdrew w6 1)) (fun hSn => ?_)
      simp only [List.replicate]
      focus (
        have Hex := Lib.hid (bdrew w6 1)
        obtain ⟨wS, hwS⟩ : ∃ y, w6.drew = y := ⟨_, rfl⟩
        rw [show w6.drewN 1 = wS from hwS] at Hex
        rw [hwS] at hSn ⊢
        clear hwS
        refine WH.tk 0 ?_; simp only [setL]
        refine WH.tv 1 rfl (fun w' hSw => exec_load_five _ _ rfl ⟨gA, 0, none⟩ rfl _ _ _ _ _ (hSw.cell 0) (hSw.cell 1) (hSw.cell 2) (hSw.cell 3) (hSw.cell 4) _ Tryz.underlying88 Tryz.chgSize) ?_; simp only [setL]
        refine WH.tk 4 ?_; simp only [setL]
        refine WH.tv 5 rfl (fun w' hSw => exec_load_cell _ _ rfl ⟨gA, 0, none⟩ rfl (.int .i64 z) (hSw.cell 0) _ Tryz.underlying3 rfl) ?_; simp only [setL]
        refine WH.only 2 _ rfl (by kernel_rfl) rfl (fun K hK => ?_)
        refine ow_build_row _ _ _ rfl Tryz.underlying46 5 72 _ Tryz.chgInfo (by decide) (by decide) #[.int .i64 z, .int .i64 0, .int .i64 0, .slice (some ⟨wr.heap.size, 0, none⟩) 1 1, .slice (some ⟨gm, 0, none⟩) n1 n1] rfl rfl ?_
        apply Stop.go
        intro wB HgB HbB
        have D7 := Lib.hid (bt Hex.out HgB.out.1)
        have O7 := Lib.hid (O6.out.ext D7.out)
        have CV7 := Lib.hid (CVm.out.below D7.out)
        have B7 := Lib.hid (bt BW6.out D7.out)
        have S7 : Blk wB gA 88 #[.int .i64 z, .int .i64 0, .int .i64 0, .slice (some ⟨wr.heap.size, 0, none⟩) 1 1, .slice (some ⟨gm, 0, none⟩) n1 n1] := hSn.ext HgB.out.1
        have hSn := S7; refine hK _ _ hSn ?_; clear hK; clear K; simp only [setL]
        refine WH.only 3 _ rfl (by kernel_rfl) rfl (fun K hK => ?_)
        refine ow_append_L RdC _ _ _ _ rfl Tryz.underlying46 5 72 _ Tryz.chgInfo rfl (by decide) w.heap.size _ L rfl O7.out _ _ rfl HbB.out rfl (by simp [Value.oneCell']) (moreOf z L) CV7.out.rd (fun q hq e => far5 hq (fun e2 => by have h1 := OLT.out q e; have h2 := GMr.out; simp at e2; omega) (fun e2 => by have h1 := OLT.out q e; simp at e2; omega)) B7.out.size (by rw [Q1.out]; omega) (by rw [Q1.out]; omega) ?_
        rw [Q1.out]
        apply Stop.go
        intro gL capL wL HL HbL HgL HwL
        have hR : ∃ c', n1 + 1 ≤ capL ∧ c' = capL ∧ RdL RdC wL (some ⟨gL, 0, none⟩) 5 (L ++ [moreOf z L]) := by
          obtain ⟨A', c', k1, k2, _, k4⟩ := HL.out.read
          injection k1 with k1 k5 k6
          subst k1; subst k6
          rw [← k5] at k2
          exact ⟨_, k2, rfl, k4⟩
        obtain ⟨_, hcap, -, hrl⟩ := hR
        have RL := Lib.hid hrl
        have HC := Lib.hid hcap
        have BL := Lib.hid (B7.out.trans HbL.out)
        have SL := S7.grown HgL.out (fun e => by have h1 := OLT.out gA e.symm; have h2 := GMr.out; have h3 := Z5.out; omega)
        clear hrl hcap S7 HbB HgB HL HbL HgL HwL
        have hSn := SL; refine hK _ _ hSn ?_; clear hK; clear K; simp only [setL]
        have CG := gdepth_any (some ⟨gL, 0, none⟩) (n1 + 1) capL (L ++ [moreOf z L]) (by rw [List.length_append, Q1.out]; rfl) HC.out (by omega) (fun d hd => by
          rcases List.mem_append.1 hd with hd | hd
          · exact HN.out d hd
          · rw [List.mem_singleton] at hd
            subst hd
            show (L.map (·.id)).length ≤ 4096
            rw [List.length_map, Q1.out]
            omega) z wL RL.out
        rw [show depthC (L ++ [moreOf z L]) z = d1 from MD.out] at CG
        refine WH.only 6 _ rfl (by kernel_rfl) rfl (fun K hK => ?_); go_simp; refine (CG).mono ?_; rintro e wd ⟨rfl, hbd⟩; go_simp
        have BD := Lib.hid (bt BL.out hbd)
        have SD := SL.ext hbd
        clear hbd CG
        have hSn := SD; refine hK _ _ hSn ?_; clear hK; clear K; simp only [setL]
        refine WH.tk 7 ?_; simp only [setL]
        refine WH.tk 8 ?_; simp only [setL]
        refine WH.done (by kernel_rfl) ?_
        clear hSn SD SL
        go_wp2_with fail
        go_ret
        rw [DE.out]
        exact ⟨rfl, BD.out⟩)

end Go.Proofs.YtpmbpklbiocclaaGreat
