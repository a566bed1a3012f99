/-
  The program's: end, walked.
-/
import Derived.Test.YtpmbpklbiocclaaGreatGrAO
namespace Go.Proofs.YtpmbpklbiocclaaGreat
open Go.RowKit

set_option maxRecDepth 100000 in
set_option maxHeartbeats 8000000 in
theorem end_any {w : World} {ro : Nat → Option Rl} {A : CA} {S : CS} {ids : List Int} {dep : Int → Int → Bool} (h : HP w ro A S) (hG : Gr S ids dep) (b : Int) (hk : S.kn b = true) (L : List Int) (hL : L.Nodup) (hLs : ∀ x ∈ L, x ∈ ids)
    (Ai : Option Addr) (ci : Nat) (hr : RC w Ai (ptrs A.ha L)) (hfi : ∀ ad, Ai = some ad → ro ad.block = none) (hdr : 0 ≤ S.dirty b ∧ S.dirty b < 1000000) (he0 : 0 ≤ S.ended) (hel : S.ended ≤ S.last) (hla : S.last < 1000000) :
    Calls Tryz.prog 68 #[ptr A.ca, ptr (A.ka b), .slice Ai L.length ci] w fun e w' => e = .returned (.tuple #[]) ∧ ∃ ro' fv' Wt Fr en, HP w' ro' { A with fv := fv' } { S with lf := lfT S.lf L, waits := Wt, free := updF Fr b [], dirty := updF S.dirty b (S.dirty b - (L.length : Int)), ended := en } ∧ Tr ro ro' w w' ∧
      EI S ids dep L L.length 0 Wt Fr ∧ S.ended ≤ en ∧ en ≤ S.last ∧ (∀ i, S.ended < i → i ≤ en → lfT S.lf L i = false) ∧ (en < S.last → lfT S.lf L (en + 1) = true) := by
  have H := Lib.hid h
  have G := Lib.hid hG
  have HK := Lib.hid hk
  have HLn := Lib.hid hL
  have HLs := Lib.hid hLs
  have Hr := Lib.hid hr
  have Hfi := Lib.hid hfi
  obtain ⟨nL, hnL⟩ : ∃ nL, L.length = nL := ⟨_, rfl⟩
  have HnL := Lib.hid hnL
  have hnLb : nL ≤ 100000 := by rw [← hnL]; exact Nat.le_trans (nodup_len hL hLs) hG.len
  rw [hnL]
  have ES := Lib.hid (EI.start (L := L) hG)
  have TS := Lib.hid (Tr.refl ro w)
  clear h hG hk hL hLs hr hfi hnL
  unfold ptr
  go_enter Tryz.func68, Tryz.ntmps68
  go_wp2_with fail
  go_loopw [13] (fun i wr => ∃ (p : Nat) (rk : Nat → Option Rl) (fv1 : Int → Value) (Wt : Int → Int) (Fr : Int → List Int), p ≤ nL ∧ i = .int .i64 p ∧ HP wr rk { A with fv := fv1 } { S with lf := lfT S.lf (L.take p), waits := Wt, free := Fr } ∧ Tr ro rk w wr ∧ EI S ids dep L p 0 Wt Fr) (fun i _ => nL - (intOf i).toNat)
  case atStart => exact ⟨0, ro, A.fv, S.waits, S.free, Nat.zero_le _, rfl, by rw [List.take_zero, lfT_nil]; exact H.out, TS.out, ES.out⟩
  case round =>
    obtain ⟨p, rk, fv1, Wt, Fr, hpn, rfl, hpk, htk, hei⟩ := hrel
    have Hk := Lib.hid hpk
    have Tk := Lib.hid htk
    have E := Lib.hid hei
    clear hpk htk hei ES TS
    by_cases hlt : p < nL
    · have d0 : decide ((p : Int) < (nL : Int)) = true := by simpa using hlt
      have hpl : p < L.length := by rw [HnL.out]; exact hlt
      obtain ⟨ad, rfl, hc⟩ := (Hr.out.tr Tk.out Hfi.out) p (by rw [ptrs_len]; exact hpl)
      rw [ptrs_get hpl] at hc
      obtain ⟨i, hi⟩ : ∃ i, L[p] = i := ⟨_, rfl⟩
      rw [hi] at hc
      have HI := Lib.hid hi
      have HPL := Lib.hid hpl
      have him := HLs.out i (by rw [← hi]; exact List.getElem_mem hpl)
      have HIM := Lib.hid him
      have LI := Lib.hid (G.out.lv i him)
      have IDI := Lib.hid (G.out.idd i him)
      have Hwf := Lib.hid (wf_int (G.out.rng i him).1 (G.out.rng i him).2)
      unfold ptr at hc
      clear hi him
      go_wp2_with fail
      refine WH.start (S := fun w' : World => Blk w' A.ca 98 (ccells A S) ∧ Blk w' (A.ha i) 101 (hcells (S.cg i) (A.sl i) (Wt i) (A.hv i))) [false, false, false, false, false, false, false, false, false, false] 10 rfl rfl (by kernel_rfl) ⟨(Hk.out.drew 1).cc, (Hk.out.drew 1).hb LI.out⟩ (fun hSn => ?_)
      obtain ⟨wS, hwS⟩ : ∃ x, wr.drew = x := ⟨_, rfl⟩
      have HkS := Lib.hid (Hk.out.drew 1)
      have TkS := Lib.hid (Tk.out.bel (bdrew wr 1))
      rw [show wr.drewN 1 = wS from hwS] at HkS TkS
      rw [hwS] at hSn ⊢
      clear hwS
      refine WH.tk 0 ?_; simp only [setL]
      refine WH.tk 1 ?_; simp only [setL]
      refine WH.tk 2 ?_; simp only [setL]
      refine WH.tv 3 rfl (fun w' hSw => exec_load_cell _ _ rfl _ rfl (.map (some A.ml)) (hSw.1.cell 2) _ (Tryz.underlying94) rfl) ?_; simp only [setL]
      refine WH.tk 4 ?_; simp only [setL]
      refine WH.tk 5 ?_; simp only [setL]
      refine WH.tk 6 ?_; simp only [setL]
      refine WH.tk 7 ?_; simp only [setL]
      refine WH.tv 8 rfl (fun w' hSw => exec_load_cell _ _ rfl _ rfl (.int .i64 (S.cg i).id) (hSw.2.cell 0) _ (Tryz.underlying3) rfl) ?_; simp only [setL]
      refine WH.only 9 _ rfl (by kernel_rfl) rfl (fun K hK => ?_)
      refine ow_mapZ_delete _ _ _ _ rfl _ Tryz.underlying3 Tryz.underlying94 rfl HkS.out.mlw i (by show Value.int .i64 (S.cg i).id = _; rw [IDI.out]) Hwf.out ?_
      apply Stop.go; intro w5 Hm5 Ho5
      have H5 := Lib.hid (HkS.out.setL (lfT S.lf (L.take (p + 1))) A.nl (fun g hg hne => Ho5.out.block g hne) (Nat.le_of_eq Ho5.out.size.symm) (by
        have h := Hm5.out
        rw [pmap_del] at h
        show MapZ _ _ _ _ _ _ (pmap (lfT S.lf (L.take (p + 1))) A.ha)
        rw [← lfT_step S.lf HPL.out HI.out]
        exact h))
      have T5 := Lib.hid (TkS.out.only Ho5.out (by rw [(HkS.out.asn .ml).1]; simp))
      have hSn := (show Blk w5 A.ca 98 (ccells A S) ∧ Blk w5 (A.ha i) 101 (hcells (S.cg i) (A.sl i) (Wt i) (A.hv i)) from ⟨H5.out.cc, H5.out.hb LI.out⟩); refine hK _ _ hSn ?_; clear hK; clear K; simp only [setL]
      refine WH.done (by kernel_rfl) ?_
      obtain ⟨A4, q4, e4, _, _, _⟩ := (H5.out.bw LI.out).read
      rw [ptrs_len, show ({ S with lf := lfT S.lf (L.take (p + 1)), waits := Wt, free := Fr } : CS).beh i = S.beh i from rfl, G.out.beh i HIM.out] at e4
      have HE4 := Lib.hid (show A.hv i = .slice A4 (bN ids dep i).length q4 from e4)
      obtain ⟨nb, hnb⟩ : ∃ nb, (bN ids dep i).length = nb := ⟨_, rfl⟩
      have HNB := Lib.hid hnb
      have hnbl : nb ≤ 100000 := by rw [← hnb]; exact Nat.le_trans (List.length_filter_le _ _) G.out.len
      rw [hnb] at HE4
      have c6 : w5.cell? ⟨A.ha i, 6, none⟩ = some (.slice A4 nb q4) := by rw [(H5.out.hb LI.out).cell 6, ← HE4.out]; rfl
      clear hnb e4 hSn Ho5 Hm5 HkS TkS Hk Tk
      go_wp2_with fail
      go_loopw [31] (fun x wq => ∃ (k : Nat) (rq : Nat → Option Rl) (fv2 : Int → Value) (Wt2 : Int → Int) (Fr2 : Int → List Int), k ≤ nb ∧ x = .int .i64 k ∧ HP wq rq { A with fv := fv2 } { S with lf := lfT S.lf (L.take (p + 1)), waits := Wt2, free := Fr2 } ∧ Tr ro rq w wq ∧ EI S ids dep L p k Wt2 Fr2) (fun x _ => nb - (intOf x).toNat)
      case atStart => exact ⟨0, _, _, _, _, Nat.zero_le _, rfl, H5.out, T5.out, E.out⟩
      case round =>
        obtain ⟨k, rq, fv2, Wt2, Fr2, hkn, rfl, hpk, htk, hei⟩ := hrel
        have Hq := Lib.hid hpk
        have Tq := Lib.hid htk
        have E2 := Lib.hid hei
        clear hpk htk hei c6 E H5 T5 hc
        by_cases hlk : k < nb
        · have d1 : decide ((k : Int) < (nb : Int)) = true := by simpa using hlk
          have hkb : k < (bN ids dep i).length := by rw [HNB.out]; exact hlk
          have hr4' : RC wr A4 (ptrs A.ha (bN ids dep i)) := by
            have ho := Hq.out.bw LI.out
            rw [show ({ A with fv := fv2 } : CA).hv i = A.hv i from rfl, HE4.out, show ({ S with lf := lfT S.lf (L.take (p + 1)), waits := Wt2, free := Fr2 } : CS).beh i = S.beh i from rfl, G.out.beh i HIM.out] at ho
            obtain ⟨A', c', e', _, _, hr'⟩ := ho.read
            injection e' with e1 e2 e3
            rw [e1]; exact hr'
          obtain ⟨ad4, rfl, hc4⟩ := hr4' k (by rw [ptrs_len]; exact hkb)
          rw [ptrs_get hkb] at hc4
          obtain ⟨j, hj⟩ : ∃ j, (bN ids dep i)[k] = j := ⟨_, rfl⟩
          rw [hj] at hc4
          have hjm := (bN_mem.1 (show j ∈ bN ids dep i from hj ▸ List.getElem_mem hkb)).1
          have LJ := Lib.hid (G.out.lv j hjm)
          have KJ := Lib.hid (G.out.kn j hjm)
          have CVJ := Lib.hid (Hq.out.cvw LJ.out)
          have hwl : wN ids dep j ≤ 100000 := Nat.le_trans (List.length_filter_le _ _) G.out.len
          have hlow := mcN_low G.out.nd HLn.out HLs.out HPL.out HI.out hkb hj
          have hwj := E2.out.w j hjm
          obtain ⟨x0, hx0⟩ : ∃ x0, Wt2 j = x0 := ⟨_, rfl⟩
          have hxb : 1 ≤ x0 ∧ x0 ≤ 100000 := by omega
          obtain ⟨x, hx⟩ : ∃ x, x0 - 1 = x := ⟨_, rfl⟩
          have hwx : IntKind.i64.wrap (x0 - 1) = x := by rw [IntKind.wrap_i64]; omega
          have HX := Lib.hid (show Wt2 j - 1 = x by rw [hx0]; exact hx)
          have HX0 := Lib.hid hx0
          have hxn : 0 ≤ x := by omega
          have EZ := Lib.hid (show x = 0 → EI S ids dep L p (k + 1) (updF Wt2 j 0) (updF Fr2 (S.cg j).block (Fr2 (S.cg j).block ++ [j])) from fun hz => E2.out.zero G.out.nd HPL.out HI.out hkb hj (by rw [HX.out]; exact hz) KJ.out)
          have EN := Lib.hid (show x ≠ 0 → EI S ids dep L p (k + 1) (updF Wt2 j x) Fr2 from fun hz => E2.out.step G.out.nd HPL.out HI.out hkb hj HX.out hz (by rw [hx0]; exact hxb.1))
          have FL : Hid ((Fr2 (S.cg j).block).length ≤ 100000) := Lib.hid (by
            obtain ⟨f1, f2⟩ := E2.out.f _ KJ.out
            exact Nat.le_trans (nodup_len f1 (B := ids) fun y hy => ((f2 y).1 hy).1) G.out.len)
          have Hwb := Lib.hid (wf_int CVJ.out.lo1 CVJ.out.hi1)
          have CJ : Hid (Blk wr (A.ha j) 101 (hcells (S.cg j) (A.sl j) x0 (A.hv j))) := Lib.hid (by have h := Hq.out.hb LJ.out; rw [show ({ S with lf := lfT S.lf (L.take (p + 1)), waits := Wt2, free := Fr2 } : CS).waits j = x0 from hx0] at h; exact h)
          have cj5 : wr.cell? ⟨A.ha j, 5, none⟩ = some (.int .i64 x0) := CJ.out.cell 5
          unfold ptr at hc4
          clear hr4' hkb hj hjm hwl hlow hwj hx0 hx hxb CVJ
          go_wp2_with (refine wpList_store_cell rfl _ _ _ rfl Tryz.intSize (A.ha j) 5 rfl _ rfl rfl rfl _ _ CJ.out (show 5 < 7 by decide) ?_)
          apply Stop.go; intro w6 Ho6 Hb6
          have HB6 : Hid (Blk w6 (A.ha j) 101 (hcells (S.cg j) (A.sl j) x (A.hv j))) := Lib.hid (by
            have h := Hb6.out
            (try rw [hwx] at h)
            exact h)
          have H6 := Lib.hid (Hq.out.setW LJ.out x Ho6.out HB6.out)
          have T6 := Lib.hid (Tq.out.only Ho6.out (by rw [(Hq.out.asn (.chg j) LJ.out).1]; simp))
          have c65 : w6.cell? ⟨A.ha j, 5, none⟩ = some (.int .i64 x) := HB6.out.cell 5
          clear Ho6 Hb6 cj5 hc4 Hq Tq CJ
          by_cases hz : x = 0
          · have d2 : (x == 0) = true := by simp [hz]
            have EE := Lib.hid (EZ.out hz)
            have MB := Lib.hid (pmap_in (a := A.ka) KJ.out).1
            have hfl := FL.out
            have hfl1 : (Fr2 (S.cg j).block).length + 1 ≤ maxLen := by unfold maxLen; omega
            have hfl2 : ((Fr2 (S.cg j).block).length + 1) * 8 ≤ 140737488355328 := by omega
            have HZ := Lib.hid hz
            clear hz hfl EZ EN
            go_wp2_with fail
            refine WH.start (S := fun w' : World => Blk w' A.ca 98 (ccells A S) ∧ Blk w' (A.ha j) 101 (hcells (S.cg j) (A.sl j) x (A.hv j)) ∧ MapZ (.pointer none) w' Tryz.prog 3 A.mb A.nb (pmap S.kn A.ka)) [false, false, false, false, false, false, false, false, false, false, false] 11 rfl rfl (by kernel_rfl) ⟨(H6.out.drew 1).cc, HB6.out.ext (bdrew w6 1), (H6.out.drew 1).mbw⟩ (fun hSn => ?_)
            obtain ⟨w7, hw7⟩ : ∃ x, w6.drew = x := ⟨_, rfl⟩
            have H7 := Lib.hid (H6.out.drew 1)
            have T7 := Lib.hid (T6.out.bel (bdrew w6 1))
            rw [show w6.drewN 1 = w7 from hw7] at H7 T7
            rw [hw7] at hSn ⊢
            clear hw7
            refine WH.tk 0 ?_; simp only [setL]
            refine WH.tk 1 ?_; simp only [setL]
            refine WH.tk 2 ?_; simp only [setL]
            refine WH.tv 3 rfl (fun w' hSw => exec_load_cell _ _ rfl _ rfl (.map (some A.mb)) (hSw.1.cell 1) _ (Tryz.underlying96) rfl) ?_; simp only [setL]
            refine WH.tk 4 ?_; simp only [setL]
            refine WH.tk 5 ?_; simp only [setL]
            refine WH.tk 6 ?_; simp only [setL]
            refine WH.tk 7 ?_; simp only [setL]
            refine WH.tv 8 rfl (fun w' hSw => exec_load_cell _ _ rfl _ rfl (.int .i64 (S.cg j).block) (hSw.2.1.cell 1) _ (Tryz.underlying3) rfl) ?_; simp only [setL]
            refine WH.tv 9 rfl (fun w' hSw => exec_lookP _ _ _ rfl _ _ Tryz.underlying3 Tryz.underlying96 Tryz.zeroBlk rfl hSw.2.2 (S.cg j).block rfl Hwb.out (.pointer (some ⟨A.ka (S.cg j).block, 0, none⟩)) MB.out) ?_; simp only [setL]
            refine WH.tk 10 ?_; simp only [setL]
            refine WH.done (by kernel_rfl) ?_
            obtain ⟨cb, hcb⟩ : ∃ cb, (S.cg j).block = cb := ⟨_, rfl⟩
            have HCB := Lib.hid hcb
            rw [hcb] at EE KJ hfl1 hfl2 ⊢
            clear hcb
            have LF := Lib.hid (H7.out.blkLen (k := cb) KJ.out)
            have cF : w7.cell? ⟨A.ka cb, 513, none⟩ = some (fv2 cb) := by rw [(H7.out.kb (k := cb) KJ.out).cell 513, List.getElem?_toArray, kc_free LF.out.1 LF.out.2.1]
            clear c65 d2 hSn H6 T6
            go_wp2_with (refine wpList_build_ptr rfl _ _ _ rfl Tryz.underlying99 (.pointer none) 8 Tryz.infoPtr (A.ha j) rfl ?_)
            apply Stop.go; intro w10 Hg10 Hb10
            have H10 := Lib.hid (H7.out.ext Hg10.out.1)
            have T10 := Lib.hid (T7.out.bel Hg10.out.1)
            go_wp2_with (at_builtin; refine wpList_append_ptr rfl _ _ _ _ rfl Tryz.underlying99 (.pointer none) 8 Tryz.infoPtr rfl 0 (fv2 cb) A.ha (Fr2 cb) rfl (H10.out.fw (k := cb) KJ.out) j _ rfl _ Hb10.out (Nat.zero_le _) hfl1 hfl2 ?_)
            apply Stop.go; intro v11 w11 Hv11 Hl11
            have Hown := Lib.hid (H10.out.asn (.fr cb) KJ.out).1
            have hneK : (fv2 cb).ownBlock ≠ some (A.ka cb) := fun e => by
              have h1 := Hown.out _ e
              have h2 := (H10.out.asn (.blk cb) KJ.out).1
              simp only at h2
              rw [h2] at h1
              cases h1
            have HKB := Lib.hid (Hl11.out.blk (H10.out.kb (k := cb) KJ.out) hneK)
            have hsz : 513 < (kc (S.base cb) (S.view cb) (S.dirty cb) (fv2 cb) (S.lat cb)).toArray.size := by rw [List.size_toArray, kc_len LF.out.1 LF.out.2.1 LF.out.2.2]; omega
            obtain ⟨A11, q11, rfl, _, _, _⟩ := Hv11.out.read
            go_wp2_with (refine wpList_store_cell rfl _ _ _ rfl Tryz.ptrsSize (A.ka cb) 513 rfl _ rfl rfl rfl _ _ HKB.out hsz ?_)
            apply Stop.go; intro w12 Ho12 Hb12
            have HF0 := Lib.hid (H10.out.setF (k := cb) KJ.out _ _ Hl11.out.grown (Hl11.out.place.imp (fun h => h) Or.inl) Hv11.out Ho12.out (by
              have h := Hb12.out
              (try rw [List.setIfInBounds_toArray] at h)
              rw [kc_setFree LF.out.1 LF.out.2.1] at h
              exact h))
            have TF0 := Lib.hid (((T10.out.grown Hl11.out.grown (fun g e => by rw [Hown.out g e]; simp)).only Ho12.out (by rw [(H10.out.asn (.blk cb) KJ.out).1]; simp)).addO Hown.out (Hl11.out.place.imp (fun h => h) Or.inl) T10.out.size)
            rw [HZ.out] at HF0
            go_wp2_with fail
            go_roundw
            case rel => exact ⟨k + 1, _, _, _, _, by omega, by go_num, HF0.out, TF0.out, EE.out⟩
            case measure => simp [intOf]; omega
          · have d2 : (x == 0) = false := by simpa using hz
            have EE := Lib.hid (EN.out hz)
            clear hz
            go_wp2_with fail
            go_roundw
            case rel => exact ⟨k + 1, _, _, _, _, by omega, by go_num, H6.out, T6.out, EE.out⟩
            case measure => simp [intOf]; omega
        · have d1 : decide ((k : Int) < (nb : Int)) = false := by simpa using hlk
          have EN := Lib.hid (E2.out.next HPL.out HI.out (by rw [HNB.out]; omega))
          go_wp2_with fail
          go_roundw
          case rel => exact ⟨p + 1, _, _, _, _, by omega, by go_num, Hq.out, Tq.out, EN.out⟩
          case measure => simp [intOf]; omega
    · have d0 : decide ((p : Int) < (nL : Int)) = false := by simpa using hlt
      obtain rfl : p = nL := by omega
      have HT := Lib.hid (show L.take p = L from List.take_of_length_le (by rw [HnL.out]; exact Nat.le_refl _))
      rw [HT.out] at Hk
      have LF := Lib.hid (Hk.out.blkLen (k := b) HK.out)
      have CB := Lib.hid (Hk.out.kb (k := b) HK.out)
      have hsz : 513 < (kc (S.base b) (S.view b) (S.dirty b) (fv1 b) (S.lat b)).toArray.size := by rw [List.size_toArray, kc_len LF.out.1 LF.out.2.1 LF.out.2.2]; omega
      go_wp2_with (refine wpList_store_cell rfl _ _ _ rfl Tryz.ptrsSize (A.ka b) 513 rfl _ rfl rfl rfl _ _ CB.out hsz ?_)
      apply Stop.go; intro w2 Ho2 Hb2
      have HF := Lib.hid (Hk.out.setF (k := b) HK.out (.slice none 0 0) [] (grown_same _ _) (Or.inr (Or.inr rfl)) (OwnC.nil_ _ _ _) Ho2.out (by
        have h := Hb2.out
        (try rw [List.setIfInBounds_toArray] at h)
        rw [kc_setFree LF.out.1 LF.out.2.1] at h
        exact h))
      have TF := Lib.hid ((Tk.out.only Ho2.out (by rw [(Hk.out.asn (.blk b) HK.out).1]; simp)).addO (v' := .slice none 0 0) (v := fv1 b) (r := .fr b) (n := w.heap.size) (Hk.out.asn (.fr b) HK.out).1 (Or.inr (Or.inr rfl)) (Nat.le_refl _))
      have LF2 := Lib.hid (HF.out.blkLen (k := b) HK.out)
      have CB2 := Lib.hid (HF.out.kb (k := b) HK.out)
      obtain ⟨db, hdb⟩ : ∃ db, S.dirty b = db := ⟨_, rfl⟩
      have HDB := Lib.hid hdb
      obtain ⟨d', hd'⟩ : ∃ d', db - (p : Int) = d' := ⟨_, rfl⟩
      have hdw : IntKind.i64.wrap (db - (p : Int)) = d' := by rw [hdb] at hdr; rw [IntKind.wrap_i64]; omega
      have c2 : w2.cell? ⟨A.ka b, 512, none⟩ = some (.int .i64 db) := by rw [CB2.out.cell 512, List.getElem?_toArray, kc_dirty LF2.out.1 LF2.out.2.1, ← hdb]
      have hsz2 : 512 < (kc (S.base b) (S.view b) (S.dirty b) (updF fv1 b (.slice none 0 0) b) (S.lat b)).toArray.size := by rw [List.size_toArray, kc_len LF2.out.1 LF2.out.2.1 LF2.out.2.2]; omega
      have HD' := Lib.hid hd'
      clear hdb hd' hsz Ho2 Hb2 CB Hk Tk
      go_wp2_with (refine wpList_store_cell rfl _ _ _ rfl Tryz.intSize (A.ka b) 512 rfl _ rfl rfl rfl _ _ CB2.out hsz2 ?_)
      apply Stop.go; intro w3 Ho3 Hb3
      have HD := Lib.hid (HF.out.setDirty (k := b) HK.out d' Ho3.out (by
        have h := Hb3.out
        (try rw [List.setIfInBounds_toArray] at h)
        rw [kc_setDirty LF2.out.1 LF2.out.2.1] at h
        (try rw [hdw] at h)
        exact h))
      have TD := Lib.hid (TF.out.only Ho3.out (by rw [(HF.out.asn (.blk b) HK.out).1]; simp))
      obtain ⟨rd, hrd⟩ : ∃ r, addO rk (.slice none 0 0) (.fr b) = r := ⟨_, rfl⟩
      rw [hrd] at HD TD
      clear hrd Ho3 Hb3 CB2 hsz2 c2 HF TF LF LF2 d0 hlt hdw
      obtain ⟨en0, hen0⟩ : ∃ e, S.ended = e := ⟨_, rfl⟩
      obtain ⟨la, hlae⟩ : ∃ e, S.last = e := ⟨_, rfl⟩
      have HEN := Lib.hid hen0
      have HLA := Lib.hid hlae
      rw [hen0] at he0 hel
      rw [hlae] at hla hel
      clear hen0 hlae
      go_wp2_with fail
      go_loopg [] ((la - en0).toNat) (fun g wq => ∃ en : Int, en0 ≤ en ∧ en ≤ la ∧ (la - en).toNat ≤ g ∧ HP wq rd { A with fv := updF fv1 b (.slice none 0 0) } { S with lf := lfT S.lf L, waits := Wt, free := updF Fr b [], dirty := updF S.dirty b d', ended := en } ∧ Tr ro rd w wq ∧ Hid (∀ i, en0 < i → i ≤ en → lfT S.lf L i = false))
      case atStart => exact ⟨en0, Int.le_refl _, hel, Nat.le_refl _, by have h := HD.out; rw [← HEN.out]; exact h, TD.out, Lib.hid (fun i h1 h2 => by omega)⟩
      case round =>
        obtain ⟨en, hn1, hn2, hn3, hpk, htk, HZ⟩ := hrel
        have Hq := Lib.hid hpk
        have Tq := Lib.hid htk
        clear hpk htk
        have CC := Lib.hid Hq.out.cc
        have hSC : ccells { A with fv := updF fv1 b (.slice none 0 0) } { S with lf := lfT S.lf L, waits := Wt, free := updF Fr b [], dirty := updF S.dirty b d', ended := en } = #[ptr A.dv, .map (some A.mb), .map (some A.ml), .int .i64 la, .int .i64 en] := by unfold ccells; rw [← HLA.out]
        rw [hSC] at CC
        clear hSC
        by_cases hlt : en < la
        · have d3 : decide (en < la) = true := by simpa using hlt
          obtain ⟨e1, he1⟩ : ∃ e1, en + 1 = e1 := ⟨_, rfl⟩
          have hew : IntKind.i64.wrap (en + 1) = e1 := by rw [IntKind.wrap_i64]; omega
          have HE1 := Lib.hid he1
          have hb1 : -9223372036854775808 ≤ e1 ∧ e1 < 9223372036854775808 := by omega
          have HB1 := Lib.hid hb1
          clear he1 hb1
          go_wp2_with fail
          refine WH.start (S := fun w' : World => Blk w' A.ca 98 #[ptr A.dv, .map (some A.mb), .map (some A.ml), .int .i64 la, .int .i64 en]) [false, false, false, false, false, false, false, false, false, false, false, false, false, false, false, false, false, false, false] 19 rfl rfl (by kernel_rfl) (CC.out.ext (bdrew wr 1)) (fun hSn => ?_)
          obtain ⟨wS, hwS⟩ : ∃ x, wr.drew = x := ⟨_, rfl⟩
          have HqS := Lib.hid (Hq.out.drew 1)
          have TqS := Lib.hid (Tq.out.bel (bdrew wr 1))
          rw [show wr.drewN 1 = wS from hwS] at HqS TqS
          rw [hwS] at hSn ⊢
          clear hwS CC Hq Tq
          refine WH.tk 0 ?_; simp only [setL]
          refine WH.tk 1 ?_; simp only [setL]
          refine WH.tk 2 ?_; simp only [setL]
          refine WH.tv 3 rfl (fun w' hSw => exec_load_cell _ _ rfl _ rfl (.int .i64 en) (hSw.cell 4) _ (Tryz.underlying3) rfl) ?_; simp only [setL]
          refine WH.tk 4 ?_; simp only [setL]
          refine WH.tk 5 ?_; simp only [setL]
          refine WH.tk 6 ?_; simp only [setL]
          refine WH.tv 7 rfl (fun w' hSw => exec_load_cell _ _ rfl _ rfl (.int .i64 la) (hSw.cell 3) _ (Tryz.underlying3) rfl) ?_; simp only [setL]
          refine WH.tk 8 ?_; simp only [setL]
          (try rw [d3])
          refine WH.tk 9 ?_; simp only [setL]
          refine WH.tk 10 ?_; simp only [setL]
          refine WH.tk 11 ?_; simp only [setL]
          refine WH.tk 12 ?_; simp only [setL]
          refine WH.tk 13 ?_; simp only [setL]
          refine WH.tv 14 rfl (fun w' hSw => exec_load_cell _ _ rfl _ rfl (.int .i64 en) (hSw.cell 4) _ (Tryz.underlying3) rfl) ?_; simp only [setL]
          refine WH.tk 15 ?_; simp only [setL]
          (try rw [hew])
          have CH := has_any HqS.out e1 HB1.out.1 HB1.out.2
          unfold ptr at CH
          refine WH.only 16 _ rfl (by kernel_rfl) rfl (fun K hK => ?_); go_simp; refine (CH).mono ?_; rintro e w7 ⟨rfl, rfl⟩; go_simp
          have hSn := hSn; refine hK _ _ hSn ?_; clear hK; clear K; simp only [setL]
          cases hf : lfT S.lf L e1
          · have HF := Lib.hid hf
            clear hf
            refine WH.tk 17 ?_; simp only [setL]
            refine WH.tk 18 ?_; simp only [setL]
            refine WH.done (by kernel_rfl) ?_
            have CC2 := Lib.hid HqS.out.cc
            have ce : w7.cell? ⟨A.ca, 4, none⟩ = some (.int .i64 en) := hSn.cell 4
            go_wp2_with (refine wpList_store_cell rfl _ _ _ rfl Tryz.intSize A.ca 4 rfl _ rfl rfl rfl _ _ CC2.out (show 4 < 5 by decide) ?_)
            apply Stop.go; intro w8 Ho8 Hb8
            have H8 := Lib.hid (HqS.out.setC S.last e1 Ho8.out (by
              have h := Hb8.out
              (try rw [hew] at h)
              exact h))
            have T8 := Lib.hid (TqS.out.only Ho8.out (by rw [(HqS.out.asn .ca).1]; simp))
            have HZ2 : Hid (∀ i, en0 < i → i ≤ e1 → lfT S.lf L i = false) := Lib.hid (fun i h1 h2 => by
              by_cases hi : i = e1
              · rw [hi]; exact HF.out
              · exact HZ.out i h1 (by have := HE1.out; omega))
            have he1 := HE1.out
            have hm1 : en0 ≤ e1 := by omega
            have hm2 : e1 ≤ la := by omega
            have hm3 : (la - e1).toNat < gk := by omega
            clear he1
            go_wp2_with fail
            go_roundg ((la - e1).toNat)
            case rel => exact ⟨e1, hm1, hm2, Nat.le_refl _, H8.out, T8.out, HZ2⟩
            case measure => exact hm3
          · have HF := Lib.hid hf
            clear hf
            refine WH.tk 17 ?_; simp only [setL]
            refine WH.tk 18 ?_; simp only [setL]
            refine WH.done (by kernel_rfl) ?_
            go_wp2_with fail
            go_end0
            refine ⟨rfl, rd, updF fv1 b (.slice none 0 0), Wt, Fr, en, ?_, TqS.out, ?_, ?_, ?_, ?_, ?_⟩
            · have h := HqS.out; rw [HDB.out, HD'.out]; exact h
            · exact E.out
            · rw [HEN.out]; exact hn1
            · rw [HLA.out]; exact hn2
            · rw [HEN.out]; exact HZ.out
            · intro _; rw [HE1.out]; exact HF.out
        · have d3 : decide (en < la) = false := by simpa using hlt
          go_wp2_with fail
          refine WH.start (S := fun w' : World => Blk w' A.ca 98 #[ptr A.dv, .map (some A.mb), .map (some A.ml), .int .i64 la, .int .i64 en]) [false, false, false, false, false, false, false, false, false, false, false, false, false, false, false, false, false, false, false] 19 rfl rfl (by kernel_rfl) (CC.out.ext (bdrew wr 1)) (fun hSn => ?_)
          obtain ⟨wS, hwS⟩ : ∃ x, wr.drew = x := ⟨_, rfl⟩
          have HqS := Lib.hid (Hq.out.drew 1)
          have TqS := Lib.hid (Tq.out.bel (bdrew wr 1))
          rw [show wr.drewN 1 = wS from hwS] at HqS TqS
          rw [hwS] at hSn ⊢
          clear hwS CC Hq Tq
          refine WH.tk 0 ?_; simp only [setL]
          refine WH.tk 1 ?_; simp only [setL]
          refine WH.tk 2 ?_; simp only [setL]
          refine WH.tv 3 rfl (fun w' hSw => exec_load_cell _ _ rfl _ rfl (.int .i64 en) (hSw.cell 4) _ (Tryz.underlying3) rfl) ?_; simp only [setL]
          refine WH.tk 4 ?_; simp only [setL]
          refine WH.tk 5 ?_; simp only [setL]
          refine WH.tk 6 ?_; simp only [setL]
          refine WH.tv 7 rfl (fun w' hSw => exec_load_cell _ _ rfl _ rfl (.int .i64 la) (hSw.cell 3) _ (Tryz.underlying3) rfl) ?_; simp only [setL]
          refine WH.tk 8 ?_; simp only [setL]
          (try rw [d3])
          refine WH.tk 9 ?_; simp only [setL]
          refine WH.skip 10 _ rfl (by kernel_rfl) (fun _ _ _ h => h) rfl (by assumption) ?_; simp only [setL]
          refine WH.skip 11 _ rfl (by kernel_rfl) (fun _ _ _ h => h) rfl (by assumption) ?_; simp only [setL]
          refine WH.skip 12 _ rfl (by kernel_rfl) (fun _ _ _ h => h) rfl (by assumption) ?_; simp only [setL]
          refine WH.skip 13 _ rfl (by kernel_rfl) (fun _ _ _ h => h) rfl (by assumption) ?_; simp only [setL]
          refine WH.skip 14 _ rfl (by kernel_rfl) (fun _ _ _ h => h) rfl (by assumption) ?_; simp only [setL]
          refine WH.skip 15 _ rfl (by kernel_rfl) (fun _ _ _ h => h) rfl (by assumption) ?_; simp only [setL]
          refine WH.onlySkip 16 _ rfl (by kernel_rfl) rfl (by assumption) ?_; simp only [setL]
          refine WH.skip 17 _ rfl (by kernel_rfl) (fun _ _ _ h => h) rfl (by assumption) ?_; simp only [setL]
          refine WH.tk 18 ?_; simp only [setL]
          refine WH.done (by kernel_rfl) ?_
          go_wp2_with fail
          go_end0
          refine ⟨rfl, rd, updF fv1 b (.slice none 0 0), Wt, Fr, en, ?_, TqS.out, ?_, ?_, ?_, ?_, ?_⟩
          · have h := HqS.out; rw [HDB.out, HD'.out]; exact h
          · exact E.out
          · rw [HEN.out]; exact hn1
          · rw [HLA.out]; exact hn2
          · rw [HEN.out]; exact HZ.out
          · intro hh; rw [HLA.out] at hh; omega

end Go.Proofs.YtpmbpklbiocclaaGreat
