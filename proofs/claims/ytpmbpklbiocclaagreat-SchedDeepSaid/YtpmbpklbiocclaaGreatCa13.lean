/-
  The program's: Flush.
-/
import Derived.Test.YtpmbpklbiocclaaGreatCa12
import Derived.Test.YtpmbpklbiocclaaGreatGrAM
namespace Go.Proofs.YtpmbpklbiocclaaGreat
open Go.RowKit

def CS.img (S : CS) (no : Int) (L : List Int) : List UInt8 := layAll (S.base no) (L.map fun j => (S.cg j).p)
theorem CS.img_len (S : CS) (no : Int) (L : List Int) (h : (S.base no).length = 256) : (S.img no L).length = 256 := layAll_len _ h
structure Ended (S : CS) (ids : List Int) (dep : Int → Int → Bool) (no : Int) (L : List Int) (S' : CS) : Prop where
  dev : S'.dev = S.dev.write no (S.img no L)
  last : S'.last = S.last
  kn : S'.kn = S.kn
  live : S'.live = S.live
  cg : S'.cg = S.cg
  beh : S'.beh = S.beh
  lat : S'.lat = S.lat
  view : S'.view = S.view
  base : S'.base = updF S.base no (S.img no L)
  lf : S'.lf = lfT S.lf L
  dirty : S'.dirty = updF S.dirty no (S.dirty no - (L.length : Int))
  free : ∃ Fr, EI S ids dep L L.length 0 S'.waits Fr ∧ S'.free = updF Fr no []
  en0 : S.ended ≤ S'.ended
  en1 : S'.ended ≤ S.last
  en2 : ∀ i, S.ended < i → i ≤ S'.ended → lfT S.lf L i = false
  en3 : S'.ended < S.last → lfT S.lf L (S'.ended + 1) = true
def RetFl (w : World) (ro : Nat → Option Rl) (A : CA) (S : CS) (ids : List Int) (dep : Int → Int → Bool) (no : Int) (e : Ending) (w' : World) : Prop :=
  ((S.kn no = false ∨ S.free no = []) ∧ e = .returned (.int .i64 0) ∧ HP w' ro A S ∧ Tr ro ro w w') ∨
  (S.kn no = true ∧ S.free no ≠ [] ∧ ∃ L, Kahn ids dep (fun j => (S.cg j).block) no L ∧
    ((S.dev.writeE no ≠ 0 ∧ e = .returned (.int .i64 (S.dev.writeE no)) ∧ HP w' ro A { S with dev := S.dev.write no (S.img no L) } ∧ Tr ro ro w w') ∨
     (S.dev.writeE no = 0 ∧ e = .returned (.int .i64 0) ∧ ∃ ro' fv' S', HP w' ro' { A with fv := fv' } S' ∧ Tr ro ro' w w' ∧ Ended S ids dep no L S')))
theorem Turn.tr2 {w w' : World} {ro : Nat → Option Rl} {A : CA} {S : CS} (h : Turn w w' A.dv A.dt) (k : HP w ro A S) : Tr ro ro w w' :=
  ⟨h.os, h.tape, h.output, h.size, fun g hg hn => ⟨hn, h.block g hg (fun e => by rw [e, (k.asn .dv).1] at hn; cases hn) (fun e => by rw [e, (k.asn .dv).2.1] at hn; cases hn)⟩⟩
theorem ow_store_arr {P : Program} {o : Oper} {a : Act} {w : World} {K : Act → World → Prop} {Q : Exit → Act → World → Prop} (t : TypeId) (x y : Operand) (ho : o.op = .store t x y) (g : Nat) (cs : Array Value) (hx : a.eval x = .pointer (some ⟨g, 0, none⟩)) (hy : a.eval y = .agg cs)
    (t' : TypeId) (old : Array Value) (hg : Blk w g t' old) (hi : (P.info? t).map (·.size) = some cs.size) (hold : old.size = cs.size) (h1 : cs.all (·.oneCell') = true)
    (h : Stop (∀ w', Hid (Only w w' g) → Hid (Blk w' g t' cs) → K (a.put o.dst undef) w')) : o.wp P a w K Q :=
  wp_store_row t x y ho g cs hx hy t' old hg hi hold h1 (h _ (Only.setRow hg cs) (hg.setRow cs))
section
variable {w : World} {ro : Nat → Option Rl} {A : CA} {S : CS} {ids : List Int} {dep : Int → Int → Bool}
theorem layAll_map_snoc (B : List UInt8) (f : Int → Pt) {L : List Int} {p : Nat} (hp : p < L.length) : layAll B ((L.take (p + 1)).map f) = layP (layAll B ((L.take p).map f)) (f L[p]) := by
  rw [take_snoc hp, List.map_append, List.map_singleton, layAll_snoc]
theorem Gr.dev (h : Gr S ids dep) (d : Dev) : Gr { S with dev := d } ids dep := ⟨h.nd, h.lv, h.idd, h.kn, h.beh, h.waits, h.lf, h.fre, h.len, h.rng⟩
theorem Gr.base (h : Gr S ids dep) (d : Dev) (b : Int → List UInt8) : Gr { S with dev := d, base := b } ids dep := ⟨h.nd, h.lv, h.idd, h.kn, h.beh, h.waits, h.lf, h.fre, h.len, h.rng⟩
set_option maxRecDepth 100000 in
set_option maxHeartbeats 8000000 in
theorem flush_any (h : HP w ro A S) (hG : Gr S ids dep) (no : Int) (hlo : -9223372036854775808 ≤ no) (hhi : no < 9223372036854775808) (hwr : S.dev.wr < 4611686018427387904)
    (hdr : ∀ k, S.kn k = true → 0 ≤ S.dirty k ∧ S.dirty k < 1000000) (he0 : 0 ≤ S.ended) (hel : S.ended ≤ S.last) (hla : S.last < 1000000) :
    Calls Tryz.prog 32 #[ptr A.ca, .int .i64 no] w (RetFl w ro A S ids dep no) := by
  have H := Lib.hid h
  have G := Lib.hid hG
  have HDR := Lib.hid hdr
  have c1 : w.cell? ⟨A.ca, 1, none⟩ = some (.map (some A.mb)) := h.cc.cell 1
  have Hw := Lib.hid (wf_int hlo hhi)
  have T0 := Lib.hid (Tr.refl ro w)
  clear h hG hdr
  cases hk : S.kn no
  · obtain ⟨m1, m2⟩ := pmap_out (a := A.ka) hk
    have HK := Lib.hid hk
    clear hk
    have d0 : (!false) = true := rfl
    unfold ptr
    go_enter Tryz.func32, Tryz.ntmps32
    go_wp2_with (refine wpList_lookZ_ok rfl _ _ _ rfl _ _ Tryz.underlying3 Tryz.underlying96 Tryz.zeroBlk rfl H.out.mbw no rfl Hw.out _ m1 _ m2 ?_)
    go_ret
    exact Or.inl ⟨Or.inl HK.out, rfl, H.out, T0.out⟩
  · obtain ⟨m1, m2⟩ := pmap_in (a := A.ka) hk
    have HK := Lib.hid hk
    have LF := Lib.hid (H.out.blkLen hk)
    obtain ⟨A0, q0, e0, _, _, _⟩ := (H.out.fw hk).read
    rw [ptrs_len] at e0
    have cF : w.cell? ⟨A.ka no, 513, none⟩ = some (.slice A0 (S.free no).length q0) := by rw [(H.out.kb hk).cell 513, List.getElem?_toArray, kc_free LF.out.1 LF.out.2.1, e0]
    clear hk e0
    cases hf : decide ((S.free no).length = 0)
    · have hf0 : ¬ (S.free no).length = 0 := by simpa using hf
      have d1 : (((S.free no).length : Int) == 0) = false := by simpa using hf0
      have HF := Lib.hid (show S.free no ≠ [] from fun e => hf0 (by rw [e]; rfl))
      clear hf hf0
      unfold ptr at m1 ⊢
      go_enter Tryz.func32, Tryz.ntmps32
      go_wp2_with (refine wpList_lookZ_ok rfl _ _ _ rfl _ _ Tryz.underlying3 Tryz.underlying96 Tryz.zeroBlk rfl H.out.mbw no rfl Hw.out _ m1 _ m2 ?_)
      have CR := ready_any H.out G.out no HK.out
      unfold ptr at CR
      refine (CR).mono ?_; rintro e w1 ⟨v, L, rfl, ho, hb, hKh⟩
      have KH := Lib.hid hKh
      have HO := Lib.hid ho
      obtain ⟨A1, q1, e1, _, _, hr1⟩ := ho.read
      rw [ptrs_len] at e1
      subst e1
      have Hr1 := Lib.hid hr1
      have H1 := Lib.hid (H.out.ext hb)
      have T1 := Lib.hid (Tr.of_below ro hb)
      have Hf1 : Hid (∀ ad, A1 = some ad → ro ad.block = none) := Lib.hid (fun ad e => by
        rcases HO.out.2 with ⟨e1, _⟩ | ⟨k, cap, cur, e1, hg, _⟩
        · injection e1 with e1; rw [e] at e1; cases e1
        · injection e1 with e1
          rw [e] at e1
          injection e1 with e1
          rw [e1]
          exact H.out.none_ge hg)
      obtain ⟨nL, hnL⟩ : ∃ nL, L.length = nL := ⟨_, rfl⟩
      have HnL := Lib.hid hnL
      have hnLb : nL ≤ 100000 := by rw [← hnL]; exact Nat.le_trans KH.out.len G.out.len
      have HB1 := Lib.hid (H1.out.kb HK.out)
      rw [hnL] at HO
      rw [hnL]
      clear ho hb hKh hr1 hnL CR cF c1 m1 m2 d1
      go_wp2_with (first | refine wpList_load_part rfl _ _ rfl (A.ka no) 0 rfl (bvl (S.base no)) _ _ HB1.out (fun j hj => kc_base LF.out.1 j (by rw [bvl_len, LF.out.1] at hj; exact hj)) _ Tryz.underlying50 rfl (by rw [bvl_len, LF.out.1]; exact Tryz.blockSize) _ rfl ?_ | refine wpList_alloc_row rfl _ rfl _ Tryz.blockZero ?_)
      apply Stop.go; intro w2 Hg2 Hb2
      go_wp2_with (refine wpList_store_arr rfl _ _ _ rfl _ (bcells (S.base no)) rfl rfl _ _ Hb2.out (Tryz.blockFits LF.out.1) (by rw [bcells_size, bcells_size, LF.out.1, zeros_len]) (oneCell_bcells _) ?_)
      apply Stop.go; intro w3 Ho3 Hb3
      obtain ⟨g, hg⟩ : ∃ g, g = w1.heap.size := ⟨_, rfl⟩
      rw [← hg] at Hb2 Ho3 Hb3 ⊢
      have HGE := Lib.hid (show w1.heap.size ≤ g by omega)
      have RG := Lib.hid (show ro g = none from H1.out.none_ge (by omega))
      have X3 := Lib.hid ((Tr.of_below ro Hg2.out.1).new Ho3.out HGE.out)
      have H3 := Lib.hid ((H1.out.ext Hg2.out.1).only_none Ho3.out RG.out)
      clear hg Hb2 Ho3 HB1 H1 Hg2
      go_wp2_with fail
      go_loopw [41] (fun x wr => ∃ k : Nat, k ≤ nL ∧ x = .int .i64 k ∧ HP wr ro A S ∧ Tr ro ro w1 wr ∧ Blk wr g 50 (bcells (layAll (S.base no) ((L.take k).map fun j => (S.cg j).p)))) (fun x _ => nL - (intOf x).toNat)
      case atStart => exact ⟨0, Nat.zero_le _, rfl, H3.out, X3.out, by rw [List.take_zero]; exact Hb3.out⟩
      case round =>
        obtain ⟨k, hkn, rfl, hpk, htk, hbk⟩ := hrel
        have Hq := Lib.hid hpk
        have Xq := Lib.hid htk
        have Bq := Lib.hid hbk
        clear hpk htk hbk H3 X3 Hb3
        by_cases hlt : k < nL
        · have d0 : decide ((k : Int) < (nL : Int)) = true := by simpa using hlt
          have hkl : k < L.length := by rw [HnL.out]; exact hlt
          obtain ⟨ad, rfl, hc⟩ := (Hr1.out.tr Xq.out Hf1.out) k (by rw [ptrs_len]; exact hkl)
          rw [ptrs_get hkl] at hc
          obtain ⟨i, hi⟩ : ∃ i, L[k] = i := ⟨_, rfl⟩
          have HSN := Lib.hid (layAll_map_snoc (S.base no) (fun j => (S.cg j).p) hkl)
          rw [hi] at hc
          simp only [hi] at HSN
          have LI := Lib.hid (G.out.lv i (KH.out.mem i (by rw [← hi]; exact List.getElem_mem hkl)).1)
          obtain ⟨B0, hB0⟩ : ∃ B0, layAll (S.base no) ((L.take k).map fun j => (S.cg j).p) = B0 := ⟨_, rfl⟩
          have hlen : B0.length = 256 := by rw [← hB0]; exact layAll_len _ LF.out.1
          rw [hB0] at Bq HSN
          have HLEN := Lib.hid hlen
          unfold ptr at hc
          clear hi hkl hB0 hlen
          go_wp2_with fail
          refine WH.start (S := fun w' : World => Blk w' (A.ha i) 101 (hcells (S.cg i) (A.sl i) (S.waits i) (A.hv i))) [false, false, false, false, false, false, false, false] 8 rfl rfl (by kernel_rfl) ((Hq.out.drew 1).hb LI.out) (fun hSn => ?_)
          obtain ⟨wS, hwS⟩ : ∃ x, wr.drew = x := ⟨_, rfl⟩
          have HqS := Lib.hid (Hq.out.drew 1)
          have XqS := Lib.hid (Xq.out.bel (bdrew wr 1))
          have BqS := Lib.hid (Bq.out.ext (bdrew wr 1))
          rw [show wr.drewN 1 = wS from hwS] at HqS XqS BqS
          rw [hwS] at hSn ⊢
          clear hwS Hq Xq Bq
          refine WH.tk 1 ?_; simp only [setL]
          refine WH.tk 2 ?_; simp only [setL]
          refine WH.tk 3 ?_; simp only [setL]
          refine WH.tk 4 ?_; simp only [setL]
          refine WH.tv 5 rfl (fun w' hSw => exec_load_part _ _ rfl (A.ha i) 2 rfl [.int .i64 (S.cg i).p.at_, .slice (A.sl i).Ad (A.sl i).nd (A.sl i).cd] _ _ hSw (fun j hj => by match j, hj with | 0, _ => rfl | 1, _ => rfl) _ Tryz.underlying64 rfl Tryz.patSize) ?_; simp only [setL]
          refine WH.only 0 _ rfl (by kernel_rfl) rfl (fun K hK => ?_)
          unfold Oper.wp
          rw [exec_load_blk _ _ rfl g rfl _ _ BqS.out _ Tryz.underlying50 rfl (Tryz.blockFits HLEN.out)]
          have hSn := hSn; refine hK _ _ hSn ?_; clear hK; clear K; simp only [setL]
          refine WH.only 6 _ rfl (by kernel_rfl) rfl (fun K hK => ?_); go_simp; refine (play_any B0 HLEN.out (S.cg i).p (A.sl i).Ad (A.sl i).nd (A.sl i).cd wS (HqS.out.cvw LI.out).p).mono ?_; rintro e w6 ⟨rfl, hb6⟩; go_simp
          have H6 := Lib.hid (HqS.out.ext hb6)
          have X6 := Lib.hid (XqS.out.bel hb6)
          have B6 := Lib.hid (BqS.out.ext hb6)
          clear hb6
          have hSn := H6.out.hb LI.out; refine hK _ _ hSn ?_; clear hK; clear K; simp only [setL]
          have hly : (layP B0 (S.cg i).p).length = 256 := layP_len _ HLEN.out
          refine WH.only 7 _ rfl (by kernel_rfl) rfl (fun K hK => ?_)
          refine ow_store_arr _ _ _ rfl _ (bcells (layP B0 (S.cg i).p)) rfl rfl _ _ B6.out (Tryz.blockFits hly) (by rw [bcells_size, bcells_size, HLEN.out, hly]) (oneCell_bcells _) ?_
          apply Stop.go; intro w8 Ho8 Hb8
          have H8 := Lib.hid (H6.out.only_none Ho8.out RG.out)
          have X8 := Lib.hid (X6.out.new Ho8.out HGE.out)
          have hSn := (H8.out.hb LI.out); refine hK _ _ hSn ?_; clear hK; clear K; simp only [setL]
          refine WH.done (by kernel_rfl) ?_
          go_wp2_with fail
          go_roundw
          case rel => exact ⟨k + 1, by omega, by go_num, H8.out, X8.out, by rw [HSN.out]; exact Hb8.out⟩
          case measure => simp [intOf]; omega
        · have d0 : decide ((k : Int) < (nL : Int)) = false := by simpa using hlt
          obtain rfl : k = nL := by omega
          have HT := Lib.hid (show L.take k = L from List.take_of_length_le (by rw [HnL.out]; exact Nat.le_refl _))
          rw [HT.out] at Bq
          have himl := S.img_len no L LF.out.1
          obtain ⟨Z, hZ⟩ : ∃ Z, S.img no L = Z := ⟨_, rfl⟩
          have HZ := Lib.hid hZ
          have Bi : Hid (Blk wr g 50 (bcells Z)) := Lib.hid (by rw [← hZ]; exact Bq.out)
          rw [hZ] at himl
          have HZL := Lib.hid himl
          have HDv := Lib.hid Hq.out.dvw
          have hgd : g ≠ A.dv := fun e => by have h1 := RG.out; rw [e, (Hq.out.asn .dv).1] at h1; cases h1
          have hgt : g ≠ A.dt := fun e => by have h1 := RG.out; rw [e, (Hq.out.asn .dv).2.1] at h1; cases h1
          have HGD := Lib.hid hgd
          have HGT := Lib.hid hgt
          clear himl hZ hgd hgt Bq d0
          go_wp2_with fail
          refine WH.start (S := fun w' : World => Blk w' A.ca 98 (ccells A S) ∧ Blk w' g 50 (bcells Z)) [false, false, false, false, false, false, false, false] 8 rfl rfl (by kernel_rfl) ⟨(Hq.out.drew 1).cc, Bi.out.ext (bdrew wr 1)⟩ (fun hSn => ?_)
          obtain ⟨wS, hwS⟩ : ∃ x, wr.drew = x := ⟨_, rfl⟩
          have HqS := Lib.hid (Hq.out.drew 1)
          have XqS := Lib.hid (Xq.out.bel (bdrew wr 1))
          rw [show wr.drewN 1 = wS from hwS] at HqS XqS
          rw [hwS] at hSn ⊢
          clear hwS Hq Xq Bi HDv
          refine WH.tk 0 ?_; simp only [setL]
          refine WH.tk 1 ?_; simp only [setL]
          refine WH.tk 2 ?_; simp only [setL]
          refine WH.tv 3 rfl (fun w' hSw => exec_load_cell _ _ rfl _ rfl (.pointer (some ⟨A.dv, 0, none⟩)) (hSw.1.cell 0) _ (Tryz.underlying27) rfl) ?_; simp only [setL]
          refine WH.tk 4 ?_; simp only [setL]
          refine WH.tv 5 rfl (fun w' hSw => exec_load_blk _ _ rfl _ rfl _ _ (hSw.2) _ (Tryz.underlying50) rfl (Tryz.blockFits HZL.out)) ?_; simp only [setL]
          refine WH.only 6 _ rfl (by kernel_rfl) rfl (fun K hK => ?_); go_simp; refine (write_any A.dv A.dt no Z HZL.out S.dev wS HqS.out.dvw hwr).mono ?_; rintro e w6 ⟨rfl, ht, hdv⟩; go_simp
          have H6 := Lib.hid (HqS.out.setD (S.dev.write no Z) ht hdv)
          have X6 := Lib.hid (XqS.out.trans (ht.tr2 HqS.out))
          have B6 := Lib.hid (hSn.2.turn ht HGD.out HGT.out)
          clear ht hdv HqS XqS
          have hSn := (show Blk w6 A.ca 98 (ccells A S) ∧ Blk w6 g 50 (bcells Z) from ⟨H6.out.cc, B6.out⟩); refine hK _ _ hSn ?_; clear hK; clear K; simp only [setL]
          refine WH.tk 7 ?_; simp only [setL]
          refine WH.done (by kernel_rfl) ?_
          obtain ⟨we, hwe⟩ : ∃ we, S.dev.writeE no = we := ⟨_, rfl⟩
          have HWE := Lib.hid hwe
          rw [hwe]
          clear hwe hSn
          by_cases hz : we = 0
          · have d3 : (we != 0) = false := by simp [hz]
            have HZ0 := Lib.hid hz
            clear hz
            have CB := Lib.hid (H6.out.kb (k := no) HK.out)
            go_wp2_with (first | refine wpList_load_blk rfl _ _ rfl _ rfl _ _ B6.out _ Tryz.underlying50 rfl (Tryz.blockFits HZL.out) ?_ | refine wpList_store_part rfl _ _ _ rfl (bvl Z) (by rw [bvl_len, HZL.out]; exact Tryz.blockSize) (A.ka no) 0 rfl rfl _ _ CB.out (bvl_one _) (by rw [bvl_len, HZL.out, kc_len LF.out.1 LF.out.2.1 LF.out.2.2]; omega) _ (kc_toBase LF.out.1 Z HZL.out) ?_)
            apply Stop.go; intro w7 Ho7 Hb7
            have H7 := Lib.hid (H6.out.setBase (k := no) HK.out Z HZL.out Ho7.out Hb7.out)
            have X7 := Lib.hid (X6.out.only Ho7.out (by rw [(H6.out.asn (.blk no) HK.out).1]; simp))
            have CE := end_any H7.out (G.out.base _ _) no HK.out L KH.out.nd (fun x hx => (KH.out.mem x hx).1) A1 q1 (Hr1.out.tr X7.out Hf1.out) Hf1.out (HDR.out no HK.out) he0 hel hla
            unfold ptr at CE
            rw [HnL.out] at CE
            clear Ho7 Hb7 CB H6 X6 B6
            go_wp2_with fail
            refine (CE).mono ?_; rintro e w9 ⟨rfl, ro9, fv9, Wt, Fr, en, h9, t9, ei, n1, n2, n3, n4⟩
            have H9 := Lib.hid h9
            have T9 := Lib.hid (T1.out.trans (X7.out.trans t9))
            have EI9 := Lib.hid ei
            have N := Lib.hid (show S.ended ≤ en ∧ en ≤ S.last ∧ (∀ i, S.ended < i → i ≤ en → lfT S.lf L i = false) ∧ (en < S.last → lfT S.lf L (en + 1) = true) from ⟨n1, n2, n3, n4⟩)
            clear h9 t9 ei n1 n2 n3 n4 CE
            go_wp2_with fail
            go_ret
            refine Or.inr ⟨HK.out, HF.out, L, KH.out, Or.inr ⟨by rw [HWE.out]; exact HZ0.out, rfl, ro9, fv9, _, H9.out, T9.out, ⟨by rw [HZ.out], rfl, rfl, rfl, rfl, rfl, rfl, rfl, by rw [HZ.out], rfl, by rw [HnL.out], ⟨Fr, ?_, rfl⟩, N.out.1, N.out.2.1, N.out.2.2.1, N.out.2.2.2⟩⟩⟩
            rw [HnL.out]
            exact ⟨EI9.out.w, EI9.out.f⟩
          · have d3 : (we != 0) = true := by simpa using hz
            have HZ0 := Lib.hid hz
            clear hz
            go_wp2_with fail
            go_ret
            exact Or.inr ⟨HK.out, HF.out, L, KH.out, Or.inl ⟨by rw [HWE.out]; exact HZ0.out, by rw [HWE.out]; rfl, by rw [HZ.out]; exact H6.out, T1.out.trans X6.out⟩⟩
    · have hf0 : (S.free no).length = 0 := by simpa using hf
      have d1 : (((S.free no).length : Int) == 0) = true := by simp [hf0]
      have HF := Lib.hid (show S.free no = [] from List.eq_nil_of_length_eq_zero hf0)
      clear hf hf0
      unfold ptr at m1 ⊢
      go_enter Tryz.func32, Tryz.ntmps32
      go_wp2_with (refine wpList_lookZ_ok rfl _ _ _ rfl _ _ Tryz.underlying3 Tryz.underlying96 Tryz.zeroBlk rfl H.out.mbw no rfl Hw.out _ m1 _ m2 ?_)
      go_ret
      exact Or.inl ⟨Or.inr HF.out, rfl, H.out, T0.out⟩
end

end Go.Proofs.YtpmbpklbiocclaaGreat
