/-
  Texts of this claim joined: Ca14, Ca15.
-/
import Derived.Test.YtpmbpklbiocclaaGreatGrAN
import Derived.Deep.LoopGhost
import Derived.Test.YtpmbpklbiocclaaGreatGrAO
import Derived.Lib.SlKeysI
import Derived.Shelf.SlIterI.Sorted
import Derived.Shelf.SortM.Plain
import Derived.Shelf.SortM.SortNone

/-
  The program's: Flush, as the document has it; Upto, Sync.
-/
namespace Go.Proofs.YtpmbpklbiocclaaGreat
open Go.RowKit

section
variable {w : World} {ro : Nat → Option Rl} {A : CA} {S : CS} {x : DC} {W : Int → List Int}
def RetF2 (w : World) (ro : Nat → Option Rl) (A : CA) (S : CS) (W : Int → List Int) (y : DC) (n : Int) (e : Ending) (w' : World) : Prop :=
  e = .returned (.int .i64 n) ∧ ∃ ro' fv' S', HP w' ro' { A with fv := fv' } S' ∧ Tr ro ro' w w' ∧ Sim S' y W ∧ S'.cg = S.cg ∧ S'.live = S.live ∧ S'.last = S.last ∧ S'.dev.rd = S.dev.rd
theorem Sim.kahn0 (h : Sim S x W) {no : Int} (hk : S.kn no = true) (hf : S.free no = []) : Kahn (idsC x.list) (depW W) (fun j => (S.cg j).block) no [] where
  nd := List.nodup_nil
  mem j hj := by cases hj
  ord q hq := by cases hq
  cl j hj hb hd := by
    have h1 := ((h.free no hk).2 j).2 ⟨hj, hb, wN_zero.2 fun i hi => by
      cases e : depW W i j
      · rfl
      · have := hd i hi e
        cases this⟩
    rw [hf] at h1
    cases h1
theorem Dev.write_rd (d : Dev) (no : Int) (Z : List UInt8) : (d.write no Z).rd = d.rd := by
  unfold Dev.write
  split
  · rfl
  · split
    · split <;> rfl
    · rfl
theorem flush2_any (h : HP w ro A S) (hs : Sim S x W) (hl : x.last ≤ 100000) (no : Int) (hlo : -9223372036854775808 ≤ no) (hhi : no < 9223372036854775808) :
    Calls Tryz.prog 32 #[ptr A.ca, .int .i64 no] w (RetF2 w ro A S W (x.flush no) (x.flushE no)) := by
  have hla := hs.last
  have hwr : S.dev.wr < 4611686018427387904 := by rw [hs.wr]; have := hs.ok.wrote; omega
  refine (flush_any h (hs.gr hl) no hlo hhi hwr (hs.bd hl).dr hs.en0 hs.en1 (by omega)).mono ?_
  rintro e w' (⟨hn, rfl, h1, t1⟩ | ⟨hk, hf, L, hK, ⟨hw, rfl, h1, t1⟩ | ⟨hw, rfl, ro', fv', S', h1, t1, hE⟩⟩)
  · have hn2 : S.kn no = false ∨ (S.kn no = true ∧ S.free no = []) := by
      rcases hn with hn | hn
      · exact Or.inl hn
      · cases hk : S.kn no
        · exact Or.inl rfl
        · exact Or.inr ⟨rfl, hn⟩
    obtain ⟨q1, q2⟩ := hs.flush_none hn2 fun hk => by
      rcases hn2 with hn2 | hn2
      · rw [hk] at hn2; cases hn2
      · exact ⟨[], hs.kahn0 hk hn2.2⟩
    exact ⟨by rw [q2], ro, A.fv, S, h1, t1, by rw [q1]; exact hs, rfl, rfl, rfl, rfl⟩
  · obtain ⟨q1, q2⟩ := hs.flush_not hk hf hK hw (S.img no L)
    exact ⟨by rw [q2], ro, A.fv, _, h1, t1, q1, rfl, rfl, rfl, Dev.write_rd _ _ _⟩
  · obtain ⟨q1, q2⟩ := hs.flush hk hf hK hw hE
    exact ⟨by rw [q2], ro', fv', S', h1, t1, q1, hE.cg, hE.live, hE.last, by rw [hE.dev]; exact Dev.write_rd _ _ _⟩
theorem Sim.first (h : Sim S x W) {e1 : Int} (he : S.ended + 1 = e1) (hlt : S.ended < S.last) : ∃ c t, x.list = c :: t ∧ c.id = e1 ∧ S.cg e1 = c := by
  obtain ⟨c, hc, hce⟩ := hasId_iff.1 (h.en3 hlt)
  rw [he] at hce
  cases hl : x.list with
  | nil => rw [hl] at hc; cases hc
  | cons d t =>
    have h1 := h.en2 d (by rw [hl]; simp)
    have h2 : d = c := by
      rw [hl] at hc
      rcases List.mem_cons.1 hc with rfl | hc
      · rfl
      · have h3 := may_pw h.ok.may
        rw [hl] at h3
        have := (List.pairwise_cons.1 h3).1 c hc
        omega
    subst h2
    exact ⟨d, t, rfl, hce, by rw [← hce]; exact h.dep.cg d (by rw [hl]; simp)⟩
theorem Sim.none_first (h : Sim S x W) (id : Int) (hn : ¬ (S.ended < id ∧ S.ended < S.last)) : ∀ c t, x.list = c :: t → ¬ c.id ≤ id := by
  intro c t hl hi
  have h1 := h.en2 c (by rw [hl]; simp)
  have h2 := h.ok.ids c (by rw [hl]; simp)
  have h3 := h.last
  exact hn ⟨by omega, by omega⟩
set_option maxRecDepth 100000 in
set_option maxHeartbeats 8000000 in
theorem upto_any (h : HP w ro A S) (hs : Sim S x W) (hl : x.last ≤ 100000) (id : Int) (_hlo : -9223372036854775808 ≤ id) (_hhi : id < 9223372036854775808) :
    Calls Tryz.prog 52 #[ptr A.ca, .int .i64 id] w (RetF2 w ro A S W (x.upto id).1 (x.upto id).2) := by
  have H := Lib.hid h
  have HS := Lib.hid hs
  have T0 := Lib.hid (Tr.refl ro w)
  clear h hs
  unfold ptr
  go_enter Tryz.func52, Tryz.ntmps52
  go_wp2_with fail
  go_loopg [] (x.list.length) (fun gh wr => ∃ (y : DC) (rk : Nat → Option Rl) (fv1 : Int → Value) (S1 : CS), HP wr rk { A with fv := fv1 } S1 ∧ Tr ro rk w wr ∧ Sim S1 y W ∧ Hid (y.upto id = x.upto id) ∧ Hid (y.last = x.last) ∧ y.list.length ≤ gh ∧ Hid (S1.cg = S.cg ∧ S1.live = S.live ∧ S1.last = S.last ∧ S1.dev.rd = S.dev.rd))
  case atStart => exact ⟨x, ro, A.fv, S, H.out, T0.out, HS.out, Lib.hid rfl, Lib.hid rfl, Nat.le_refl _, Lib.hid ⟨rfl, rfl, rfl, rfl⟩⟩
  case round =>
    obtain ⟨y, rk, fv1, S1, hpk, htk, hsk, HU, HLx, hgl, HF⟩ := hrel
    have Hk := Lib.hid hpk
    have Tk := Lib.hid htk
    have HSk := Lib.hid hsk
    clear hpk htk hsk
    obtain ⟨en, hen⟩ : ∃ en, S1.ended = en := ⟨_, rfl⟩
    obtain ⟨la, hla⟩ : ∃ la, S1.last = la := ⟨_, rfl⟩
    have hb : 0 ≤ en ∧ en ≤ la ∧ la ≤ 100000 := by
      have h1 := HSk.out.en0; have h2 := HSk.out.en1; have h3 := HSk.out.last; have h4 := HLx.out
      omega
    have hSC : ccells { A with fv := fv1 } S1 = #[ptr A.dv, .map (some A.mb), .map (some A.ml), .int .i64 la, .int .i64 en] := by unfold ccells; rw [hen, hla]
    have CC := Lib.hid Hk.out.cc
    rw [hSC] at CC
    have HEN := Lib.hid hen
    have HLA := Lib.hid hla
    clear hSC hen hla
    obtain ⟨m, hm⟩ : ∃ m : Int, min id la = m := ⟨_, rfl⟩
    have hmi : en < m ↔ en < id ∧ en < la := by rw [← hm]; omega
    have HMI := Lib.hid hmi
    have HM := Lib.hid hm
    clear hm hmi
    go_wp2_with fail
    refine WH.start (S := fun w' : World => Blk w' A.ca 98 #[ptr A.dv, .map (some A.mb), .map (some A.ml), .int .i64 la, .int .i64 en]) [false, false, false, false, false, false, false, false, false, false, false] 11 rfl rfl (by kernel_rfl) (CC.out.ext (bdrew wr 1)) (fun hSn => ?_)
    obtain ⟨wS, hwS⟩ : ∃ x, wr.drew = x := ⟨_, rfl⟩
    have HkS := Lib.hid (Hk.out.drew 1)
    have TkS := Lib.hid (Tk.out.bel (bdrew wr 1))
    rw [show wr.drewN 1 = wS from hwS] at HkS TkS
    rw [hwS] at hSn ⊢
    clear hwS Hk Tk CC
    refine WH.tk 0 ?_; simp only [setL]
    refine WH.tk 1 ?_; simp only [setL]
    refine WH.tk 2 ?_; simp only [setL]
    refine WH.tv 3 rfl (fun w' hSw => exec_load_cell _ _ rfl _ rfl (.int .i64 en) (hSw.cell 4) _ (Tryz.underlying3) rfl) ?_; simp only [setL]
    refine WH.tk 4 ?_; simp only [setL]
    refine WH.tk 5 ?_; simp only [setL]
    refine WH.tk 6 ?_; simp only [setL]
    refine WH.tk 7 ?_; simp only [setL]
    refine WH.tv 8 rfl (fun w' hSw => exec_load_cell _ _ rfl _ rfl (.int .i64 la) (hSw.cell 3) _ (Tryz.underlying3) rfl) ?_; simp only [setL]
    refine WH.tk 9 ?_; simp only [setL]
    rw [HM.out]
    refine WH.tk 10 ?_; simp only [setL]
    refine WH.done (by kernel_rfl) ?_
    by_cases hc : en < m
    · have d0 : decide (en < m) = true := by simpa using hc
      obtain ⟨hc1, hc2⟩ := HMI.out.1 hc
      obtain ⟨e1, he1⟩ : ∃ e1, en + 1 = e1 := ⟨_, rfl⟩
      have hew : IntKind.i64.wrap (en + 1) = e1 := by rw [IntKind.wrap_i64]; omega
      obtain ⟨c, t, hl1, hci, hcg⟩ := HSk.out.first (e1 := e1) (by rw [HEN.out]; exact he1) (by rw [HEN.out, HLA.out]; exact hc2)
      have hin : e1 ∈ idsC y.list := idsC_mem.2 ⟨c, by rw [hl1]; simp, hci⟩
      have LV := Lib.hid ((HSk.out.live e1).2 (HSk.out.rng hin))
      have ML := Lib.hid (pmap_in (a := A.ha) ((HSk.out.has e1).2 hin)).1
      have Hwf := Lib.hid (wf_int (z := e1) (by omega) (by omega))
      have HCG := Lib.hid hcg
      have HL1 := Lib.hid hl1
      have hlt := HSk.out.ok.blk c (by rw [hl1]; simp)
      have hle : y.last ≤ 100000 := by rw [HLx.out]; exact hl
      have HCV := Lib.hid (HkS.out.cvw LV.out)
      have hcb : -9223372036854775808 ≤ c.block ∧ c.block < 9223372036854775808 := by rw [← hcg]; exact ⟨HCV.out.lo1, HCV.out.hi1⟩
      have hidl : c.id ≤ id := by omega
      have HIDL := Lib.hid hidl
      rw [d0]
      clear hc hc1 hc2 he1 hci hin hcg hl1 hlt hidl hSn
      go_wp2_with fail
      refine WH.start (S := fun w' : World => (∃ e', Blk w' A.ca 98 #[ptr A.dv, .map (some A.mb), .map (some A.ml), .int .i64 la, .int .i64 e']) ∧ ∃ n v, Blk w' (A.ha e1) 101 (hcells c (A.sl e1) n v)) [false, false, false, false, false, false, false, false, false, false, false, false, false, false, false, false, false] 17 rfl rfl (by kernel_rfl) ⟨⟨en, by have h := (HkS.out.drew 1).cc; unfold ccells at h; rw [HEN.out, HLA.out] at h; exact h⟩, _, _, by have h := (HkS.out.drew 1).hb LV.out; rw [HCG.out] at h; exact h⟩ (fun hSn => ?_)
      obtain ⟨w5, hw5⟩ : ∃ x, wS.drew = x := ⟨_, rfl⟩
      have H5 := Lib.hid (HkS.out.drew 1)
      have T5 := Lib.hid (TkS.out.bel (bdrew wS 1))
      rw [show wS.drewN 1 = w5 from hw5] at H5 T5
      rw [hw5] at hSn ⊢
      clear hw5 HkS TkS
      refine WH.tk 0 ?_; simp only [setL]
      refine WH.tk 1 ?_; simp only [setL]
      refine WH.tk 2 ?_; simp only [setL]
      refine WH.tk 3 ?_; simp only [setL]
      refine WH.tv 4 rfl (fun w' hSw => (by obtain ⟨e', hb⟩ := hSw.1; exact exec_load_cell _ _ rfl _ rfl (.map (some A.ml)) (hb.cell 2) _ Tryz.underlying94 rfl)) ?_; simp only [setL]
      refine WH.tk 5 ?_; simp only [setL]
      refine WH.tk 6 ?_; simp only [setL]
      refine WH.tk 7 ?_; simp only [setL]
      have CE : Hid (Blk w5 A.ca 98 #[ptr A.dv, .map (some A.mb), .map (some A.ml), .int .i64 la, .int .i64 en]) := Lib.hid (by have h := H5.out.cc; unfold ccells at h; rw [HEN.out, HLA.out] at h; exact h)
      refine WH.only 8 _ rfl (by kernel_rfl) rfl (fun K hK => ?_)
      unfold Oper.wp
      rw [exec_load_cell _ _ rfl _ rfl (.int .i64 en) (CE.out.cell 4) _ Tryz.underlying3 rfl]
      have hSn := hSn; refine hK _ _ hSn ?_; clear hK; clear K; simp only [setL]
      refine WH.tk 9 ?_; simp only [setL]
      (try rw [hew])
      refine WH.only 10 _ rfl (by kernel_rfl) rfl (fun K hK => ?_)
      unfold Oper.wp
      rw [exec_lookP _ _ _ rfl _ _ Tryz.underlying3 Tryz.underlying94 Tryz.zeroChg rfl H5.out.mlw e1 rfl Hwf.out (.pointer (some ⟨A.ha e1, 0, none⟩)) ML.out]
      have hSn := hSn; refine hK _ _ hSn ?_; clear hK; clear K; simp only [setL]
      refine WH.tk 11 ?_; simp only [setL]
      refine WH.tk 12 ?_; simp only [setL]
      refine WH.tk 13 ?_; simp only [setL]
      refine WH.tv 14 rfl (fun w' hSw => (by obtain ⟨n, v, hb⟩ := hSw.2; exact exec_load_cell _ _ rfl _ rfl (.int .i64 c.block) (hb.cell 1) _ Tryz.underlying3 rfl)) ?_; simp only [setL]
      have CF := flush2_any H5.out HSk.out hle c.block hcb.1 hcb.2
      unfold ptr at CF
      refine WH.only 15 _ rfl (by kernel_rfl) rfl (fun K hK => ?_); go_simp; refine (CF).mono ?_; rintro e w7 ⟨rfl, ro7, fv7, S7, h7, t7, s7, g1, g2, g3, g4⟩; go_simp
      have H7 := Lib.hid h7
      have T7 := Lib.hid (T5.out.trans t7)
      have S7s := Lib.hid s7
      have HF7 := Lib.hid (show S7.cg = S.cg ∧ S7.live = S.live ∧ S7.last = S.last ∧ S7.dev.rd = S.dev.rd from ⟨g1.trans HF.out.1, g2.trans HF.out.2.1, g3.trans HF.out.2.2.1, g4.trans HF.out.2.2.2⟩)
      have LV7 := Lib.hid (show S7.live e1 = true by rw [g2]; exact LV.out)
      have HN := Lib.hid (show (∃ e', Blk w7 A.ca 98 #[ptr A.dv, .map (some A.mb), .map (some A.ml), .int .i64 la, .int .i64 e']) ∧ ∃ n v, Blk w7 (A.ha e1) 101 (hcells c (A.sl e1) n v) from ⟨⟨S7.ended, by have h := h7.cc; unfold ccells at h; rw [g3, HLA.out] at h; exact h⟩, _, _, by have h := h7.hb LV7.out; rw [g1, HCG.out] at h; exact h⟩)
      clear h7 t7 s7 g1 g2 g3 g4 CF
      have hSn := HN.out; refine hK _ _ hSn ?_; clear hK; clear K; simp only [setL]
      refine WH.tk 16 ?_; simp only [setL]
      refine WH.done (by kernel_rfl) ?_
      have HST := Lib.hid (DC.upto_step HSk.out.ok HL1.out HIDL.out)
      by_cases hE : y.flushE c.block = 0
      · have hlen := DC.flush_less HSk.out.ok HL1.out hE
        have hyl : y.list.length = t.length + 1 := by rw [HL1.out]; rfl
        have hst := HST.out
        rw [if_pos hE] at hst
        have HU2 : Hid ((y.flush c.block).upto id = x.upto id) := Lib.hid (hst.symm.trans HU.out)
        have HL2 : Hid ((y.flush c.block).last = x.last) := Lib.hid (by rw [← HLx.out]; unfold DC.flush; split; · rfl
                                                                        · split <;> rfl)
        have hgk : (y.flush c.block).list.length < gk := by omega
        clear hst hlen hyl
        rw [hE]
        go_wp2_with fail
        go_roundg ((y.flush c.block).list.length)
        case rel => exact ⟨_, _, _, _, H7.out, T7.out, S7s.out, HU2, HL2, Nat.le_refl _, HF7⟩
        case measure => exact hgk
      · have hst := HST.out
        rw [if_neg hE] at hst
        have HR := Lib.hid (show x.upto id = (y.flush c.block, y.flushE c.block) from HU.out.symm.trans hst)
        have d2 : (y.flushE c.block != 0) = true := by simpa using hE
        clear hst hE
        go_wp2_with fail
        go_ret
        rw [HR.out]
        exact ⟨rfl, ro7, fv7, S7, H7.out, T7.out, S7s.out, HF7.out⟩
    · have d0 : decide (en < m) = false := by simpa using hc
      have HR := Lib.hid (show x.upto id = (y, 0) from HU.out.symm.trans (DC.upto_end (HSk.out.none_first id (by rw [HEN.out, HLA.out]; exact fun hh => hc (HMI.out.2 hh)))))
      rw [d0]
      clear hc
      go_wp2_with fail
      go_ret
      rw [HR.out]
      exact ⟨rfl, rk, fv1, S1, HkS.out, TkS.out, HSk.out, HF.out⟩
theorem sync_any (h : HP w ro A S) (hs : Sim S x W) (hl : x.last ≤ 100000) :
    Calls Tryz.prog 53 #[ptr A.ca] w (RetF2 w ro A S W (x.upto (x.last : Int)).1 (x.upto (x.last : Int)).2) := by
  have hla := hs.last
  have CL := last_any h
  have CU := upto_any h hs hl (x.last : Int) (by omega) (by omega)
  rw [hla] at CL
  unfold ptr at CL CU ⊢
  clear h hs hla
  go_enter Tryz.func53, Tryz.ntmps53
  go_wp2_with fail
  refine (CL).mono ?_; rintro e w1 ⟨rfl, rfl⟩
  go_wp2_with fail
  refine (CU).mono ?_; rintro e w2 ⟨rfl, hr⟩
  have HR := Lib.hid hr
  clear hr
  go_wp2_with fail
  go_ret
  exact ⟨rfl, HR.out⟩
end

end Go.Proofs.YtpmbpklbiocclaaGreat

/-
  The program's: the keys of what is left, in order (maps.Keys, slices.Sorted); Left.
-/
namespace Go.Proofs.YtpmbpklbiocclaaGreat
open Go.RowKit Go.Maps Go.Sort Go.Shelf

theorem Tryz.sortsIn (m : Nat) : AnyZI.SortsIn Tryz.prog laysSorted_ren Fence.wide m :=
  ⟨fun blk off cap ss W hH hblk hsz => callsIn_wide.2 (AnyM.slices_Sort_int laysSortM blk off cap ss W hH hblk hsz),
   fun p cap W => callsIn_wide.2 (AnyM.slices_Sort_int_none laysSortM p cap W)⟩
theorem keys_any (b : Nat) (w : World) : Calls Tryz.prog 41 #[.map (some b)] w fun e w' => e = .returned (.func (.func 75) #[] #[.pointer (some ⟨w.heap.size, 0, none⟩)]) ∧ w' = w.alloc (.cells #[.map (some b)] 94) :=
  (callsIn_wide (n := 5)).1 (AnyZI.keys_in laysKeys Fence.wide 5 trivial rfl (some b) w)
theorem sortedKeys_any {zv : Value} {b n : Nat} {m : Int → Option Value} (w : World) (hM : MapZ zv w Tryz.prog 3 b n m) (ids : List Int) (hr : RiseI ids) (hi : ∀ x, x ∈ ids ↔ (m x).isSome = true) (hl : ids.length ≤ 100000) (g : Nat) (hg : w.cell? ⟨g, 0, none⟩ = some (.map (some b))) :
    Calls Tryz.prog 40 #[.func (.func 75) #[] #[.pointer (some ⟨g, 0, none⟩)]] w fun e w' => ∃ v, e = .returned v ∧ OwnC w' w.heap.size 3 v (ivals ids) ∧ Below w.heap.size w w' := by
  obtain ⟨D, hown, _, hat⟩ := hM
  have hperm : ids.Perm (intKeys D) := CollectedI.perm (left := fun _ => false) ⟨hr.nodup, fun x => by rw [hi, ← (hat x).2]; simp⟩ hown (int_keyed Tryz.underlying3) Tryz.underlying3 (fun _ => rfl)
  have hsz : Maps.size D = ids.length := by
    obtain ⟨es, hD, _⟩ := hown.entries (int_keyed Tryz.underlying3)
    subst hD
    rw [hperm.length_eq]
    show es.length = (es.map _).length
    rw [List.length_map]
  have hseq : SeqGives Fence.wide 2 Tryz.prog 75 #[.pointer (some ⟨g, 0, none⟩)] encZ (fun ss => ss.Perm (intKeys D)) (Maps.size D) w :=
    AnyZI.keys_gives (ρ := laysKeys_ren) { laysKeys with } Fence.wide _ trivial rfl (by omega) g b n D w (block_lt_of_cell hg) hg hown
  have cS := AnyZI.sorted_in laysSorted Fence.wide 5 trivial trivial trivial trivial rfl (by omega) (Tryz.sortsIn _) (enters_of Tryz.func62 (by kernel_rfl) rfl) 75 #[.pointer (some ⟨g, 0, none⟩)] trivial (enters_of Tryz.func75 (by kernel_rfl) rfl) _ _ (by rw [hsz]; unfold maxLen; omega) (by rw [hsz]; omega) _ hseq
  refine (callsIn_wide.1 cS).mono ?_
  rintro e w' ⟨v, ss, rfl, hss, hrow, _, hb⟩
  refine ⟨v, rfl, ?_, hb⟩
  have hp : ss.Perm ids := hss.trans hperm.symm
  have hms : ss.mergeSort (fun x y => decide (x ≤ y)) = ids := by
    have hpm := (List.mergeSort_perm ss (fun x y => decide (x ≤ y))).trans hp
    refine RiseI.uniq ?_ hr fun x => hpm.mem_iff
    have h1 : (ss.mergeSort (fun x y => decide (x ≤ y))).Pairwise (fun a b => decide (a ≤ b) = true) := List.pairwise_mergeSort (fun a b c h1 h2 => by simp only [decide_eq_true_eq] at *; omega) (fun a b => by simp only [Bool.or_eq_true, decide_eq_true_eq]; omega) ss
    have h2 : (ss.mergeSort (fun x y => decide (x ≤ y))).Nodup := hpm.nodup_iff.2 hr.nodup
    refine List.Pairwise.imp₂ (fun a b ha hb => ?_) h1 h2
    simp only [decide_eq_true_eq] at ha
    omega
  rw [hms, hp.length_eq] at hrow
  unfold OwnC
  rw [ivals_len]
  exact hrow

theorem Sim.cgs {S : CS} {x : DC} {W : Int → List Int} (h : Sim S x W) {k : Nat} (hk : k < x.list.length) : ∃ c, x.list[k] = c ∧ S.cg c.id = c ∧ S.live c.id = true ∧ S.lf c.id = true ∧ c.p.data.length ≤ 256 ∧ c.needs.length ≤ x.last := by
  have hc := List.getElem_mem hk
  have hid : x.list[k].id ∈ idsC x.list := idsC_mem.2 ⟨_, hc, rfl⟩
  have hr := Pt.right_iff.1 (may_right h.ok.may _ hc).1
  exact ⟨_, rfl, h.dep.cg _ hc, (h.live _).2 (h.rng hid), (h.has _).2 hid, hr.2.1, h.ok.nlen _ hc⟩
set_option maxRecDepth 100000 in
set_option maxHeartbeats 8000000 in
theorem left_any {w : World} {ro : Nat → Option Rl} {A : CA} {S : CS} {x : DC} {W : Int → List Int} (h : HP w ro A S) (hs : Sim S x W) (hl : x.last ≤ 1000) :
    Calls Tryz.prog 16 #[ptr A.ca] w (RetCH w x.list) := by
  have H := Lib.hid h
  have HS := Lib.hid hs
  have c2 : w.cell? ⟨A.ca, 2, none⟩ = some (.map (some A.ml)) := h.cc.cell 2
  have hln : x.list.length ≤ 1000 := by have := hs.ok.wrote; omega
  obtain ⟨n, hn⟩ : ∃ n, x.list.length = n := ⟨_, rfl⟩
  have HN := Lib.hid hn
  have hil : (idsC x.list).length = n := by unfold idsC; rw [List.length_map]; exact hn
  have HIL := Lib.hid hil
  rw [hn] at hln
  clear h hs hn hil
  unfold ptr
  go_enter Tryz.func16, Tryz.ntmps16
  go_wp2_with fail
  refine (keys_any A.ml _).mono ?_; rintro e w1 ⟨rfl, hw1⟩
  have B1 : Hid (Below w.heap.size w w1) := Lib.hid (by rw [hw1]; exact (Grew.alloc w _).1)
  have C1 : Hid (Blk w1 w.heap.size 94 #[.map (some A.ml)]) := Lib.hid (by rw [hw1]; exact Blk.new w _ _)
  have H1 := Lib.hid (H.out.ext B1.out)
  clear hw1 c2
  go_wp2_with fail
  have CSK := sortedKeys_any w1 H1.out.mlw (idsC x.list) (idsC_rise HS.out.ok.may) (fun k => by
    rw [← HS.out.has]
    cases e : S.lf k
    · rw [(pmap_out e).2]
    · rw [(pmap_in e).2]) (by rw [HIL.out]; omega) w.heap.size (C1.out.cell 0)
  refine (CSK).mono ?_; rintro e w2 ⟨v2, rfl, ho2, hb2⟩
  clear CSK
  obtain ⟨A2, q2, e2, _, _, hr2⟩ := ho2.ints
  subst e2
  have Hr2 := Lib.hid hr2
  have B2 := Lib.hid (bt B1.out hb2)
  have H2 := Lib.hid (H.out.ext B2.out)
  rw [HIL.out]
  obtain ⟨Bs, hBs⟩ : ∃ Bs, w2.heap.size = Bs := ⟨_, rfl⟩
  have HBs := Lib.hid hBs
  have hBw : w.heap.size ≤ Bs := by rw [← hBs]; exact B2.out.size
  have HBW := Lib.hid hBw
  clear ho2 hr2 hb2 hBs hBw H1 C1
  go_wp2_with fail
  go_loopw [3, 15] (fun v i wr => ∃ k : Nat, k ≤ n ∧ i = .int .i64 k ∧ OwnL RdC wr Bs 88 5 v (x.list.take k) ∧ Below w2.heap.size w2 wr) (fun _ i _ => n - (intOf i).toNat)
  case atStart => exact ⟨0, Nat.zero_le _, rfl, by rw [List.take_zero]; exact OwnL.nil_ _ _ _ _ _, Below.refl _ _⟩
  case round =>
    obtain ⟨k, hkn, rfl, hu, hbw⟩ := hrel
    have Hu := Lib.hid hu
    have Hb := Lib.hid hbw
    have HC := Lib.hid (H2.out.ext hbw)
    clear hu hbw
    by_cases hlt : k < n
    · have d0 : decide ((k : Int) < (n : Int)) = true := by simpa using hlt
      have hkl : k < x.list.length := by rw [HN.out]; exact hlt
      have hki : k < (idsC x.list).length := by rw [HIL.out]; exact hlt
      obtain ⟨ad, rfl, hc⟩ := (Hr2.out.below Hb.out).int k hki
      obtain ⟨c, hce, hcg, hlv, hlf, hpl, hnl⟩ := HS.out.cgs hkl
      have hide : (idsC x.list)[k] = c.id := (show (idsC x.list)[k] = x.list[k].id from List.getElem_map _).trans (by rw [hce])
      rw [hide] at hc
      have HT := Lib.hid (show x.list.take (k + 1) = x.list.take k ++ [c] by rw [List.take_succ_eq_append_getElem hkl, hce])
      have HTL := Lib.hid (show (x.list.take k).length = k by rw [List.length_take]; omega)
      have LV := Lib.hid hlv
      have HCV := Lib.hid (HC.out.cvw hlv)
      have ML := Lib.hid (pmap_in (a := A.ha) hlf).1
      have HB := Lib.hid (HC.out.hb hlv)
      have DT := Lib.hid (H.out.asn (.dat c.id) hlv)
      rw [hcg] at HCV HB
      have Hwf := Lib.hid (wf_int HCV.out.lo0 HCV.out.hi0)
      generalize x.list.take k = L at *
      have c2 : wr.cell? ⟨A.ca, 2, none⟩ = some (.map (some A.ml)) := HC.out.cc.cell 2
      clear hkl hki hce hcg hlv hlf hpl hnl hide
      go_wp2_with (first | refine wpList_lookZ rfl _ _ _ rfl _ _ Tryz.underlying3 Tryz.underlying94 Tryz.zeroChg rfl HC.out.mlw c.id rfl Hwf.out (.pointer (some ⟨A.ha c.id, 0, none⟩)) ML.out ?_ | refine wpList_load_part rfl _ _ rfl (A.ha c.id) 0 rfl [.int .i64 c.id, .int .i64 c.block, .int .i64 c.p.at_, .slice (A.sl c.id).Ad (A.sl c.id).nd (A.sl c.id).cd, .slice (A.sl c.id).An (A.sl c.id).nn (A.sl c.id).cn] _ _ HB.out (fun j hj => by match j, hj with | 0, _ => rfl | 1, _ => rfl | 2, _ => rfl | 3, _ => rfl | 4, _ => rfl) _ Tryz.underlying88 rfl Tryz.chgSize _ rfl ?_ | refine wpList_build_row rfl _ _ _ rfl Tryz.underlying46 5 72 _ Tryz.chgInfo (by decide) (by decide) #[.int .i64 c.id, .int .i64 c.block, .int .i64 c.p.at_, .slice (A.sl c.id).Ad (A.sl c.id).nd (A.sl c.id).cd, .slice (A.sl c.id).An (A.sl c.id).nn (A.sl c.id).cn] rfl rfl ?_)
      apply Stop.go; intro w5 Hg5 Hb5
      have Hu5 := Lib.hid (Hu.out.ext Hg5.out.1)
      have Hcv5 := Lib.hid (show CV w5 c _ _ _ _ _ _ from HCV.out.below Hg5.out.1)
      have Z5 := Lib.hid (show Bs ≤ w5.heap.size from by have h1 := Hb.out.size; have h2 := Hg5.out.1.size; have h3 := HBs.out; omega)
      have hl1 : L.length + 1 ≤ 140737488355328 := by have := HTL.out; omega
      have hl2 : (L.length + 1) * 72 ≤ 140737488355328 := by have := HTL.out; omega
      go_wp2_with (at_builtin; refine wpList_append_L RdC rfl _ _ _ _ rfl Tryz.underlying46 5 72 _ Tryz.chgInfo rfl (by decide) Bs _ L rfl Hu5.out _ _ rfl Hb5.out rfl (by simp [Value.oneCell']) c Hcv5.out.rd (fun q hq e => far5 hq (fun e2 => by
        have h1 := (Hu5.out.lt q e).1
        have h3 := HBW.out
        cases hA : (A.sl c.id).Ad with
        | none => rw [hA] at e2; cases e2
        | some a => rw [hA] at e2; have h2 := H.out.lt _ _ (DT.out.2.1 a hA); injection e2 with e2; have e3 : a.block = q := e2; omega) (fun e2 => by
        have h1 := (Hu5.out.lt q e).1
        have h3 := HBW.out
        cases hA : (A.sl c.id).An with
        | none => rw [hA] at e2; cases e2
        | some a => rw [hA] at e2; have h2 := H.out.lt _ _ (DT.out.2.2 a hA); injection e2 with e2; have e3 : a.block = q := e2; omega)) Z5.out hl1 hl2 ?_)
      apply Stop.go
      intro gL capL wL HL HbL HgL HwL
      have BL := Lib.hid ((bt Hb.out Hg5.out.1).trans (HbL.out.mono (Nat.le_of_eq HBs.out)))
      clear hc c2
      go_wp2_with fail
      go_roundw
      case rel => exact ⟨k + 1, by omega, by go_num, by rw [HT.out]; exact HL.out, BL.out⟩
      case measure => simp [intOf]; omega
    · have d0 : decide ((k : Int) < (n : Int)) = false := by simpa using hlt
      have HT := Lib.hid (show x.list.take k = x.list from List.take_of_length_le (by rw [HN.out]; omega))
      rw [HT.out] at Hu
      obtain ⟨A3, q3, e3, _, _, hr3⟩ := Hu.out.read
      subst e3
      have Hr3 := Lib.hid hr3
      rw [HN.out]
      clear hr3
      go_wp2_with fail
      have CWO := pwithoutH_any A3 n q3 x.list HN.out (by omega) (fun c hc => by
        obtain ⟨k, hk, rfl⟩ := List.getElem_of_mem hc
        obtain ⟨c, e, _, _, _, g1, g2⟩ := HS.out.cgs hk
        rw [e]
        omega) none 0 0 [] rfl (by omega) (fun z hz => by cases hz) _ Hr3.out (fun j hj => by cases hj)
      refine (CWO).mono ?_; rintro e w5 hr5
      clear CWO
      have HR5 : Hid (RetCH wr x.list e w5) := Lib.hid (by
        have h := hr5
        have e0 : withoutC x.list [] = x.list := by
          unfold withoutC
          exact List.filter_eq_self.2 fun c _ => rfl
        rw [e0] at h
        exact h)
      obtain ⟨A5, n5, q5, rfl, k1, k2, k3, k4, k5⟩ := HR5.out
      have BB := Lib.hid (show Below w.heap.size w w5 from (bt (bt B2.out (Hb.out.mono (Nat.le_refl _))) k5))
      have K := Lib.hid (show x.list.length = n5 ∧ n5 ≤ q5 ∧ q5 ≤ maxLen ∧ OwnL (RdHi wr.heap.size) w5 wr.heap.size 88 5 (.slice A5 n5 q5) x.list from ⟨k1, k2, k3, k4⟩)
      clear hr5 HR5 k1 k2 k3 k4 k5
      go_wp2_with fail
      go_ret
      exact ⟨A5, n5, q5, rfl, K.out.1, K.out.2.1, K.out.2.2.1, (OwnL.hiMono K.out.2.2.2 (by have h1 := B2.out.size; have h2 := Hb.out.size; omega)).low (by have h1 := B2.out.size; have h2 := Hb.out.size; omega), BB.out⟩

end Go.Proofs.YtpmbpklbiocclaaGreat
