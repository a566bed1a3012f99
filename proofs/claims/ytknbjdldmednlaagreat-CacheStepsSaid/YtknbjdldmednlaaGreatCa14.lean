/-
  The program's: Flush, as the document has it; Upto, Sync.
-/
import Derived.Test.YtknbjdldmednlaaGreatGrM
import Derived.Deep.LoopGhost
namespace Go.Proofs.YtknbjdldmednlaaGreat
open Go.RowKit

section
variable {w : World} {ro : Nat → Option Rl} {A : CA} {S : CS} {x : DC} {W : Int → List Int}
/-- A result of Flush, of Upto: the error, the cache. -/
def RetF2 (w : World) (ro : Nat → Option Rl) (A : CA) (S : CS) (W : Int → List Int) (y : DC) (n : Int) (e : Ending) (w' : World) : Prop :=
  e = .returned (.int .i64 n) ∧ ∃ ro' fv' S', HP w' ro' { A with fv := fv' } S' ∧ Tr ro ro' w w' ∧ Sim S' y W ∧ S'.cg = S.cg ∧ S'.live = S.live ∧ S'.last = S.last ∧ S'.dev.rd = S.dev.rd
theorem Sim.kahn0 (h : Sim S x W) {no : Int} (hk : S.kn no = true) (hf : S.free no = []) : Kahn (idsC x.list) (depW W) (fun j => (S.cg j).block) no [] where
  nd := List.nodup_nil
  mem j hj := by cases hj
  ord q hq := by cases hq
  cl j hj hb hd := by
    have h1 := ((h.free no hk).2 j).2 ⟨hj, hb, wN_zero.2 fun i hi => by
      cases e : depW W i j
      · rfl
      · have := hd i hi e
        cases this⟩
    rw [hf] at h1
    cases h1
theorem Dev.write_rd (d : Dev) (no : Int) (Z : List UInt8) : (d.write no Z).rd = d.rd := by
  unfold Dev.write
  split
  · rfl
  · split
    · split <;> rfl
    · rfl
theorem flush2_any (h : HP w ro A S) (hs : Sim S x W) (hl : x.last ≤ 100000) (no : Int) (hlo : -9223372036854775808 ≤ no) (hhi : no < 9223372036854775808) :
    Calls Tryz.prog 25 #[ptr A.ca, .int .i64 no] w (RetF2 w ro A S W (x.flush no) (x.flushE no)) := by
  have hla := hs.last
  have hwr : S.dev.wr < 4611686018427387904 := by rw [hs.wr]; have := hs.ok.wrote; omega
  refine (flush_any h (hs.gr hl) no hlo hhi hwr (hs.bd hl).dr hs.en0 hs.en1 (by omega)).mono ?_
  rintro e w' (⟨hn, rfl, h1, t1⟩ | ⟨hk, hf, L, hK, ⟨hw, rfl, h1, t1⟩ | ⟨hw, rfl, ro', fv', S', h1, t1, hE⟩⟩)
  · have hn2 : S.kn no = false ∨ (S.kn no = true ∧ S.free no = []) := by
      rcases hn with hn | hn
      · exact Or.inl hn
      · cases hk : S.kn no
        · exact Or.inl rfl
        · exact Or.inr ⟨rfl, hn⟩
    obtain ⟨q1, q2⟩ := hs.flush_none hn2 fun hk => by
      rcases hn2 with hn2 | hn2
      · rw [hk] at hn2; cases hn2
      · exact ⟨[], hs.kahn0 hk hn2.2⟩
    exact ⟨by rw [q2], ro, A.fv, S, h1, t1, by rw [q1]; exact hs, rfl, rfl, rfl, rfl⟩
  · obtain ⟨q1, q2⟩ := hs.flush_not hk hf hK hw (S.img no L)
    exact ⟨by rw [q2], ro, A.fv, _, h1, t1, q1, rfl, rfl, rfl, Dev.write_rd _ _ _⟩
  · obtain ⟨q1, q2⟩ := hs.flush hk hf hK hw hE
    exact ⟨by rw [q2], ro', fv', S', h1, t1, q1, hE.cg, hE.live, hE.last, by rw [hE.dev]; exact Dev.write_rd _ _ _⟩
/-- The first of the list. -/
theorem Sim.first (h : Sim S x W) {e1 : Int} (he : S.ended + 1 = e1) (hlt : S.ended < S.last) : ∃ c t, x.list = c :: t ∧ c.id = e1 ∧ S.cg e1 = c := by
  obtain ⟨c, hc, hce⟩ := hasId_iff.1 (h.en3 hlt)
  rw [he] at hce
  cases hl : x.list with
  | nil => rw [hl] at hc; cases hc
  | cons d t =>
    have h1 := h.en2 d (by rw [hl]; simp)
    have h2 : d = c := by
      rw [hl] at hc
      rcases List.mem_cons.1 hc with rfl | hc
      · rfl
      · have h3 := may_pw h.ok.may
        rw [hl] at h3
        have := (List.pairwise_cons.1 h3).1 c hc
        omega
    subst h2
    exact ⟨d, t, rfl, hce, by rw [← hce]; exact h.dep.cg d (by rw [hl]; simp)⟩
theorem Sim.none_first (h : Sim S x W) (id : Int) (hn : ¬ (S.ended < id ∧ S.ended < S.last)) : ∀ c t, x.list = c :: t → ¬ c.id ≤ id := by
  intro c t hl hi
  have h1 := h.en2 c (by rw [hl]; simp)
  have h2 := h.ok.ids c (by rw [hl]; simp)
  have h3 := h.last
  exact hn ⟨by omega, by omega⟩
set_option maxRecDepth 100000 in
set_option maxHeartbeats 8000000 in
theorem upto_any (h : HP w ro A S) (hs : Sim S x W) (hl : x.last ≤ 100000) (id : Int) (_hlo : -9223372036854775808 ≤ id) (_hhi : id < 9223372036854775808) :
    Calls Tryz.prog 31 #[ptr A.ca, .int .i64 id] w (RetF2 w ro A S W (x.upto id).1 (x.upto id).2) := by
  have H := Lib.hid h
  have HS := Lib.hid hs
  have T0 := Lib.hid (Tr.refl ro w)
  clear h hs
  unfold ptr
  go_enter Tryz.func31, Tryz.ntmps31
  go_wp2_with fail
  go_loopg [] (x.list.length) (fun gh wr => ∃ (y : DC) (rk : Nat → Option Rl) (fv1 : Int → Value) (S1 : CS), HP wr rk { A with fv := fv1 } S1 ∧ Tr ro rk w wr ∧ Sim S1 y W ∧ Hid (y.upto id = x.upto id) ∧ Hid (y.last = x.last) ∧ y.list.length ≤ gh ∧ Hid (S1.cg = S.cg ∧ S1.live = S.live ∧ S1.last = S.last ∧ S1.dev.rd = S.dev.rd))
  case atStart => exact ⟨x, ro, A.fv, S, H.out, T0.out, HS.out, Lib.hid rfl, Lib.hid rfl, Nat.le_refl _, Lib.hid ⟨rfl, rfl, rfl, rfl⟩⟩
  case round =>
    obtain ⟨y, rk, fv1, S1, hpk, htk, hsk, HU, HLx, hgl, HF⟩ := hrel
    have Hk := Lib.hid hpk
    have Tk := Lib.hid htk
    have HSk := Lib.hid hsk
    clear hpk htk hsk
    obtain ⟨en, hen⟩ : ∃ en, S1.ended = en := ⟨_, rfl⟩
    obtain ⟨la, hla⟩ : ∃ la, S1.last = la := ⟨_, rfl⟩
    have hb : 0 ≤ en ∧ en ≤ la ∧ la ≤ 100000 := by
      have h1 := HSk.out.en0; have h2 := HSk.out.en1; have h3 := HSk.out.last; have h4 := HLx.out
      omega
    have hSC : ccells { A with fv := fv1 } S1 = #[ptr A.dv, .map (some A.mb), .map (some A.ml), .int .i64 la, .int .i64 en] := by unfold ccells; rw [hen, hla]
    have CC := Lib.hid Hk.out.cc
    rw [hSC] at CC
    have HEN := Lib.hid hen
    have HLA := Lib.hid hla
    clear hSC hen hla
    obtain ⟨m, hm⟩ : ∃ m : Int, min id la = m := ⟨_, rfl⟩
    have hmi : en < m ↔ en < id ∧ en < la := by rw [← hm]; omega
    have HMI := Lib.hid hmi
    have HM := Lib.hid hm
    clear hm hmi
    go_wp2_with fail
    refine WH.start (S := fun w' : World => Blk w' A.ca 73 #[ptr A.dv, .map (some A.mb), .map (some A.ml), .int .i64 la, .int .i64 en]) [false, false, false, false, false, false, false, false, false, false, false] 11 rfl rfl (by kernel_rfl) (CC.out.ext (bdrew wr 1)) (fun hSn => ?_)
    obtain ⟨wS, hwS⟩ : ∃ x, wr.drew = x := ⟨_, rfl⟩
    have HkS := Lib.hid (Hk.out.drew 1)
    have TkS := Lib.hid (Tk.out.bel (bdrew wr 1))
    rw [show wr.drewN 1 = wS from hwS] at HkS TkS
    rw [hwS] at hSn ⊢
    clear hwS Hk Tk CC
    refine WH.take 0 _ ?_ rfl (by kernel_rfl) (fun _ _ _ h => h) rfl (by assumption) ?_ ?_; rotate_left; (focus (intro w hSw; (try dsimp only at hSw); (first | (go_simp; done) | (go_simp; with_reducible rfl)))); simp only [Act.put, List.setIfInBounds_toArray, List.set_cons_zero, List.set_cons_succ]
    refine WH.take 1 _ ?_ rfl (by kernel_rfl) (fun _ _ _ h => h) rfl (by assumption) ?_ ?_; rotate_left; (focus (intro w hSw; (try dsimp only at hSw); (first | (go_simp; done) | (go_simp; with_reducible rfl)))); simp only [Act.put, List.setIfInBounds_toArray, List.set_cons_zero, List.set_cons_succ]
    refine WH.take 2 _ ?_ rfl (by kernel_rfl) (fun _ _ _ h => h) rfl (by assumption) ?_ ?_; rotate_left; (focus (intro w hSw; (try dsimp only at hSw); (first | (go_simp; done) | (go_simp; with_reducible rfl)))); simp only [Act.put, List.setIfInBounds_toArray, List.set_cons_zero, List.set_cons_succ]
    refine WH.take 3 _ _ rfl (by kernel_rfl) (fun _ _ _ h => h) rfl (by assumption) (fun w' hSw => exec_load_cell _ _ rfl _ rfl (.int .i64 en) (hSw.cell 4) _ (Tryz.underlying3) rfl) ?_; simp only [Act.put, List.setIfInBounds_toArray, List.set_cons_zero, List.set_cons_succ]
    refine WH.take 4 _ ?_ rfl (by kernel_rfl) (fun _ _ _ h => h) rfl (by assumption) ?_ ?_; rotate_left; (focus (intro w hSw; (try dsimp only at hSw); (first | (go_simp; done) | (go_simp; with_reducible rfl)))); simp only [Act.put, List.setIfInBounds_toArray, List.set_cons_zero, List.set_cons_succ]
    refine WH.take 5 _ ?_ rfl (by kernel_rfl) (fun _ _ _ h => h) rfl (by assumption) ?_ ?_; rotate_left; (focus (intro w hSw; (try dsimp only at hSw); (first | (go_simp; done) | (go_simp; with_reducible rfl)))); simp only [Act.put, List.setIfInBounds_toArray, List.set_cons_zero, List.set_cons_succ]
    refine WH.take 6 _ ?_ rfl (by kernel_rfl) (fun _ _ _ h => h) rfl (by assumption) ?_ ?_; rotate_left; (focus (intro w hSw; (try dsimp only at hSw); (first | (go_simp; done) | (go_simp; with_reducible rfl)))); simp only [Act.put, List.setIfInBounds_toArray, List.set_cons_zero, List.set_cons_succ]
    refine WH.take 7 _ ?_ rfl (by kernel_rfl) (fun _ _ _ h => h) rfl (by assumption) ?_ ?_; rotate_left; (focus (intro w hSw; (try dsimp only at hSw); (first | (go_simp; done) | (go_simp; with_reducible rfl)))); simp only [Act.put, List.setIfInBounds_toArray, List.set_cons_zero, List.set_cons_succ]
    refine WH.take 8 _ _ rfl (by kernel_rfl) (fun _ _ _ h => h) rfl (by assumption) (fun w' hSw => exec_load_cell _ _ rfl _ rfl (.int .i64 la) (hSw.cell 3) _ (Tryz.underlying3) rfl) ?_; simp only [Act.put, List.setIfInBounds_toArray, List.set_cons_zero, List.set_cons_succ]
    refine WH.take 9 _ ?_ rfl (by kernel_rfl) (fun _ _ _ h => h) rfl (by assumption) ?_ ?_; rotate_left; (focus (intro w hSw; (try dsimp only at hSw); (first | (go_simp; done) | (go_simp; with_reducible rfl)))); simp only [Act.put, List.setIfInBounds_toArray, List.set_cons_zero, List.set_cons_succ]
    rw [HM.out]
    refine WH.take 10 _ ?_ rfl (by kernel_rfl) (fun _ _ _ h => h) rfl (by assumption) ?_ ?_; rotate_left; (focus (intro w hSw; (try dsimp only at hSw); (first | (go_simp; done) | (go_simp; with_reducible rfl)))); simp only [Act.put, List.setIfInBounds_toArray, List.set_cons_zero, List.set_cons_succ]
    refine WH.done (by kernel_rfl) ?_
    by_cases hc : en < m
    · have d0 : decide (en < m) = true := by simpa using hc
      obtain ⟨hc1, hc2⟩ := HMI.out.1 hc
      obtain ⟨e1, he1⟩ : ∃ e1, en + 1 = e1 := ⟨_, rfl⟩
      have hew : IntKind.i64.wrap (en + 1) = e1 := by rw [IntKind.wrap_i64]; omega
      obtain ⟨c, t, hl1, hci, hcg⟩ := HSk.out.first (e1 := e1) (by rw [HEN.out]; exact he1) (by rw [HEN.out, HLA.out]; exact hc2)
      have hin : e1 ∈ idsC y.list := idsC_mem.2 ⟨c, by rw [hl1]; simp, hci⟩
      have LV := Lib.hid ((HSk.out.live e1).2 (HSk.out.rng hin))
      have ML := Lib.hid (pmap_in (a := A.ha) ((HSk.out.has e1).2 hin)).1
      have Hwf := Lib.hid (wf_int (z := e1) (by omega) (by omega))
      have HCG := Lib.hid hcg
      have HL1 := Lib.hid hl1
      have hlt := HSk.out.ok.blk c (by rw [hl1]; simp)
      have hle : y.last ≤ 100000 := by rw [HLx.out]; exact hl
      have HCV := Lib.hid (HkS.out.cvw LV.out)
      have hcb : -9223372036854775808 ≤ c.block ∧ c.block < 9223372036854775808 := by rw [← hcg]; exact ⟨HCV.out.lo1, HCV.out.hi1⟩
      have hidl : c.id ≤ id := by omega
      have HIDL := Lib.hid hidl
      rw [d0]
      clear hc hc1 hc2 he1 hci hin hcg hl1 hlt hidl hSn
      go_wp2_with fail
      refine WH.start (S := fun w' : World => (∃ e', Blk w' A.ca 73 #[ptr A.dv, .map (some A.mb), .map (some A.ml), .int .i64 la, .int .i64 e']) ∧ ∃ n v, Blk w' (A.ha e1) 92 (hcells c (A.sl e1) n v)) [false, false, false, false, false, false, false, false, false, false, false, false, false, false, false, false, false] 17 rfl rfl (by kernel_rfl) ⟨⟨en, by have h := (HkS.out.drew 1).cc; unfold ccells at h; rw [HEN.out, HLA.out] at h; exact h⟩, _, _, by have h := (HkS.out.drew 1).hb LV.out; rw [HCG.out] at h; exact h⟩ (fun hSn => ?_)
      obtain ⟨w5, hw5⟩ : ∃ x, wS.drew = x := ⟨_, rfl⟩
      have H5 := Lib.hid (HkS.out.drew 1)
      have T5 := Lib.hid (TkS.out.bel (bdrew wS 1))
      rw [show wS.drewN 1 = w5 from hw5] at H5 T5
      rw [hw5] at hSn ⊢
      clear hw5 HkS TkS
      refine WH.take 0 _ ?_ rfl (by kernel_rfl) (fun _ _ _ h => h) rfl (by assumption) ?_ ?_; rotate_left; (focus (intro w hSw; (try dsimp only at hSw); (first | (go_simp; done) | (go_simp; with_reducible rfl)))); simp only [Act.put, List.setIfInBounds_toArray, List.set_cons_zero, List.set_cons_succ]
      refine WH.take 1 _ ?_ rfl (by kernel_rfl) (fun _ _ _ h => h) rfl (by assumption) ?_ ?_; rotate_left; (focus (intro w hSw; (try dsimp only at hSw); (first | (go_simp; done) | (go_simp; with_reducible rfl)))); simp only [Act.put, List.setIfInBounds_toArray, List.set_cons_zero, List.set_cons_succ]
      refine WH.take 2 _ ?_ rfl (by kernel_rfl) (fun _ _ _ h => h) rfl (by assumption) ?_ ?_; rotate_left; (focus (intro w hSw; (try dsimp only at hSw); (first | (go_simp; done) | (go_simp; with_reducible rfl)))); simp only [Act.put, List.setIfInBounds_toArray, List.set_cons_zero, List.set_cons_succ]
      refine WH.take 3 _ ?_ rfl (by kernel_rfl) (fun _ _ _ h => h) rfl (by assumption) ?_ ?_; rotate_left; (focus (intro w hSw; (try dsimp only at hSw); (first | (go_simp; done) | (go_simp; with_reducible rfl)))); simp only [Act.put, List.setIfInBounds_toArray, List.set_cons_zero, List.set_cons_succ]
      refine WH.take 4 _ _ rfl (by kernel_rfl) (fun _ _ _ h => h) rfl (by assumption) (fun w' hSw => (by obtain ⟨e', hb⟩ := hSw.1; exact exec_load_cell _ _ rfl _ rfl (.map (some A.ml)) (hb.cell 2) _ Tryz.underlying71 rfl)) ?_; simp only [Act.put, List.setIfInBounds_toArray, List.set_cons_zero, List.set_cons_succ]
      refine WH.take 5 _ ?_ rfl (by kernel_rfl) (fun _ _ _ h => h) rfl (by assumption) ?_ ?_; rotate_left; (focus (intro w hSw; (try dsimp only at hSw); (first | (go_simp; done) | (go_simp; with_reducible rfl)))); simp only [Act.put, List.setIfInBounds_toArray, List.set_cons_zero, List.set_cons_succ]
      refine WH.take 6 _ ?_ rfl (by kernel_rfl) (fun _ _ _ h => h) rfl (by assumption) ?_ ?_; rotate_left; (focus (intro w hSw; (try dsimp only at hSw); (first | (go_simp; done) | (go_simp; with_reducible rfl)))); simp only [Act.put, List.setIfInBounds_toArray, List.set_cons_zero, List.set_cons_succ]
      refine WH.take 7 _ ?_ rfl (by kernel_rfl) (fun _ _ _ h => h) rfl (by assumption) ?_ ?_; rotate_left; (focus (intro w hSw; (try dsimp only at hSw); (first | (go_simp; done) | (go_simp; with_reducible rfl)))); simp only [Act.put, List.setIfInBounds_toArray, List.set_cons_zero, List.set_cons_succ]
      have CE : Hid (Blk w5 A.ca 73 #[ptr A.dv, .map (some A.mb), .map (some A.ml), .int .i64 la, .int .i64 en]) := Lib.hid (by have h := H5.out.cc; unfold ccells at h; rw [HEN.out, HLA.out] at h; exact h)
      refine WH.only 8 _ rfl (by kernel_rfl) rfl (fun K hK => ?_)
      unfold Oper.wp
      rw [exec_load_cell _ _ rfl _ rfl (.int .i64 en) (CE.out.cell 4) _ Tryz.underlying3 rfl]
      have hSn := hSn; refine hK _ _ hSn ?_; clear hK; clear K; simp only [Act.put, List.setIfInBounds_toArray, List.set_cons_zero, List.set_cons_succ]
      refine WH.take 9 _ ?_ rfl (by kernel_rfl) (fun _ _ _ h => h) rfl (by assumption) ?_ ?_; rotate_left; (focus (intro w hSw; (try dsimp only at hSw); (first | (go_simp; done) | (go_simp; with_reducible rfl)))); simp only [Act.put, List.setIfInBounds_toArray, List.set_cons_zero, List.set_cons_succ]
      (try rw [hew])
      refine WH.only 10 _ rfl (by kernel_rfl) rfl (fun K hK => ?_)
      unfold Oper.wp
      rw [exec_lookP _ _ _ rfl _ _ Tryz.underlying3 Tryz.underlying71 Tryz.zeroChg rfl H5.out.mlw e1 rfl Hwf.out (.pointer (some ⟨A.ha e1, 0, none⟩)) ML.out]
      have hSn := hSn; refine hK _ _ hSn ?_; clear hK; clear K; simp only [Act.put, List.setIfInBounds_toArray, List.set_cons_zero, List.set_cons_succ]
      refine WH.take 11 _ ?_ rfl (by kernel_rfl) (fun _ _ _ h => h) rfl (by assumption) ?_ ?_; rotate_left; (focus (intro w hSw; (try dsimp only at hSw); (first | (go_simp; done) | (go_simp; with_reducible rfl)))); simp only [Act.put, List.setIfInBounds_toArray, List.set_cons_zero, List.set_cons_succ]
      refine WH.take 12 _ ?_ rfl (by kernel_rfl) (fun _ _ _ h => h) rfl (by assumption) ?_ ?_; rotate_left; (focus (intro w hSw; (try dsimp only at hSw); (first | (go_simp; done) | (go_simp; with_reducible rfl)))); simp only [Act.put, List.setIfInBounds_toArray, List.set_cons_zero, List.set_cons_succ]
      refine WH.take 13 _ ?_ rfl (by kernel_rfl) (fun _ _ _ h => h) rfl (by assumption) ?_ ?_; rotate_left; (focus (intro w hSw; (try dsimp only at hSw); (first | (go_simp; done) | (go_simp; with_reducible rfl)))); simp only [Act.put, List.setIfInBounds_toArray, List.set_cons_zero, List.set_cons_succ]
      refine WH.take 14 _ _ rfl (by kernel_rfl) (fun _ _ _ h => h) rfl (by assumption) (fun w' hSw => (by obtain ⟨n, v, hb⟩ := hSw.2; exact exec_load_cell _ _ rfl _ rfl (.int .i64 c.block) (hb.cell 1) _ Tryz.underlying3 rfl)) ?_; simp only [Act.put, List.setIfInBounds_toArray, List.set_cons_zero, List.set_cons_succ]
      have CF := flush2_any H5.out HSk.out hle c.block hcb.1 hcb.2
      unfold ptr at CF
      refine WH.only 15 _ rfl (by kernel_rfl) rfl (fun K hK => ?_); go_simp; refine (CF).mono ?_; rintro e w7 ⟨rfl, ro7, fv7, S7, h7, t7, s7, g1, g2, g3, g4⟩; go_simp
      have H7 := Lib.hid h7
      have T7 := Lib.hid (T5.out.trans t7)
      have S7s := Lib.hid s7
      have HF7 := Lib.hid (show S7.cg = S.cg ∧ S7.live = S.live ∧ S7.last = S.last ∧ S7.dev.rd = S.dev.rd from ⟨g1.trans HF.out.1, g2.trans HF.out.2.1, g3.trans HF.out.2.2.1, g4.trans HF.out.2.2.2⟩)
      have LV7 := Lib.hid (show S7.live e1 = true by rw [g2]; exact LV.out)
      have HN := Lib.hid (show (∃ e', Blk w7 A.ca 73 #[ptr A.dv, .map (some A.mb), .map (some A.ml), .int .i64 la, .int .i64 e']) ∧ ∃ n v, Blk w7 (A.ha e1) 92 (hcells c (A.sl e1) n v) from ⟨⟨S7.ended, by have h := h7.cc; unfold ccells at h; rw [g3, HLA.out] at h; exact h⟩, _, _, by have h := h7.hb LV7.out; rw [g1, HCG.out] at h; exact h⟩)
      clear h7 t7 s7 g1 g2 g3 g4 CF
      have hSn := HN.out; refine hK _ _ hSn ?_; clear hK; clear K; simp only [List.set_cons_zero, List.set_cons_succ]
      refine WH.take 16 _ ?_ rfl (by kernel_rfl) (fun _ _ _ h => h) rfl (by assumption) ?_ ?_; rotate_left; (focus (intro w hSw; (try dsimp only at hSw); (first | (go_simp; done) | (go_simp; with_reducible rfl)))); simp only [Act.put, List.setIfInBounds_toArray, List.set_cons_zero, List.set_cons_succ]
      refine WH.done (by kernel_rfl) ?_
      have HST := Lib.hid (DC.upto_step HSk.out.ok HL1.out HIDL.out)
      by_cases hE : y.flushE c.block = 0
      · have hlen := DC.flush_less HSk.out.ok HL1.out hE
        have hyl : y.list.length = t.length + 1 := by rw [HL1.out]; rfl
        have hst := HST.out
        rw [if_pos hE] at hst
        have HU2 : Hid ((y.flush c.block).upto id = x.upto id) := Lib.hid (hst.symm.trans HU.out)
        have HL2 : Hid ((y.flush c.block).last = x.last) := Lib.hid (by rw [← HLx.out]; unfold DC.flush; split; · rfl
                                                                        · split <;> rfl)
        have hgk : (y.flush c.block).list.length < gk := by omega
        clear hst hlen hyl
        rw [hE]
        go_wp2_with fail
        go_roundg ((y.flush c.block).list.length)
        case rel => exact ⟨_, _, _, _, H7.out, T7.out, S7s.out, HU2, HL2, Nat.le_refl _, HF7⟩
        case measure => exact hgk
      · have hst := HST.out
        rw [if_neg hE] at hst
        have HR := Lib.hid (show x.upto id = (y.flush c.block, y.flushE c.block) from HU.out.symm.trans hst)
        have d2 : (y.flushE c.block != 0) = true := by simpa using hE
        clear hst hE
        go_wp2_with fail
        go_ret
        rw [HR.out]
        exact ⟨rfl, ro7, fv7, S7, H7.out, T7.out, S7s.out, HF7.out⟩
    · have d0 : decide (en < m) = false := by simpa using hc
      have HR := Lib.hid (show x.upto id = (y, 0) from HU.out.symm.trans (DC.upto_end (HSk.out.none_first id (by rw [HEN.out, HLA.out]; exact fun hh => hc (HMI.out.2 hh)))))
      rw [d0]
      clear hc
      go_wp2_with fail
      go_ret
      rw [HR.out]
      exact ⟨rfl, rk, fv1, S1, HkS.out, TkS.out, HSk.out, HF.out⟩
theorem sync_any (h : HP w ro A S) (hs : Sim S x W) (hl : x.last ≤ 100000) :
    Calls Tryz.prog 32 #[ptr A.ca] w (RetF2 w ro A S W (x.upto (x.last : Int)).1 (x.upto (x.last : Int)).2) := by
  have hla := hs.last
  have CL := last_any h
  have CU := upto_any h hs hl (x.last : Int) (by omega) (by omega)
  rw [hla] at CL
  unfold ptr at CL CU ⊢
  clear h hs hla
  go_enter Tryz.func32, Tryz.ntmps32
  go_wp2_with fail
  refine (CL).mono ?_; rintro e w1 ⟨rfl, rfl⟩
  go_wp2_with fail
  refine (CU).mono ?_; rintro e w2 ⟨rfl, hr⟩
  have HR := Lib.hid hr
  clear hr
  go_wp2_with fail
  go_ret
  exact ⟨rfl, HR.out⟩
end

end Go.Proofs.YtknbjdldmednlaaGreat
