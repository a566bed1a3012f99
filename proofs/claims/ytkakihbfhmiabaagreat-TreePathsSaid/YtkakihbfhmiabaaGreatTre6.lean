/-
  Contracts of package tree: node, and the order of Of.
-/
import Derived.Test.YtkakihbfhmiabaaGreatTre5
import Derived.Test.YtkakihbfhmiabaaGreatGrAZ
import Derived.Shelf.SlSortCmp.WholeK
namespace Go.Proofs.YtkakihbfhmiabaaGreat
open Go.RowKit Go.Shelf Go.Sort Go.Lib
set_option maxRecDepth 10000

/-- A node is what the call hands back, all that it leads to is the call's own. -/
def RetNd (w : World) (n : Nd) (x : Ending) (w' : World) : Prop := ∃ y, x = .returned (.agg (ncells y)) ∧ RNc w' y n ∧ (∀ g ∈ blocksOf (nrow y), w.heap.size ≤ g) ∧ Below w.heap.size w w'
theorem icell_at {X : List Int} {k : Nat} (hk : k < X.length) : (icells X)[k]? = some (.int .i64 (fld X k)) := by
  rw [icells_get, List.getElem?_eq_getElem hk]
  simp [fld, List.getD, hk]
theorem OwnB.extO {w w' : World} {B : Nat} {e : TypeId} {v : Value} {l : List UInt8} (h : OwnB w B e v l) (hb : Below w.heap.size w w') : OwnB w' B e v l := by
  obtain ⟨hl, h | ⟨g, cap, cur, hv, hbg, hg, h⟩⟩ := h
  · exact ⟨hl, Or.inl h⟩
  · exact ⟨hl, Or.inr ⟨g, cap, cur, hv, hbg, Blk.ext hg hb, h⟩⟩
theorem leads_own {w : World} {B : Nat} {e : TypeId} {v : Value} {l : List UInt8} (h : OwnB w B e v l) {g : Nat} (hl : leads v = some g) : B ≤ g := by
  obtain ⟨_, ⟨rfl, _⟩ | ⟨g', cap, cur, rfl, hbg, _⟩⟩ := h
  · cases hl
  · rw [leads_some] at hl
    split at hl
    · cases hl
    · injection hl with hl
      rw [← hl]
      exact hbg
theorem leads_ownN {w : World} {B N : Nat} {e : TypeId} {v : Value} {L : List (List Value)} (h : OwnN w B e N v L) {g : Nat} (hl : leads v = some g) : B ≤ g := by
  obtain ⟨_, _, ⟨rfl, _⟩ | ⟨g', cap, cur, rfl, hbg, _⟩⟩ := h
  · cases hl
  · rw [leads_some] at hl
    split at hl
    · cases hl
    · injection hl with hl
      rw [← hl]
      exact hbg
theorem exec_build7 {P : Program} {o : Oper} {a : Act} {w : World} (t : TypeId) (x0 x1 x2 x3 x4 x5 x6 : Operand) (ho : o.op = .build t #[(0, x0), (1, x1), (2, x2), (3, x3), (4, x4), (5, x5), (6, x6)]) (v0 v1 v2 v3 v4 v5 v6 : Value)
    (h0 : a.eval x0 = v0) (h1 : a.eval x1 = v1) (h2 : a.eval x2 = v2) (h3 : a.eval x3 = v3) (h4 : a.eval x4 = v4) (h5 : a.eval x5 = v5) (h6 : a.eval x6 = v6) (cs : Array Value) (hb : P.built t [(0, v0), (1, v1), (2, v2), (3, v3), (4, v4), (5, v5), (6, v6)] = some cs) : (execOp a.eval o).run P w = .ok (.value (.agg cs)) w := by
  have hr : (Instr.build t #[(0, v0), (1, v1), (2, v2), (3, v3), (4, v4), (5, v5), (6, v6)]).run P w = .ok (.agg cs) w := run_build w t #[(0, v0), (1, v1), (2, v2), (3, v3), (4, v4), (5, v5), (6, v6)] cs hb
  unfold execOp
  simp only [ho, Sem.run_bind, List.map_toArray, List.map_cons, List.map_nil, h0, h1, h2, h3, h4, h5, h6, hr, Result.andThen_ok]
  rfl
theorem Tryz.ndBuilt (a b c d e : Int) (A : Option Addr) (n k : Nat) (S : Option Addr) (m j : Nat) : Tryz.prog.built 51 [(0, .int .i64 a), (1, .int .i64 b), (2, .int .i64 c), (3, .int .i64 d), (4, .int .i64 e), (5, .slice A n k), (6, .slice S m j)] = some (ncells ⟨a, b, c, d, e, A, n, k, S, m, j⟩) := by kernel_rfl
set_option maxHeartbeats 3200000 in
theorem tnode_any (l : Lay14) (f : Value) (T : Int → List UInt8) (hT : ∀ no, (T no).length = 256) (i : Int) (w : World) (hf : FV w l f T) :
    Calls Tryz.prog 38 #[.agg (vval l f), .int .i64 i] w (RetNd w (nodP l T i)) := by
  have HF := Lib.hid hf
  have HIn := Lib.hid (fun w h => vinode_any l f T hT i w h)
  have HNd : Hid (nodP l T i = nodX l T i (vIno l T i)) := Lib.hid rfl
  rw [HNd.out]
  obtain ⟨X, hX⟩ : ∃ X, vIno l T i = X := ⟨_, rfl⟩
  have hXl : X.length = 11 := by rw [← hX]; exact vIno_len _ _ _
  rw [hX] at HIn ⊢
  have HXL := Lib.hid hXl
  have HfL : Hid (freeI.length = 11) := Lib.hid rfl
  have HSz := Lib.hid (fun w => fsize_any X hXl w)
  have HAl := Lib.hid (fun w h => fallo_any l f T hT X hXl w h)
  have HNm := Lib.hid (fun w h => tnames_any l f T hT X hXl w h)
  have HDl := Lib.hid (show (segR l T X 0 (sizeR X)).length = sizeR X from segR_len _ _)
  have HMk := Lib.hid (fun (x : Nc) (w : World) (h1 : x.ino = i) (h2 : x.kind = fld X 0) (h3 : x.links = fld X 1) (h4 : x.parent = fld X 3) (h5 : x.size = (sizeR X : Int)) (dn : x.n = (segR l T X 0 (sizeR X)).length) (dc : x.n ≤ x.c) (dm : x.c ≤ maxLen) (hd : RB w x.A (segR l T X 0 (sizeR X))) (sn : x.m = (namP l T X).length) (sc : x.m ≤ x.d) (sm : x.d ≤ maxLen) (hs : RN w x.S 2 (erows (namP l T X))) => show RNc w x (nodX l T i X) from ⟨h1, h2, h3, h4, h5, dn, dc, dm, hd, sn, sc, sm, hs⟩)
  generalize nodX l T i X = nd at *
  generalize segR l T X 0 (sizeR X) = D at *
  generalize namP l T X = M at *
  generalize sizeR X = S at *
  clear hf hT hX hXl HNd
  go_enter Tryz.func38, Tryz.ntmps38
  go_wp2_with (refine wpList_box_row rfl _ _ rfl _ rfl ?_)
  apply Stop.go; intro w1 Hg1 Hb1
  go_wp2_with (refine wpList_alloc_row rfl _ rfl _ Tryz.ndZero ?_)
  apply Stop.go; intro w2 Hg2 Hb2
  have HV2 := Lib.hid (Hb1.out.ext Hg2.out.1)
  have E2 := Lib.hid (bt Hg1.out.1 Hg2.out.1)
  have zr := Lib.hid (show w.heap.size < w1.heap.size by have := Hg1.out.2; omega)
  generalize w1.heap.size = gr at *
  clear Hg1 Hb1 Hg2
  go_wp2_with (refine wpList_load_blk rfl _ _ rfl _ rfl _ _ HV2.out _ Tryz.underlying44 rfl Tryz.viewSize ?_)
  refine (HIn.out _ (HF.out.below E2.out)).mono ?_; rintro e w3 ⟨rfl, hb3⟩
  have HV3 := Lib.hid (HV2.out.ext hb3)
  have HR3 := Lib.hid (Hb2.out.ext hb3)
  have E3 := Lib.hid (bt E2.out hb3)
  clear hb3 HV2 Hb2 E2 HIn
  go_wp2_with (refine wpList_alloc_row rfl _ rfl _ Tryz.inoZero ?_)
  apply Stop.go; intro w4 Hg4 Hb4
  go_wp2_with (refine wpList_store_arr rfl _ _ _ rfl _ _ rfl rfl _ _ Hb4.out (Tryz.inoFits HXL.out) (by simp only [icells_size, HXL.out, HfL.out]) (oneCell_icells _) ?_)
  apply Stop.go; intro w5 Ho5 Hb5
  have D5 := Lib.hid (bonly Hg4.out.1 Ho5.out (Nat.le_refl _))
  have HV5 := Lib.hid (HV3.out.ext D5.out)
  have HR5 := Lib.hid (HR3.out.ext D5.out)
  have E5 := Lib.hid (bt E3.out D5.out)
  have zi := Lib.hid (show gr < w3.heap.size from HR3.out.lt)
  generalize w3.heap.size = gi at *
  clear Hg4 Hb4 Ho5 D5 HV3 HR3 E3
  go_wp2_with fail
  refine WT.start 16 (S := fun w' : World => Blk w' w.heap.size 44 (vval l f) ∧ Blk w' gi 59 (icells X) ∧ FV w' l f T ∧ Blk w' gr 51 (ncells ⟨0, 0, 0, 0, 0, none, 0, 0, none, 0, 0⟩)) [false, false, false, false, false, false, false, false, false, false, false, false, false, false, false, false, false] 17 rfl rfl (by kernel_rfl) ⟨HV5.out.ext (bdrew w5 1), Hb5.out.ext (bdrew w5 1), HF.out.below (E5.out.trans ((bdrew w5 1).mono E5.out.size)), HR5.out.ext (bdrew w5 1)⟩ (fun hSn => ?_); obtain ⟨wS, hwS⟩ : ∃ x, (w5).drew = x := ⟨_, rfl⟩; have HE := Lib.hid (show Below (w5).heap.size (w5) wS from hwS ▸ bdrew w5 1); rw [hwS] at hSn ⊢; clear hwS
  refine WT.tk 0 ?_; simp only [setL]
  refine WT.tk 1 ?_; simp only [setL]
  refine WT.tv 2 rfl (fun w' hSw => exec_load_cell _ _ rfl ⟨gi, 0, none⟩ rfl (.int .i64 (fld X 0)) (by rw [hSw.2.1.cell]; exact icell_at (by rw [HXL.out]; decide)) _ Tryz.underlying3 rfl) ?_; simp only [setL]
  refine WT.tk 3 ?_; simp only [setL]
  refine WT.tv 4 rfl (fun w' hSw => exec_load_cell _ _ rfl ⟨gi, 1, none⟩ rfl (.int .i64 (fld X 1)) (by rw [hSw.2.1.cell]; exact icell_at (by rw [HXL.out]; decide)) _ Tryz.underlying3 rfl) ?_; simp only [setL]
  refine WT.tk 5 ?_; simp only [setL]
  refine WT.tv 6 rfl (fun w' hSw => exec_load_cell _ _ rfl ⟨gi, 3, none⟩ rfl (.int .i64 (fld X 3)) (by rw [hSw.2.1.cell]; exact icell_at (by rw [HXL.out]; decide)) _ Tryz.underlying3 rfl) ?_; simp only [setL]
  refine WT.tv 7 rfl (fun w' hSw => exec_load_blk _ _ rfl _ rfl _ _ hSw.2.1 _ Tryz.underlying59 rfl (Tryz.inoFits HXL.out)) ?_; simp only [setL]
  refine WT.tv 9 rfl (fun w' hSw => exec_load_blk _ _ rfl _ rfl _ _ hSw.1 _ Tryz.underlying44 rfl Tryz.viewSize) ?_; simp only [setL]
  refine WT.tv 10 rfl (fun w' hSw => exec_load_blk _ _ rfl _ rfl _ _ hSw.2.1 _ Tryz.underlying59 rfl (Tryz.inoFits HXL.out)) ?_; simp only [setL]
  refine WT.tv 12 rfl (fun w' hSw => exec_load_blk _ _ rfl _ rfl _ _ hSw.1 _ Tryz.underlying44 rfl Tryz.viewSize) ?_; simp only [setL]
  refine WT.tv 13 rfl (fun w' hSw => exec_load_blk _ _ rfl _ rfl _ _ hSw.2.1 _ Tryz.underlying59 rfl (Tryz.inoFits HXL.out)) ?_; simp only [setL]
  refine WT.only 8 _ rfl (by kernel_rfl) rfl (fun K hK => ?_)
  go_simp; refine (HSz.out _).mono ?_; rintro e wa ⟨rfl, hba⟩; go_simp
  have HE := Lib.hid (bt HE.out hba)
  have hSn := And.intro (hSn.1.ext hba) (And.intro (hSn.2.1.ext hba) (And.intro (hSn.2.2.1.below hba) (hSn.2.2.2.ext hba))); refine hK _ _ hSn ?_; clear hK; clear K; simp only [setL]
  refine WT.only 11 _ rfl (by kernel_rfl) rfl (fun K hK => ?_)
  go_simp; refine (HAl.out _ hSn.2.2.1).mono ?_; rintro e wb ⟨vd, rfl, hvd, hbb⟩; go_simp
  have HD := Lib.hid hvd
  have ZD := Lib.hid HE.out.size
  have HE := Lib.hid (bt HE.out hbb)
  clear hvd
  have hSn := And.intro (hSn.1.ext hbb) (And.intro (hSn.2.1.ext hbb) (And.intro (hSn.2.2.1.below hbb) (hSn.2.2.2.ext hbb))); refine hK _ _ hSn ?_; clear hK; clear K; simp only [setL]
  refine WT.only 14 _ rfl (by kernel_rfl) rfl (fun K hK => ?_)
  go_simp; refine (HNm.out _ hSn.2.2.1).mono ?_; rintro e wc ⟨vs, rfl, hvs, hbc⟩; go_simp
  have HD := Lib.hid (HD.out.extO hbc)
  have HS := Lib.hid hvs
  have ZS := Lib.hid HE.out.size
  have HE := Lib.hid (bt HE.out hbc)
  clear hvs
  have hSn := And.intro (hSn.1.ext hbc) (And.intro (hSn.2.1.ext hbc) (And.intro (hSn.2.2.1.below hbc) (hSn.2.2.2.ext hbc))); refine hK _ _ hSn ?_; clear hK; clear K; simp only [setL]
  obtain ⟨Ad, cd, hvd, d1, d2, d3⟩ := HD.out.read
  obtain ⟨As, cs, hvs, s1, s2, s3⟩ := HS.out.read
  rw [erows_len] at hvs s1
  obtain ⟨y, Hy⟩ : ∃ y : Nc, Hid (y = ⟨i, fld X 0, fld X 1, fld X 3, (S : Int), Ad, D.length, cd, As, M.length, cs⟩) := ⟨_, Lib.hid rfl⟩
  have HB := Lib.hid (Tryz.ndBuilt i (fld X 0) (fld X 1) (fld X 3) (S : Int) Ad D.length cd As M.length cs)
  rw [← Hy.out] at HB
  have HR := Lib.hid (HMk.out y wc (by rw [Hy.out]) (by rw [Hy.out]) (by rw [Hy.out]) (by rw [Hy.out]) (by rw [Hy.out]) (by rw [Hy.out]) (by rw [Hy.out]; exact d1) (by rw [Hy.out]; exact d2) (by rw [Hy.out]; exact d3) (by rw [Hy.out]) (by rw [Hy.out]; exact s1) (by rw [Hy.out]; exact s2) (by rw [Hy.out]; exact s3))
  have HGw := Lib.hid (show ∀ g ∈ blocksOf (nrow y), w5.heap.size ≤ g from fun g hg => by
    obtain ⟨v, hv, hl⟩ := mem_blocksOf.1 hg
    rw [Hy.out] at hv
    simp only [nrow, List.mem_cons, List.mem_nil_iff, or_false] at hv
    rcases hv with rfl | rfl | rfl | rfl | rfl | rfl | rfl
    · cases hl
    · cases hl
    · cases hl
    · cases hl
    · cases hl
    · rw [← hvd] at hl
      exact Nat.le_trans ZD.out (leads_own HD.out hl)
    · rw [← hvs] at hl
      exact Nat.le_trans ZS.out (leads_ownN HS.out hl))
  have HG := Lib.hid (fun g hg => Nat.le_trans E5.out.size (HGw.out g hg))
  have HGr := Lib.hid (show ∀ g ∈ blocksOf (nrow y), g ≠ gr from fun g hg e => by
    have h1 := HGw.out g hg
    have h2 := HR5.out.lt
    omega)
  subst hvd
  subst hvs
  clear d1 d2 d3 s1 s2 s3 HD HS HMk
  refine WT.tv 15 rfl (fun w' hSw => exec_build7 _ _ _ _ _ _ _ _ rfl _ _ _ _ _ _ _ rfl rfl rfl rfl rfl rfl rfl _ HB.out) ?_; simp only [setL]
  refine WT.last _ rfl (by kernel_rfl) rfl (fun K hK => ?_)
  refine ow_store _ _ _ rfl gr (ncells y) rfl rfl _ _ hSn.2.2.2 Tryz.ndSize rfl (ncells_one y) ?_
  apply Stop.go; intro wd Hod Hbd
  have Ed := Lib.hid (bonly (bt E5.out HE.out) Hod.out (Nat.le_of_lt zr.out))
  have HRd := Lib.hid (HR.out.stay (w' := wd) fun g hg => Hod.out.block g (HGr.out g hg))
  refine hK _ _ ?_; clear hK; clear K; simp only [setL]; refine WT.done (by kernel_rfl) ?_
  go_wp2_with ((with_reducible show bodyPost _ _ _ _ _ _); refine bodyPost_struct rfl _ rfl _ _ Hbd.out _ Tryz.underlying51 rfl Tryz.ndSize rfl ?_)
  apply Stop.go
  exact ⟨y, rfl, HRd.out, HG.out, Ed.out⟩

end Go.Proofs.YtkakihbfhmiabaaGreat
