/-
  The program's: add.
-/
import Derived.Test.YtpmbpklbiocclaaGreatCa6
namespace Go.Proofs.YtpmbpklbiocclaaGreat
open Go.RowKit

theorem Tryz.infoPtr : (Tryz.prog.info? 95).map (fun i => (i.zero, i.size, i.bytes)) = some (some (.pointer none), 1, 8) := by kernel_rfl
theorem Tryz.infoInts : (Tryz.prog.info? 59).map (fun i => (i.zero, i.size, i.bytes)) = some (some (.slice none 0 0), 1, 24) := by kernel_rfl
theorem Tryz.patZero : (Tryz.prog.info? 64).map (·.zero) = some (some (.agg #[.int .i64 0, .slice none 0 0])) := by kernel_rfl
theorem Tryz.patSize : (Tryz.prog.info? 64).map (·.size) = some 2 := by kernel_rfl
theorem Tryz.ptrsSize : (Tryz.prog.info? 99).map (·.size) = some 1 := by kernel_rfl
section
variable {P : Program} {Q : Exit → Act → World → Prop} {a : Act} {w : World}
theorem WH.readBuildP {l : List Oper} {S : World → Prop} {listed : List Bool} {n : Nat} (i j : Nat) (oi oj : Oper) (hi : l[i]? = some oi) (hj : l[j]? = some oj) (v : Value) (t e : TypeId) (x : Operand) (ho : oj.op = .buildSlice t 1 #[(0, x)]) (ht : P.underlying t = some (.slice e)) (z : Value) (by_ : Nat) (hinf : (P.info? e).map (fun i => (i.zero, i.size, i.bytes)) = some (some z, 1, by_))
    (X : Nat) (hx1 : a.eval x = ptr X) (hx2 : (a.put oi.dst v).eval x = ptr X)
    (hr : Region.ready .any l.toArray listed.toArray = [i, j]) (hri : Region.ready .any l.toArray (listed.set i true).toArray = [j]) (hrj : Region.ready .any l.toArray (listed.set j true).toArray = [i])
    (hwi : Region.wanted oi (yielded l.toArray a.tmps) = true) (hwj : Region.wanted oj (yielded l.toArray a.tmps) = true) (hwi2 : ∀ u, Region.wanted oi (yielded l.toArray (a.put oj.dst u).tmps) = true) (hwj2 : Region.wanted oj (yielded l.toArray (a.put oi.dst v).tmps) = true)
    (hij : i ≠ j) (hcm : ∀ u, (a.put oj.dst u).put oi.dst v = (a.put oi.dst v).put oj.dst u)
    (hS : S w) (hS1 : ∀ w1, Grew w w1 → S w1) (hl1 : (execOp a.eval oi).run P w = .ok (.value v) w) (hl2 : ∀ u w1, Grew w w1 → (execOp (a.put oj.dst u).eval oi).run P w1 = .ok (.value v) w1)
    (h : Stop (∀ w1, Hid (Grew w w1) → Hid (Blk w1 w.heap.size e #[ptr X]) → WH P l Q S ((listed.set i true).set j true) n ((a.put oi.dst v).put oj.dst (.slice (some ⟨w.heap.size, 0, none⟩) 1 1)) w1)) : WH P l Q S listed (n + 2) a w := by
  refine WH.two i j oi oj hi hj hr hwi hwj (fun K hK => ?_) (fun K hK => ?_)
  · unfold Oper.wp
    rw [hl1]
    refine hK _ _ hS ?_
    refine WH.only j oj hj hri hwj2 (fun K hK => ?_)
    exact ow_build_ptr t e x ho ht z by_ hinf X hx2 (fun w' g b => hK _ _ (hS1 _ g.out) (h _ g b))
  · refine ow_build_ptr t e x ho ht z by_ hinf X hx1 (fun w' g b => hK _ _ (hS1 _ g.out) ?_)
    refine WH.only i oi hi hrj (hwi2 _) (fun K hK => ?_)
    unfold Oper.wp
    rw [hl2 _ _ g.out]
    refine hK _ _ (hS1 _ g.out) ?_
    rw [hcm, List.set_comm _ _ hij.symm]
    exact h _ g b
end
def ReadC (A : CA) (S : CS) (x : Int) (w : World) : Prop := Blk w A.ca 98 (ccells A S) ∧ MapZ (.pointer none) w Tryz.prog 3 A.ml A.nl (pmap S.lf A.ha) ∧ ∃ v, Blk w (A.ha x) 101 (hcells (S.cg x) (A.sl x) (S.waits x) v)
def CS.add (S : CS) (no id : Int) (L : List Int) (p : Pt) : CS := { S with
  beh := addB S.beh id L, waits := updF S.waits id L.length, free := if L = [] then updF S.free no (S.free no ++ [id]) else S.free,
  lat := updF S.lat no (latS (S.lat no) p.lo p.data.length id), lf := updF S.lf id true, dirty := updF S.dirty no (S.dirty no + 1), view := updF S.view no (layP (S.view no) p) }
def CS.ahead (S : CS) (no : Int) (c : Cg) : List Int := stillL S.lf (c.needs ++ ((S.lat no).drop c.p.lo).take c.p.data.length)
set_option maxRecDepth 100000 in
set_option maxHeartbeats 8000000 in
theorem add_any (w : World) (ro : Nat → Option Rl) (A : CA) (S : CS) (h : HP w ro A S) (no id : Int) (c : Cg) (hk : S.kn no = true) (hl : S.live id = true) (hc : S.cg id = c) (hci : c.id = id) (hpr : c.p.right = true)
    (hlf : S.lf id = false) (hll : ∀ i, S.lf i = true → S.live i = true) (hbl : ∀ i, S.live i = true → (S.beh i).length ≤ 100000) (hfl : (S.free no).length ≤ 100000) (hnd : c.needs.length ≤ 50000) (hnl : A.nl < 1000000)
    (hlt : ∀ x ∈ S.lat no, -9223372036854775808 ≤ x ∧ x < 9223372036854775808) (hdr : 0 ≤ S.dirty no ∧ S.dirty no < 1000000) :
    Calls Tryz.prog 49 #[ptr A.ca, ptr (A.ka no), ptr (A.ha id)] w fun e w' => ∃ ro' hv' fv', e = .returned (.tuple #[]) ∧ HP w' ro' { A with hv := hv', fv := fv', nl := A.nl + 1 } (S.add no id (S.ahead no c) c.p) ∧ Tr ro ro' w w' := by
  subst hc
  obtain ⟨p1, p2, p3, p4⟩ := Pt.right_iff.1 hpr
  have H := Lib.hid h
  have Hhb := Lib.hid (h.hb hl)
  have Hcv := Lib.hid (h.cvw hl)
  have HK := Lib.hid hk
  have HL := Lib.hid hl
  have HLF := Lib.hid hlf
  have HLL := Lib.hid hll
  have HBL := Lib.hid hbl
  have HLT := Lib.hid hlt
  have Llen := Lib.hid (h.blkLen hk)
  have Hci := Lib.hid hci
  obtain ⟨lo, hlo⟩ : ∃ lo : Nat, (S.cg id).p.lo = lo := ⟨_, rfl⟩
  have hat : (S.cg id).p.at_ = (lo : Int) := by unfold Pt.lo at hlo; omega
  obtain ⟨nd, hndl⟩ : ∃ nd : Nat, (S.cg id).p.data.length = nd := ⟨_, rfl⟩
  have hnd1 : (A.sl id).nd = nd := by rw [← hndl]; exact (h.cvw hl).p.len.symm
  obtain ⟨T, hT⟩ : ∃ T : Nat, T = lo + nd := ⟨_, rfl⟩
  have hT256 : T ≤ 256 := by omega
  have hwrap : IntKind.i64.wrap ((lo : Int) + (nd : Int)) = (T : Int) := by rw [IntKind.wrap_i64]; omega
  have HW := Lib.hid hwrap
  have HAT := Lib.hid hat
  have HND := Lib.hid hnd1
  have HT := Lib.hid hT
  have HLO := Lib.hid hlo
  have HNL := Lib.hid hndl
  have hlo2 : lo < 256 := by omega
  have hnp : 1 ≤ nd := by omega
  have hnT : T - lo = nd := by omega
  have hloT : lo ≤ T := by omega
  clear p1 p2 p3 p4 hat hnd1 hT hlo hndl hpr
  clear h hk hl hlf hll hbl hlt hci hwrap
  obtain ⟨C0, hC0⟩ : ∃ C0, ptr A.ca = C0 := ⟨_, rfl⟩
  have HC := Lib.hid hC0
  unfold ptr
  go_enter Tryz.func49, Tryz.ntmps49
  go_wp2_with (first | refine wpList_load_part rfl _ _ rfl (A.ha id) 2 rfl [.int .i64 (lo : Int), .slice (A.sl id).Ad nd (A.sl id).cd] _ _ Hhb.out (fun j hj => by match j, hj with | 0, _ => (rw [← HAT.out]; rfl) | 1, _ => (rw [← HND.out]; rfl)) _ Tryz.underlying64 rfl Tryz.patSize _ rfl ?_ | refine wpList_alloc_row rfl _ rfl _ Tryz.patZero ?_)
  apply Stop.go; intro w1 Hg1 Hb1
  go_wp2_with (refine wpList_store_arr rfl _ _ _ rfl _ #[.int .i64 (lo : Int), .slice (A.sl id).Ad nd (A.sl id).cd] rfl rfl _ _ Hb1.out Tryz.patSize rfl (by simp [Value.oneCell']) ?_)
  apply Stop.go; intro w2 Ho2 Hb2
  have HB2 := Lib.hid (bonly Hg1.out.1 Ho2.out (Nat.le_refl _))
  have H2 := Lib.hid (H.out.ext HB2.out)
  have n0 : ro w.heap.size = none := H.out.none_ge (Nat.le_refl _)
  go_wp2_with fail
  refine WH.start (S := fun w' : World => Blk w' w.heap.size 64 #[.int .i64 (lo : Int), .slice (A.sl id).Ad nd (A.sl id).cd]) [false, false, false, false, false, false, false, false, false, false, false, false, false] 13 rfl rfl (by kernel_rfl) (Hb2.out.ext (bdrew w2 1)) (fun hSn => ?_)
  obtain ⟨w3, hw3⟩ : ∃ x, w2.drew = x := ⟨_, rfl⟩
  have HB3 := Lib.hid (bt HB2.out (bdrew w2 1))
  rw [show w2.drewN 1 = w3 from hw3] at HB3
  rw [hw3] at hSn ⊢
  have HP2 := Lib.hid hSn
  clear hw3
  refine WH.tk 0 ?_; simp only [setL]
  refine WH.tk 1 ?_; simp only [setL]
  refine WH.tk 2 ?_; simp only [setL]
  refine WH.tk 3 ?_; simp only [setL]
  refine WH.tv 4 rfl (fun w' hSw => exec_load_cell _ _ rfl _ rfl (.int .i64 (lo : Int)) (hSw.cell 0) _ (Tryz.underlying3) rfl) ?_; simp only [setL]
  refine WH.tk 5 ?_; simp only [setL]
  refine WH.tv 6 rfl (fun w' hSw => exec_load_cell _ _ rfl _ rfl (.int .i64 (lo : Int)) (hSw.cell 0) _ (Tryz.underlying3) rfl) ?_; simp only [setL]
  refine WH.tk 7 ?_; simp only [setL]
  refine WH.tv 8 rfl (fun w' hSw => exec_load_cell _ _ rfl _ rfl (.slice (A.sl id).Ad nd (A.sl id).cd) (hSw.cell 1) _ (Tryz.underlying56) rfl) ?_; simp only [setL]
  refine WH.tk 9 ?_; simp only [setL]
  refine WH.tk 10 ?_; simp only [setL]
  refine WH.tv 11 rfl (fun w' hSw => exec_slice_at _ _ _ _ rfl 256 _ Tryz.underlying106 Tryz.intSize (A.ka no) 514 rfl .i64 .i64 (lo : Int) (T : Int) rfl (by rw [← HW.out]; rfl) lo T rfl rfl hloT hT256 hlo2 nd (256 - lo) hnT rfl) ?_; simp only [setL]
  refine WH.tk 12 ?_; simp only [setL]
  refine WH.done (by kernel_rfl) ?_
  have H3 := Lib.hid (H.out.ext HB3.out)
  have hnn := (H3.out.cvw HL.out).len
  have c4 : w3.cell? ⟨A.ha id, 4, none⟩ = some (.slice (A.sl id).An (A.sl id).nn (A.sl id).cn) := (H3.out.hb HL.out).cell 4
  have hmm : (A.sl id).nn + nd ≤ 100000 := by omega
  have hlat : (((S.lat no).drop lo).take nd).length = nd := by rw [List.length_take, List.length_drop, Llen.out.2.2]; omega
  have HLat := Lib.hid hlat
  have HNN := Lib.hid hnn
  have Hbnd : Hid (∀ x ∈ (S.cg id).needs ++ ((S.lat no).drop lo).take nd, -9223372036854775808 ≤ x ∧ x < 9223372036854775808) := Lib.hid (fun x hx => by
    rcases List.mem_append.1 hx with hx | hx
    · exact (Hcv.out).nb x hx
    · exact HLT.out x (List.mem_of_mem_drop (List.mem_of_mem_take hx)))
  clear hnn hlat
  go_wp2_with (first | refine wpList_build_two rfl _ _ _ _ rfl Tryz.underlying137 (.slice none 0 0) 24 Tryz.infoInts (A.sl id).An (A.sl id).nn (A.sl id).cn (some ⟨A.ka no, 514 + lo, none⟩) nd (256 - lo) rfl rfl ?_)
  apply Stop.go; intro w4 Hg4 Hb4
  have H4 := Lib.hid (H3.out.ext Hg4.out.1)
  go_wp2_with fail
  refine (concat_any _ _ (A.sl id).An (A.sl id).nn (A.sl id).cn (S.cg id).needs HNN.out (some ⟨A.ka no, 514 + lo, none⟩) nd (256 - lo) (((S.lat no).drop lo).take nd) HLat.out hmm _ Hb4.out (H4.out.cvw HL.out).read (H4.out.latRC HK.out lo nd)).mono ?_; rintro e w5 ⟨v5, rfl, ho5, hb5⟩
  obtain ⟨A5, q5, rfl, _, _, hr5⟩ := ho5.ints
  have Hr5 := Lib.hid hr5
  have H5 := Lib.hid (H4.out.ext hb5)
  have HB5 := Lib.hid (bt (bt HB3.out Hg4.out.1) hb5)
  have H35 := Lib.hid (bt Hg4.out.1 hb5)
  clear ho5 hb5 hr5
  obtain ⟨n5, hn5⟩ : ∃ n5, ((S.cg id).needs ++ ((S.lat no).drop lo).take nd).length = n5 := ⟨_, rfl⟩
  have hn5b : n5 ≤ 100000 := by rw [← hn5, List.length_append, HLat.out, HNN.out]; exact hmm
  have HN5 := Lib.hid hn5
  rw [hn5]
  clear hn5
  go_wp2_with fail
  refine (still_any H5.out A5 n5 q5 _ HN5.out hn5b Hbnd.out Hr5.out).mono ?_; rintro e w6 ⟨v6, rfl, ho6, hb6⟩
  obtain ⟨L, hL⟩ : ∃ L, stillL S.lf ((S.cg id).needs ++ ((S.lat no).drop lo).take nd) = L := ⟨_, rfl⟩
  have HLD : Hid (S.ahead no (S.cg id) = L) := Lib.hid (by unfold CS.ahead; rw [HLO.out, HNL.out]; exact hL)
  have hsp := stillL_spec S.lf ((S.cg id).needs ++ ((S.lat no).drop lo).take nd)
  have hln := stillL_len S.lf ((S.cg id).needs ++ ((S.lat no).drop lo).take nd)
  rw [hL] at ho6 hsp hln
  rw [HN5.out] at hln
  have HNd : Hid L.Nodup := Lib.hid hsp.1.nodup
  have HLm : Hid (∀ x ∈ L, S.lf x = true ∧ S.live x = true ∧ x ≠ id) := Lib.hid (fun x hx => by
    have h1 := ((hsp.2 x).1 hx).2
    exact ⟨h1, HLL.out x h1, fun e => by rw [e, HLF.out] at h1; cases h1⟩)
  have HLb : Hid (∀ x ∈ L, -9223372036854775808 ≤ x ∧ x < 9223372036854775808) := Lib.hid (fun x hx => Hbnd.out x ((hsp.2 x).1 hx).1)
  obtain ⟨nL, hnL⟩ : ∃ nL, L.length = nL := ⟨_, rfl⟩
  have HnL := Lib.hid hnL
  have hnLb : nL ≤ 100000 := by omega
  obtain ⟨A6, q6, rfl, _, _, hr6⟩ := ho6.ints
  have Hr6 := Lib.hid hr6
  have Hn6 : Hid (∀ ad, A6 = some ad → ro ad.block = none) := Lib.hid (fun ad e => by
    rcases ho6.2 with ⟨e1, _⟩ | ⟨g, cap, cur, e1, hg, _⟩
    · rw [e] at e1; cases e1
    · rw [e] at e1
      injection e1 with e1
      injection e1 with e1
      rw [e1]
      exact H5.out.none_ge hg)
  have H6 := Lib.hid (H5.out.ext hb6)
  have HB6 := Lib.hid (bt HB5.out hb6)
  have HP6 := Lib.hid (HP2.out.ext (bt H35.out hb6))
  have R6 := Lib.hid (show ro w.heap.size = none from n0)
  have T6 := Lib.hid (Tr.of_below ro HB6.out)
  have hgp6 : w.heap.size < w6.heap.size := HP6.out.lt
  rw [hnL]
  clear ho6 hb6 hr6 hsp hln hL hnL H2 H3 H4 H5 HB2 HB3 HB5 H35 HP2 Hr5 HN5 Hg1 Hb1 Ho2 Hb2 Hg4 Hb4 c4
  go_wp2_with fail
  go_loopw [41] (fun i wr => ∃ (k : Nat) (rk : Nat → Option Rl) (hk : Int → Value), k ≤ nL ∧ i = .int .i64 k ∧ HP wr rk { A with hv := hk } { S with beh := addB S.beh id (L.take k) } ∧ Tr ro rk w6 wr) (fun i _ => nL - (intOf i).toNat)
  case atStart => exact ⟨0, ro, A.hv, Nat.zero_le _, rfl, by rw [List.take_zero, addB_nil]; exact H6.out, Tr.refl _ _⟩
  case round =>
    obtain ⟨k, rk, hk, hkn, rfl, hpk, htk⟩ := hrel
    have Hk := Lib.hid hpk
    have Tk := Lib.hid htk
    clear hpk htk
    by_cases hlt : k < nL
    · have d0 : decide ((k : Int) < nL) = true := by simpa using hlt
      have hkl : k < L.length := by rw [HnL.out]; exact hlt
      obtain ⟨ad, rfl, hc⟩ := (Hr6.out.tr Tk.out Hn6.out).int k hkl
      obtain ⟨x1, x2, x3⟩ := HLm.out L[k] (List.getElem_mem hkl)
      obtain ⟨x4, x5⟩ := HLb.out L[k] (List.getElem_mem hkl)
      have HS := Lib.hid (addB_step S.beh id HNd.out hkl)
      have HN := Lib.hid (addB_not (f := S.beh) (x := id) (nodup_take_not HNd.out hkl))
      have hbx := HBL.out L[k] x2
      have Hwx := Lib.hid (wf_int x4 x5)
      generalize L[k] = x at *
      have X2 := Lib.hid x2
      have m1 : (pmap S.lf A.ha x).getD (.pointer none) = .pointer (some ⟨A.ha x, 0, none⟩) := (pmap_in x1).1
      have M1 := Lib.hid m1
      clear x1 x2 x3 x4 x5 m1 hkl
      have hl1 : (addB S.beh id (L.take k) x).length + 1 ≤ maxLen := by rw [HN.out]; unfold maxLen; omega
      have hl2 : ((addB S.beh id (L.take k) x).length + 1) * 8 ≤ 140737488355328 := by rw [HN.out]; omega
      clear hbx
      go_wp2_with fail
      refine WH.start (S := ReadC A S x) [false, false, false, false, false, false, false, false, false, false, false, false, false, false, false, false, false, false, false, false, false] 21 rfl rfl (by kernel_rfl) ⟨(Hk.out.drew 1).cc, (Hk.out.drew 1).mlw, _, (Hk.out.drew 1).hb X2.out⟩ (fun hSn => ?_)
      obtain ⟨wS, hwS⟩ : ∃ x, wr.drew = x := ⟨_, rfl⟩
      have HkS := Lib.hid (Hk.out.drew 1)
      have TkS := Lib.hid (Tk.out.bel (bdrew wr 1))
      rw [show wr.drewN 1 = wS from hwS] at HkS TkS
      rw [hwS] at hSn ⊢
      clear hwS hc
      refine WH.tk 0 ?_; simp only [setL]
      refine WH.tk 1 ?_; simp only [setL]
      refine WH.tk 2 ?_; simp only [setL]
      refine WH.tv 3 rfl (fun w' hSw => exec_load_cell _ _ rfl _ rfl (.map (some A.ml)) (hSw.1.cell 2) _ (Tryz.underlying94) rfl) ?_; simp only [setL]
      refine WH.tk 4 ?_; simp only [setL]
      refine WH.tv 5 rfl (fun w' hSw => exec_lookP _ _ _ rfl _ _ Tryz.underlying3 Tryz.underlying94 Tryz.zeroChg rfl hSw.2.1 x rfl Hwx.out _ M1.out) ?_; simp only [setL]
      refine WH.tk 6 ?_; simp only [setL]
      refine WH.tk 7 ?_; simp only [setL]
      refine WH.tk 8 ?_; simp only [setL]
      refine WH.tv 9 rfl (fun w' hSw => exec_load_cell _ _ rfl _ rfl (.map (some A.ml)) (hSw.1.cell 2) _ (Tryz.underlying94) rfl) ?_; simp only [setL]
      refine WH.tk 10 ?_; simp only [setL]
      refine WH.tv 11 rfl (fun w' hSw => exec_lookP _ _ _ rfl _ _ Tryz.underlying3 Tryz.underlying94 Tryz.zeroChg rfl hSw.2.1 x rfl Hwx.out _ M1.out) ?_; simp only [setL]
      refine WH.tk 12 ?_; simp only [setL]
      refine WH.tk 13 ?_; simp only [setL]
      refine WH.tk 15 ?_; simp only [setL]
      refine WH.readBuildP 14 16 _ _ rfl rfl (hk x) _ _ _ rfl Tryz.underlying99 (.pointer none) 8 Tryz.infoPtr (A.ha id) rfl rfl (by kernel_rfl) (by kernel_rfl) (by kernel_rfl) rfl rfl (fun _ => rfl) rfl (by decide) (fun _ => rfl) hSn (fun w1 h => ⟨hSn.1.ext h.1, hSn.2.1.ext h.1, hSn.2.2.imp fun v hv => hv.ext h.1⟩) (exec_load_cell _ _ rfl _ rfl (hk x) ((HkS.out.hb X2.out).cell 6) _ Tryz.underlying99 rfl) (fun u w1 h => exec_load_cell _ _ rfl _ rfl (hk x) (((HkS.out.hb X2.out).ext h.1).cell 6) _ Tryz.underlying99 rfl) ?_
      apply Stop.go
      intro wB HgB HbB
      have HkB := Lib.hid (HkS.out.ext HgB.out.1)
      have TkB := Lib.hid (TkS.out.bel HgB.out.1)
      have hSn : ReadC A S x wB := ⟨HkB.out.cc, HkB.out.mlw, _, HkB.out.hb X2.out⟩
      simp only [Act.put, List.setIfInBounds_toArray, List.set_cons_zero, List.set_cons_succ]
      refine WH.only 17 _ rfl (by kernel_rfl) rfl (fun K hK => ?_)
      refine ow_append_ptr _ _ _ _ rfl Tryz.underlying99 (.pointer none) 8 Tryz.infoPtr rfl 0 (hk x) A.ha (addB S.beh id (L.take k) x) rfl (HkB.out.bw X2.out) id _ rfl _ HbB.out (Nat.zero_le _) hl1 hl2 ?_
      apply Stop.go; intro v7 w7 Hv7 Hl7
      have hown := (HkB.out.asn (.bh x) X2.out).1
      have Hown := Lib.hid hown
      clear hown
      have ne : ∀ (g : Nat) (r : Rl), rk g = some r → r ≠ .bh x → (hk x).ownBlock ≠ some g := fun g r hg hr e => by
        have := Hown.out g e
        rw [hg] at this
        injection this with this
        exact hr this
      have hSn := (show ReadC A S x w7 from ⟨Hl7.out.blk HkB.out.cc (ne _ _ (HkB.out.asn .ca).1 (by intro e; cases e)), HkB.out.mlw.grown Hl7.out.grown (fun e => ne _ _ (HkB.out.asn .ml).1 (by intro e; cases e) e.symm), _, Hl7.out.blk (HkB.out.hb X2.out) (ne _ _ (HkB.out.asn (.chg x) X2.out).1 (by intro e; cases e))⟩); refine hK _ _ hSn ?_; clear hK; clear K; simp only [setL]
      obtain ⟨A7, q7, rfl, _, _, _⟩ := Hv7.out.read
      refine WH.tk 18 ?_; simp only [setL]
      refine WH.tk 19 ?_; simp only [setL]
      refine WH.only 20 _ rfl (by kernel_rfl) rfl (fun K hK => ?_)
      refine ow_store_cell _ _ _ rfl Tryz.ptrsSize (A.ha x) 6 rfl _ rfl rfl rfl _ _ (Hl7.out.blk (HkB.out.hb X2.out) (ne _ _ (HkB.out.asn (.chg x) X2.out).1 (by intro e; cases e))) (show 6 < 7 by decide) ?_
      apply Stop.go; intro w8 Ho8 Hb8
      have HB8 := Lib.hid (HkB.out.setB X2.out _ _ Hl7.out.grown (Hl7.out.place.imp (fun h => h) Or.inl) Hv7.out Ho8.out Hb8.out)
      have T8 := Lib.hid (((TkB.out.grown Hl7.out.grown (fun g e => by rw [Hown.out g e]; simp)).only Ho8.out (by rw [(HkB.out.asn (.chg x) X2.out).1]; simp)).addO Hown.out (Hl7.out.place.imp (fun h => h) Or.inl) TkB.out.size)
      have hSn := (show ReadC A S x w8 from ⟨hSn.1.only Ho8.out (fun e => by have h1 := (HkB.out.asn .ca).1; have h2 := (HkB.out.asn (.chg x) X2.out).1; simp only at h1 h2; rw [e, h2] at h1; cases h1), hSn.2.1.same (Ho8.out.block _ (fun e => by have h1 := (HkB.out.asn .ml).1; have h2 := (HkB.out.asn (.chg x) X2.out).1; simp only at h1 h2; rw [e, h2] at h1; cases h1)), _, Hb8.out⟩); refine hK _ _ hSn ?_; clear hK; clear K; simp only [setL]
      clear ne
      have E8 : Hid (({ S with beh := updF (addB S.beh id (L.take k)) x (addB S.beh id (L.take k) x ++ [id]) } : CS) = { S with beh := addB S.beh id (L.take (k + 1)) }) := Lib.hid (by rw [HS.out])
      refine WH.done (by kernel_rfl) ?_
      go_wp2_with fail
      go_roundw
      case rel => exact ⟨k + 1, _, _, by omega, by go_num, E8.out ▸ HB8.out, T8.out⟩
      case measure => simp [intOf]; omega
    · have d0 : decide ((k : Int) < nL) = false := by simpa using hlt
      have HE : Hid (L.take k = L) := Lib.hid (List.take_of_length_le (by have := HnL.out; omega))
      have Hz := Lib.hid (HE.out ▸ Hk.out)
      clear Hk
      have c5 := Hz.out.hb HL.out
      have C5 := Lib.hid c5
      clear c5
      go_wp2_with (refine wpList_store_cell rfl _ _ _ rfl Tryz.intSize (A.ha id) 5 rfl _ rfl rfl rfl _ _ C5.out (show 5 < 7 by decide) ?_)
      apply Stop.go; intro w9 Ho9 Hb9
      have H9 := Lib.hid (Hz.out.setW HL.out (nL : Int) Ho9.out Hb9.out)
      have T9 := Lib.hid (Tk.out.only Ho9.out (by rw [(Hz.out.asn (.chg id) HL.out).1]; simp))
      have c9 : w9.cell? ⟨A.ha id, 5, none⟩ = some (.int .i64 (nL : Int)) := Hb9.out.cell 5
      have LF := Lib.hid (H9.out.blkLen HK.out)
      have hfl1 : (S.free no).length + 1 ≤ maxLen := by unfold maxLen; omega
      have hfl2 : ((S.free no).length + 1) * 8 ≤ 140737488355328 := by omega
      clear Ho9 Hb9 C5
      by_cases hz : nL = 0
      · have d1 : ((nL : Int) == 0) = true := by simp [hz]
        have HLe : Hid (L = []) := Lib.hid (List.eq_nil_of_length_eq_zero (by rw [HnL.out]; exact hz))
        have cF : w9.cell? ⟨A.ka no, 513, none⟩ = some (A.fv no) := by rw [(H9.out.kb HK.out).cell 513, List.getElem?_toArray, kc_free LF.out.1 LF.out.2.1]
        go_wp2_with (refine wpList_build_ptr rfl _ _ _ rfl Tryz.underlying99 (.pointer none) 8 Tryz.infoPtr (A.ha id) rfl ?_)
        apply Stop.go; intro w10 Hg10 Hb10
        have H10 := Lib.hid (H9.out.ext Hg10.out.1)
        have T10 := Lib.hid (T9.out.bel Hg10.out.1)
        go_wp2_with (at_builtin; refine wpList_append_ptr rfl _ _ _ _ rfl Tryz.underlying99 (.pointer none) 8 Tryz.infoPtr rfl 0 (A.fv no) A.ha (S.free no) rfl (H10.out.fw HK.out) id _ rfl _ Hb10.out (Nat.zero_le _) hfl1 hfl2 ?_)
        apply Stop.go; intro v11 w11 Hv11 Hl11
        have Hown := Lib.hid (H10.out.asn (.fr no) HK.out).1
        have hneK : (A.fv no).ownBlock ≠ some (A.ka no) := fun e => by
          have h1 := Hown.out _ e
          have h2 := (H10.out.asn (.blk no) HK.out).1
          simp only at h2
          rw [h2] at h1
          cases h1
        have HKB := Lib.hid (Hl11.out.blk (H10.out.kb HK.out) hneK)
        have hsz : 513 < (kc (S.base no) (S.view no) (S.dirty no) (A.fv no) (S.lat no)).toArray.size := by rw [List.size_toArray, kc_len LF.out.1 LF.out.2.1 LF.out.2.2]; omega
        obtain ⟨A11, q11, rfl, _, _, _⟩ := Hv11.out.read
        go_wp2_with (refine wpList_store_cell rfl _ _ _ rfl Tryz.ptrsSize (A.ka no) 513 rfl _ rfl rfl rfl _ _ HKB.out hsz ?_)
        apply Stop.go; intro w12 Ho12 Hb12
        have HF0 := Lib.hid (H10.out.setF HK.out _ _ Hl11.out.grown (Hl11.out.place.imp (fun h => h) Or.inl) Hv11.out Ho12.out (by
          have h := Hb12.out
          (try rw [List.setIfInBounds_toArray] at h)
          rw [kc_setFree LF.out.1 LF.out.2.1] at h
          exact h))
        have TF0 := Lib.hid (((T10.out.grown Hl11.out.grown (fun g e => by rw [Hown.out g e]; simp)).only Ho12.out (by rw [(H10.out.asn (.blk no) HK.out).1]; simp)).addO Hown.out (Hl11.out.place.imp (fun h => h) Or.inl) T10.out.size)
        obtain ⟨F, hF⟩ : ∃ F, F = updF S.free no (S.free no ++ [id]) := ⟨_, rfl⟩
        have HFd : Hid (F = if L = [] then updF S.free no (S.free no ++ [id]) else S.free) := Lib.hid (by rw [if_pos HLe.out]; exact hF)
        obtain ⟨rf, fvf, HF1, TF1⟩ : ∃ rf fvf, Hid (HP w12 rf { A with hv := hk, fv := fvf } { S with beh := addB S.beh id L, waits := updF S.waits id nL, free := F }) ∧ Hid (Tr ro rf w6 w12) := ⟨_, _, by rw [hF]; exact HF0, TF0⟩
        clear HF0 TF0 hF hneK Hown HKB hsz H10 T10 H9 T9 c9 cF Hg10 Hb10 Hv11 Hl11 Ho12 Hb12 hz d1
        go_wp2_with fail
        go_loopw [88] (fun i wr => ∃ k2 : Nat, k2 ≤ nd ∧ i = .int .i64 k2 ∧ HP wr rf { A with hv := hk, fv := fvf } { S with beh := addB S.beh id L, waits := updF S.waits id nL, free := F, lat := updF S.lat no (latS (S.lat no) lo k2 id) } ∧ Tr ro rf w6 wr) (fun i _ => nd - (intOf i).toNat)
        case atStart => exact ⟨0, Nat.zero_le _, rfl, by rw [latS_zero, updF_self]; exact HF1.out, TF1.out⟩
        case round =>
          obtain ⟨k2, hkn2, rfl, hpk, htk⟩ := hrel
          have Hq := Lib.hid hpk
          have Tq := Lib.hid htk
          clear hpk htk
          have Lq := Lib.hid (Hq.out.blkLen HK.out)
          by_cases hlt2 : k2 < nd
          · have d2 : decide ((k2 : Int) < nd) = true := by simpa using hlt2
            have ci : wr.cell? ⟨A.ha id, 0, none⟩ = some (.int .i64 id) := by rw [(Hq.out.hb HL.out).cell 0, show (hcells (S.cg id) (A.sl id) (updF S.waits id nL id) (hk id))[0]? = some (.int .i64 (S.cg id).id) from rfl, Hci.out]
            have hin : 514 + lo + k2 < 770 := by omega
            have HKB := Lib.hid (Hq.out.kb HK.out)
            have hsz : 514 + lo + k2 < (kc (S.base no) (S.view no) (S.dirty no) (fvf no) (updF S.lat no (latS (S.lat no) lo k2 id) no)).toArray.size := by rw [List.size_toArray, kc_len Lq.out.1 Lq.out.2.1 Lq.out.2.2]; exact hin
            go_wp2_with (refine wpList_store_cell rfl _ _ _ rfl Tryz.intSize (A.ka no) (514 + lo + k2) rfl _ rfl rfl rfl _ _ HKB.out hsz ?_)
            apply Stop.go; intro w14 Ho14 Hb14
            have E14 : Hid (Blk w14 (A.ka no) 108 (kc (S.base no) (S.view no) (S.dirty no) (fvf no) (latS (S.lat no) lo (k2 + 1) id)).toArray) := Lib.hid (by
              have h := Hb14.out
              (try rw [List.setIfInBounds_toArray] at h)
              rw [show 514 + lo + k2 = 514 + (lo + k2) by omega, kc_setLat Lq.out.1 Lq.out.2.1, updF_same, latS_set _ _ _ _ (by rw [Llen.out.2.2]; omega)] at h
              exact h)
            have H14 := Lib.hid (Hq.out.setLat HK.out _ (by rw [latS_len]; exact Llen.out.2.2) Ho14.out E14.out)
            have T14 := Lib.hid (Tq.out.only Ho14.out (by rw [(Hq.out.asn (.blk no) HK.out).1]; simp))
            go_wp2_with fail
            go_roundw
            case rel => exact ⟨k2 + 1, by omega, by go_num, by have h := H14.out; simp only [updF_twice] at h; exact h, T14.out⟩
            case measure => simp [intOf]; omega
          · have d2 : decide ((k2 : Int) < nd) = false := by simpa using hlt2
            obtain rfl : k2 = nd := by omega
            have Hwi := Lib.hid (wf_int (z := id) (by have := Hcv.out.lo0; rw [Hci.out] at this; exact this) (by have := Hcv.out.hi0; rw [Hci.out] at this; exact this))
            have nlm : A.nl < maxLen := by unfold maxLen; omega
            go_wp2_with fail
            refine WH.start (S := fun w' : World => Blk w' A.ca 98 (ccells A S) ∧ Blk w' (A.ha id) 101 (hcells (S.cg id) (A.sl id) (updF S.waits id nL id) (hk id))) [false, false, false, false, false, false, false, false, false, false, false] 11 rfl rfl (by kernel_rfl) ⟨(Hq.out.drew 1).cc, (Hq.out.drew 1).hb HL.out⟩ (fun hSn => ?_)
            obtain ⟨wS, hwS⟩ : ∃ x, wr.drew = x := ⟨_, rfl⟩
            have HqS := Lib.hid (Hq.out.drew 1)
            have TqS := Lib.hid (Tq.out.bel (bdrew wr 1))
            rw [show wr.drewN 1 = wS from hwS] at HqS TqS
            rw [hwS] at hSn ⊢
            clear hwS
            refine WH.tk 0 ?_; simp only [setL]
            refine WH.tk 1 ?_; simp only [setL]
            refine WH.tk 2 ?_; simp only [setL]
            refine WH.tv 3 rfl (fun w' hSw => exec_load_cell _ _ rfl _ rfl (.map (some A.ml)) (hSw.1.cell 2) _ (Tryz.underlying94) rfl) ?_; simp only [setL]
            refine WH.tk 4 ?_; simp only [setL]
            refine WH.tk 5 ?_; simp only [setL]
            refine WH.tk 6 ?_; simp only [setL]
            refine WH.tk 7 ?_; simp only [setL]
            refine WH.tv 8 rfl (fun w' hSw => exec_load_cell _ _ rfl _ rfl (.int .i64 id) (by have h := hSw.2.cell 0; rw [show (hcells (S.cg id) (A.sl id) (updF S.waits id nL id) (hk id))[0]? = some (.int .i64 (S.cg id).id) from rfl, Hci.out] at h; exact h) _ Tryz.underlying3 rfl) ?_; simp only [setL]
            refine WH.tk 9 ?_; simp only [setL]
            refine WH.only 10 _ rfl (by kernel_rfl) rfl (fun K hK => ?_)
            refine ow_mapZ_store _ _ _ _ rfl _ _ Tryz.underlying3 Tryz.underlying94 rfl HqS.out.mlw nlm id rfl Hwi.out _ rfl ?_
            apply Stop.go; intro w15 Hm15 Hg15
            have H15 := Lib.hid (HqS.out.setL (updF S.lf id true) (A.nl + 1) (fun g hg hne => Hg15.out.block g hg (fun e => hne (by injection e))) Hg15.out.size (by
              have e := pmap_upd S.lf A.ha id (A.ha id)
              rw [updF_self] at e
              show MapZ _ _ _ _ _ _ (pmap (updF S.lf id true) A.ha)
              rw [← e]
              exact Hm15.out))
            have T15 := Lib.hid (TqS.out.grown Hg15.out (fun g e => by injection e with e; rw [← e, (HqS.out.asn .ml).1]; simp))
            have hSn := (show Blk w15 A.ca 98 (ccells A S) ∧ Blk w15 (A.ha id) 101 (hcells (S.cg id) (A.sl id) (updF S.waits id nL id) (hk id)) from ⟨H15.out.cc, H15.out.hb HL.out⟩); refine hK _ _ hSn ?_; clear hK; clear K; simp only [setL]
            refine WH.done (by kernel_rfl) ?_
            have HKB := Lib.hid (H15.out.kb HK.out)
            have c17 : w15.cell? ⟨A.ka no, 512, none⟩ = some (.int .i64 (S.dirty no)) := by rw [HKB.out.cell 512, List.getElem?_toArray, kc_dirty Lq.out.1 Lq.out.2.1]
            have hdw : IntKind.i64.wrap (S.dirty no + 1) = S.dirty no + 1 := by rw [IntKind.wrap_i64]; omega
            have hsz : 512 < (kc (S.base no) (S.view no) (S.dirty no) (fvf no) (updF S.lat no (latS (S.lat no) lo k2 id) no)).toArray.size := by rw [List.size_toArray, kc_len Lq.out.1 Lq.out.2.1 Lq.out.2.2]; omega
            go_wp2_with (refine wpList_store_cell rfl _ _ _ rfl Tryz.intSize (A.ka no) 512 rfl _ rfl rfl rfl _ _ HKB.out hsz ?_)
            apply Stop.go; intro w16 Ho16 Hb16
            have E16 : Hid (Blk w16 (A.ka no) 108 (kc (S.base no) (S.view no) (S.dirty no + 1) (fvf no) (updF S.lat no (latS (S.lat no) lo k2 id) no)).toArray) := Lib.hid (by
              have h := Hb16.out
              (try rw [List.setIfInBounds_toArray] at h)
              first | rw [kc_setDirty Lq.out.1 Lq.out.2.1] at h; exact h | (rw [hdw, kc_setDirty Lq.out.1 Lq.out.2.1] at h; exact h))
            have H16 := Lib.hid (H15.out.setDirty HK.out (S.dirty no + 1) Ho16.out E16.out)
            have T16 := Lib.hid (T15.out.only Ho16.out (by rw [(H15.out.asn (.blk no) HK.out).1]; simp))
            clear hsz c17
            have hgp16 : Blk w16 w.heap.size 64 #[.int .i64 (lo : Int), .slice (A.sl id).Ad k2 (A.sl id).cd] := HP6.out.tr T16.out R6.out
            have Hgp := Lib.hid hgp16
            clear hgp16
            go_wp2_with fail
            refine WH.start (S := fun w' : World => Blk w' w.heap.size 64 #[.int .i64 (lo : Int), .slice (A.sl id).Ad k2 (A.sl id).cd] ∧ ∃ v : List UInt8, Blk w' (A.ka no) 108 (kc (S.base no) v (updF S.dirty no (S.dirty no + 1) no) (fvf no) (updF S.lat no (latS (S.lat no) lo k2 id) no)).toArray) [false, false, false, false, false, false, false, false, false, false] 10 rfl rfl (by kernel_rfl) ⟨Hgp.out.ext (bdrew w16 1), S.view no, (H16.out.drew 1).kb HK.out⟩ (fun hSn => ?_)
            obtain ⟨w17, hw17⟩ : ∃ x, w16.drew = x := ⟨_, rfl⟩
            have H17 := Lib.hid (H16.out.drew 1)
            have T17 := Lib.hid (T16.out.bel (bdrew w16 1))
            rw [show w16.drewN 1 = w17 from hw17] at H17 T17
            rw [hw17] at hSn ⊢
            clear hw17
            have L17 := Lib.hid (H17.out.blkLen HK.out)
            refine WH.tk 0 ?_; simp only [setL]
            refine WH.tk 1 ?_; simp only [setL]
            refine WH.tk 2 ?_; simp only [setL]
            refine WH.tk 3 ?_; simp only [setL]
            refine WH.tv 5 rfl (fun w' hSw => exec_load_blk _ _ rfl _ rfl _ _ (hSw.1) _ (Tryz.underlying64) rfl (Tryz.patSize)) ?_; simp only [setL]
            refine WH.only 4 _ rfl (by kernel_rfl) rfl (fun K hK => ?_)
            unfold Oper.wp
            rw [exec_load_part _ _ rfl (A.ka no) 256 rfl (bvl (S.view no)) _ _ (H17.out.kb HK.out) (fun j hj => kc_view L17.out.1 L17.out.2.1 j (by rw [bvl_len, Lq.out.2.1] at hj; exact hj)) _ Tryz.underlying50 rfl (by rw [bvl_len, Lq.out.2.1]; exact Tryz.blockSize)]
            have hSn := hSn; refine hK _ _ hSn ?_; clear hK; clear K; simp only [setL]
            have CP := play_any (S.view no) Lq.out.2.1 (S.cg id).p (A.sl id).Ad (A.sl id).nd (A.sl id).cd w17 (H17.out.cvw HL.out).p
            rw [HAT.out, HND.out] at CP
            refine WH.only 6 _ rfl (by kernel_rfl) rfl (fun K hK => ?_); go_simp; refine (CP).mono ?_; rintro e w18 ⟨rfl, hb18⟩; go_simp
            have H18 := Lib.hid (H17.out.ext hb18)
            have T18 := Lib.hid (T17.out.bel hb18)
            have hgp18 := hSn.1.ext hb18
            have hSn := (show Blk w18 w.heap.size 64 #[.int .i64 (lo : Int), .slice (A.sl id).Ad k2 (A.sl id).cd] ∧ ∃ v : List UInt8, Blk w18 (A.ka no) 108 (kc (S.base no) v (updF S.dirty no (S.dirty no + 1) no) (fvf no) (updF S.lat no (latS (S.lat no) lo k2 id) no)).toArray from ⟨hgp18, S.view no, H18.out.kb HK.out⟩); refine hK _ _ hSn ?_; clear hK; clear K; simp only [setL]
            refine WH.tk 7 ?_; simp only [setL]
            refine WH.tk 8 ?_; simp only [setL]
            have hly : (layP (S.view no) (S.cg id).p).length = 256 := layP_len _ Lq.out.2.1
            refine WH.only 9 _ rfl (by kernel_rfl) rfl (fun K hK => ?_)
            refine ow_store_part _ _ _ rfl (bvl (layP (S.view no) (S.cg id).p)) (by rw [bvl_len, hly]; exact Tryz.blockSize) (A.ka no) 256 rfl rfl _ _ (H18.out.kb HK.out) (bvl_one _) (by rw [bvl_len, hly, kc_len L17.out.1 L17.out.2.1 L17.out.2.2]; omega) _ (kc_toView L17.out.1 L17.out.2.1 _ hly) ?_
            apply Stop.go; intro w19 Ho19 Hb19
            have H19 := Lib.hid (H18.out.setView HK.out _ hly Ho19.out Hb19.out)
            have T19 := Lib.hid (T18.out.only Ho19.out (by rw [(H18.out.asn (.blk no) HK.out).1]; simp))
            have hSn := (show Blk w19 w.heap.size 64 #[.int .i64 (lo : Int), .slice (A.sl id).Ad k2 (A.sl id).cd] ∧ ∃ v : List UInt8, Blk w19 (A.ka no) 108 (kc (S.base no) v (updF S.dirty no (S.dirty no + 1) no) (fvf no) (updF S.lat no (latS (S.lat no) lo k2 id) no)).toArray from ⟨(HP6.out.tr T19.out R6.out), _, Hb19.out⟩); refine hK _ _ hSn ?_; clear hK; clear K; simp only [setL]
            refine WH.done (by kernel_rfl) ?_
            go_wp2_with fail
            go_end0
            refine ⟨rfl, rf, ⟨hk, fvf, ?_⟩, T6.out.trans T19.out⟩
            have h := H19.out
            rw [HFd.out] at h
            unfold CS.add
            rw [HLD.out, HLO.out, HNL.out, HnL.out]
            exact h
      · have d1 : ((nL : Int) == 0) = false := by simpa using hz
        obtain ⟨F, hF⟩ : ∃ F, F = S.free := ⟨_, rfl⟩
        have HFd : Hid (F = if L = [] then updF S.free no (S.free no ++ [id]) else S.free) := Lib.hid (by rw [if_neg (fun e => hz (by rw [← HnL.out, e]; rfl))]; exact hF)
        obtain ⟨rf, fvf, HF1, TF1⟩ : ∃ rf fvf, Hid (HP w9 rf { A with hv := hk, fv := fvf } { S with beh := addB S.beh id L, waits := updF S.waits id nL, free := F }) ∧ Hid (Tr ro rf w6 w9) := ⟨rk, A.fv, by rw [hF]; exact H9, T9⟩
        clear hF H9 T9 hz
        go_wp2_with fail
        go_loopw [88] (fun i wr => ∃ k2 : Nat, k2 ≤ nd ∧ i = .int .i64 k2 ∧ HP wr rf { A with hv := hk, fv := fvf } { S with beh := addB S.beh id L, waits := updF S.waits id nL, free := F, lat := updF S.lat no (latS (S.lat no) lo k2 id) } ∧ Tr ro rf w6 wr) (fun i _ => nd - (intOf i).toNat)
        case atStart => exact ⟨0, Nat.zero_le _, rfl, by rw [latS_zero, updF_self]; exact HF1.out, TF1.out⟩
        case round =>
          obtain ⟨k2, hkn2, rfl, hpk, htk⟩ := hrel
          have Hq := Lib.hid hpk
          have Tq := Lib.hid htk
          clear hpk htk
          have Lq := Lib.hid (Hq.out.blkLen HK.out)
          by_cases hlt2 : k2 < nd
          · have d2 : decide ((k2 : Int) < nd) = true := by simpa using hlt2
            have ci : wr.cell? ⟨A.ha id, 0, none⟩ = some (.int .i64 id) := by rw [(Hq.out.hb HL.out).cell 0, show (hcells (S.cg id) (A.sl id) (updF S.waits id nL id) (hk id))[0]? = some (.int .i64 (S.cg id).id) from rfl, Hci.out]
            have hin : 514 + lo + k2 < 770 := by omega
            have HKB := Lib.hid (Hq.out.kb HK.out)
            have hsz : 514 + lo + k2 < (kc (S.base no) (S.view no) (S.dirty no) (fvf no) (updF S.lat no (latS (S.lat no) lo k2 id) no)).toArray.size := by rw [List.size_toArray, kc_len Lq.out.1 Lq.out.2.1 Lq.out.2.2]; exact hin
            go_wp2_with (refine wpList_store_cell rfl _ _ _ rfl Tryz.intSize (A.ka no) (514 + lo + k2) rfl _ rfl rfl rfl _ _ HKB.out hsz ?_)
            apply Stop.go; intro w14 Ho14 Hb14
            have E14 : Hid (Blk w14 (A.ka no) 108 (kc (S.base no) (S.view no) (S.dirty no) (fvf no) (latS (S.lat no) lo (k2 + 1) id)).toArray) := Lib.hid (by
              have h := Hb14.out
              (try rw [List.setIfInBounds_toArray] at h)
              rw [show 514 + lo + k2 = 514 + (lo + k2) by omega, kc_setLat Lq.out.1 Lq.out.2.1, updF_same, latS_set _ _ _ _ (by rw [Llen.out.2.2]; omega)] at h
              exact h)
            have H14 := Lib.hid (Hq.out.setLat HK.out _ (by rw [latS_len]; exact Llen.out.2.2) Ho14.out E14.out)
            have T14 := Lib.hid (Tq.out.only Ho14.out (by rw [(Hq.out.asn (.blk no) HK.out).1]; simp))
            go_wp2_with fail
            go_roundw
            case rel => exact ⟨k2 + 1, by omega, by go_num, by have h := H14.out; simp only [updF_twice] at h; exact h, T14.out⟩
            case measure => simp [intOf]; omega
          · have d2 : decide ((k2 : Int) < nd) = false := by simpa using hlt2
            obtain rfl : k2 = nd := by omega
            have Hwi := Lib.hid (wf_int (z := id) (by have := Hcv.out.lo0; rw [Hci.out] at this; exact this) (by have := Hcv.out.hi0; rw [Hci.out] at this; exact this))
            have nlm : A.nl < maxLen := by unfold maxLen; omega
            go_wp2_with fail
            refine WH.start (S := fun w' : World => Blk w' A.ca 98 (ccells A S) ∧ Blk w' (A.ha id) 101 (hcells (S.cg id) (A.sl id) (updF S.waits id nL id) (hk id))) [false, false, false, false, false, false, false, false, false, false, false] 11 rfl rfl (by kernel_rfl) ⟨(Hq.out.drew 1).cc, (Hq.out.drew 1).hb HL.out⟩ (fun hSn => ?_)
            obtain ⟨wS, hwS⟩ : ∃ x, wr.drew = x := ⟨_, rfl⟩
            have HqS := Lib.hid (Hq.out.drew 1)
            have TqS := Lib.hid (Tq.out.bel (bdrew wr 1))
            rw [show wr.drewN 1 = wS from hwS] at HqS TqS
            rw [hwS] at hSn ⊢
            clear hwS
            refine WH.tk 0 ?_; simp only [setL]
            refine WH.tk 1 ?_; simp only [setL]
            refine WH.tk 2 ?_; simp only [setL]
            refine WH.tv 3 rfl (fun w' hSw => exec_load_cell _ _ rfl _ rfl (.map (some A.ml)) (hSw.1.cell 2) _ (Tryz.underlying94) rfl) ?_; simp only [setL]
            refine WH.tk 4 ?_; simp only [setL]
            refine WH.tk 5 ?_; simp only [setL]
            refine WH.tk 6 ?_; simp only [setL]
            refine WH.tk 7 ?_; simp only [setL]
            refine WH.tv 8 rfl (fun w' hSw => exec_load_cell _ _ rfl _ rfl (.int .i64 id) (by have h := hSw.2.cell 0; rw [show (hcells (S.cg id) (A.sl id) (updF S.waits id nL id) (hk id))[0]? = some (.int .i64 (S.cg id).id) from rfl, Hci.out] at h; exact h) _ Tryz.underlying3 rfl) ?_; simp only [setL]
            refine WH.tk 9 ?_; simp only [setL]
            refine WH.only 10 _ rfl (by kernel_rfl) rfl (fun K hK => ?_)
            refine ow_mapZ_store _ _ _ _ rfl _ _ Tryz.underlying3 Tryz.underlying94 rfl HqS.out.mlw nlm id rfl Hwi.out _ rfl ?_
            apply Stop.go; intro w15 Hm15 Hg15
            have H15 := Lib.hid (HqS.out.setL (updF S.lf id true) (A.nl + 1) (fun g hg hne => Hg15.out.block g hg (fun e => hne (by injection e))) Hg15.out.size (by
              have e := pmap_upd S.lf A.ha id (A.ha id)
              rw [updF_self] at e
              show MapZ _ _ _ _ _ _ (pmap (updF S.lf id true) A.ha)
              rw [← e]
              exact Hm15.out))
            have T15 := Lib.hid (TqS.out.grown Hg15.out (fun g e => by injection e with e; rw [← e, (HqS.out.asn .ml).1]; simp))
            have hSn := (show Blk w15 A.ca 98 (ccells A S) ∧ Blk w15 (A.ha id) 101 (hcells (S.cg id) (A.sl id) (updF S.waits id nL id) (hk id)) from ⟨H15.out.cc, H15.out.hb HL.out⟩); refine hK _ _ hSn ?_; clear hK; clear K; simp only [setL]
            refine WH.done (by kernel_rfl) ?_
            have HKB := Lib.hid (H15.out.kb HK.out)
            have c17 : w15.cell? ⟨A.ka no, 512, none⟩ = some (.int .i64 (S.dirty no)) := by rw [HKB.out.cell 512, List.getElem?_toArray, kc_dirty Lq.out.1 Lq.out.2.1]
            have hdw : IntKind.i64.wrap (S.dirty no + 1) = S.dirty no + 1 := by rw [IntKind.wrap_i64]; omega
            have hsz : 512 < (kc (S.base no) (S.view no) (S.dirty no) (fvf no) (updF S.lat no (latS (S.lat no) lo k2 id) no)).toArray.size := by rw [List.size_toArray, kc_len Lq.out.1 Lq.out.2.1 Lq.out.2.2]; omega
            go_wp2_with (refine wpList_store_cell rfl _ _ _ rfl Tryz.intSize (A.ka no) 512 rfl _ rfl rfl rfl _ _ HKB.out hsz ?_)
            apply Stop.go; intro w16 Ho16 Hb16
            have E16 : Hid (Blk w16 (A.ka no) 108 (kc (S.base no) (S.view no) (S.dirty no + 1) (fvf no) (updF S.lat no (latS (S.lat no) lo k2 id) no)).toArray) := Lib.hid (by
              have h := Hb16.out
              (try rw [List.setIfInBounds_toArray] at h)
              first | rw [kc_setDirty Lq.out.1 Lq.out.2.1] at h; exact h | (rw [hdw, kc_setDirty Lq.out.1 Lq.out.2.1] at h; exact h))
            have H16 := Lib.hid (H15.out.setDirty HK.out (S.dirty no + 1) Ho16.out E16.out)
            have T16 := Lib.hid (T15.out.only Ho16.out (by rw [(H15.out.asn (.blk no) HK.out).1]; simp))
            clear hsz c17
            have hgp16 : Blk w16 w.heap.size 64 #[.int .i64 (lo : Int), .slice (A.sl id).Ad k2 (A.sl id).cd] := HP6.out.tr T16.out R6.out
            have Hgp := Lib.hid hgp16
            clear hgp16
            go_wp2_with fail
            refine WH.start (S := fun w' : World => Blk w' w.heap.size 64 #[.int .i64 (lo : Int), .slice (A.sl id).Ad k2 (A.sl id).cd] ∧ ∃ v : List UInt8, Blk w' (A.ka no) 108 (kc (S.base no) v (updF S.dirty no (S.dirty no + 1) no) (fvf no) (updF S.lat no (latS (S.lat no) lo k2 id) no)).toArray) [false, false, false, false, false, false, false, false, false, false] 10 rfl rfl (by kernel_rfl) ⟨Hgp.out.ext (bdrew w16 1), S.view no, (H16.out.drew 1).kb HK.out⟩ (fun hSn => ?_)
            obtain ⟨w17, hw17⟩ : ∃ x, w16.drew = x := ⟨_, rfl⟩
            have H17 := Lib.hid (H16.out.drew 1)
            have T17 := Lib.hid (T16.out.bel (bdrew w16 1))
            rw [show w16.drewN 1 = w17 from hw17] at H17 T17
            rw [hw17] at hSn ⊢
            clear hw17
            have L17 := Lib.hid (H17.out.blkLen HK.out)
            refine WH.tk 0 ?_; simp only [setL]
            refine WH.tk 1 ?_; simp only [setL]
            refine WH.tk 2 ?_; simp only [setL]
            refine WH.tk 3 ?_; simp only [setL]
            refine WH.tv 5 rfl (fun w' hSw => exec_load_blk _ _ rfl _ rfl _ _ (hSw.1) _ (Tryz.underlying64) rfl (Tryz.patSize)) ?_; simp only [setL]
            refine WH.only 4 _ rfl (by kernel_rfl) rfl (fun K hK => ?_)
            unfold Oper.wp
            rw [exec_load_part _ _ rfl (A.ka no) 256 rfl (bvl (S.view no)) _ _ (H17.out.kb HK.out) (fun j hj => kc_view L17.out.1 L17.out.2.1 j (by rw [bvl_len, Lq.out.2.1] at hj; exact hj)) _ Tryz.underlying50 rfl (by rw [bvl_len, Lq.out.2.1]; exact Tryz.blockSize)]
            have hSn := hSn; refine hK _ _ hSn ?_; clear hK; clear K; simp only [setL]
            have CP := play_any (S.view no) Lq.out.2.1 (S.cg id).p (A.sl id).Ad (A.sl id).nd (A.sl id).cd w17 (H17.out.cvw HL.out).p
            rw [HAT.out, HND.out] at CP
            refine WH.only 6 _ rfl (by kernel_rfl) rfl (fun K hK => ?_); go_simp; refine (CP).mono ?_; rintro e w18 ⟨rfl, hb18⟩; go_simp
            have H18 := Lib.hid (H17.out.ext hb18)
            have T18 := Lib.hid (T17.out.bel hb18)
            have hgp18 := hSn.1.ext hb18
            have hSn := (show Blk w18 w.heap.size 64 #[.int .i64 (lo : Int), .slice (A.sl id).Ad k2 (A.sl id).cd] ∧ ∃ v : List UInt8, Blk w18 (A.ka no) 108 (kc (S.base no) v (updF S.dirty no (S.dirty no + 1) no) (fvf no) (updF S.lat no (latS (S.lat no) lo k2 id) no)).toArray from ⟨hgp18, S.view no, H18.out.kb HK.out⟩); refine hK _ _ hSn ?_; clear hK; clear K; simp only [setL]
            refine WH.tk 7 ?_; simp only [setL]
            refine WH.tk 8 ?_; simp only [setL]
            have hly : (layP (S.view no) (S.cg id).p).length = 256 := layP_len _ Lq.out.2.1
            refine WH.only 9 _ rfl (by kernel_rfl) rfl (fun K hK => ?_)
            refine ow_store_part _ _ _ rfl (bvl (layP (S.view no) (S.cg id).p)) (by rw [bvl_len, hly]; exact Tryz.blockSize) (A.ka no) 256 rfl rfl _ _ (H18.out.kb HK.out) (bvl_one _) (by rw [bvl_len, hly, kc_len L17.out.1 L17.out.2.1 L17.out.2.2]; omega) _ (kc_toView L17.out.1 L17.out.2.1 _ hly) ?_
            apply Stop.go; intro w19 Ho19 Hb19
            have H19 := Lib.hid (H18.out.setView HK.out _ hly Ho19.out Hb19.out)
            have T19 := Lib.hid (T18.out.only Ho19.out (by rw [(H18.out.asn (.blk no) HK.out).1]; simp))
            have hSn := (show Blk w19 w.heap.size 64 #[.int .i64 (lo : Int), .slice (A.sl id).Ad k2 (A.sl id).cd] ∧ ∃ v : List UInt8, Blk w19 (A.ka no) 108 (kc (S.base no) v (updF S.dirty no (S.dirty no + 1) no) (fvf no) (updF S.lat no (latS (S.lat no) lo k2 id) no)).toArray from ⟨(HP6.out.tr T19.out R6.out), _, Hb19.out⟩); refine hK _ _ hSn ?_; clear hK; clear K; simp only [setL]
            refine WH.done (by kernel_rfl) ?_
            go_wp2_with fail
            go_end0
            refine ⟨rfl, rf, ⟨hk, fvf, ?_⟩, T6.out.trans T19.out⟩
            have h := H19.out
            rw [HFd.out] at h
            unfold CS.add
            rw [HLD.out, HLO.out, HNL.out, HnL.out]
            exact h

end Go.Proofs.YtpmbpklbiocclaaGreat
