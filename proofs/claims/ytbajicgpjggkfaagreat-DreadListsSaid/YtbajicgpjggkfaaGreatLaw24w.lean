/-
  Layer 24: small, works.
-/
import Derived.Test.YtbajicgpjggkfaaGreatLaw24e
import Derived.Test.YtbajicgpjggkfaaGreatDrd4
import Derived.Test.YtbajicgpjggkfaaGreatVw0
import Derived.Test.YtbajicgpjggkfaaGreatGrF
namespace Go.Proofs.YtbajicgpjggkfaaGreat
open Go.RowKit
set_option maxRecDepth 10000

section
variable {P : Program} {ops : Array Oper} {rest : List Oper} {o : Oper} {a : Act} {w : World} {Q : Exit → Act → World → Prop}
theorem wpList_build_one24 (hgd : Region.wanted o (yielded ops a.tmps) = true) (t : TypeId) (i : Nat) (x : Operand) (ho : o.op = .build t #[(i, x)]) (vx : Value) (hx : a.eval x = vx) (cs : Array Value) (hb : P.built t [(i, vx)] = some cs)
    (h : wpList P ops Q rest (a.put o.dst (.agg cs)) w) : wpList P ops Q (o :: rest) a w := by
  refine wpList_wanted hgd fun K hK => ?_
  have hr : (Instr.build t #[(i, vx)]).run P w = .ok (.agg cs) w := run_build w t #[(i, vx)] cs hb
  unfold Oper.wp execOp
  simp only [ho, Sem.run_bind, List.map_toArray, List.map_cons, List.map_nil, hx, hr, Result.andThen_ok]
  exact hK _ _ h
theorem wpList_build_three24 (hgd : Region.wanted o (yielded ops a.tmps) = true) (t : TypeId) (i j k : Nat) (x y z : Operand) (ho : o.op = .build t #[(i, x), (j, y), (k, z)]) (vx vy vz : Value) (hx : a.eval x = vx) (hy : a.eval y = vy) (hz : a.eval z = vz) (cs : Array Value) (hb : P.built t [(i, vx), (j, vy), (k, vz)] = some cs)
    (h : wpList P ops Q rest (a.put o.dst (.agg cs)) w) : wpList P ops Q (o :: rest) a w := by
  refine wpList_wanted hgd fun K hK => ?_
  have hr : (Instr.build t #[(i, vx), (j, vy), (k, vz)]).run P w = .ok (.agg cs) w := run_build w t #[(i, vx), (j, vy), (k, vz)] cs hb
  unfold Oper.wp execOp
  simp only [ho, Sem.run_bind, List.map_toArray, List.map_cons, List.map_nil, hx, hy, hz, hr, Result.andThen_ok]
  exact hK _ _ h
/-- A slice of two structs. -/
theorem run_build_row2 (P : Program) (w : World) (t e : TypeId) (ht : P.underlying t = some (.slice e)) (N by_ : Nat) (z : Value) (hi : (P.info? e).map (fun i => (i.zero, i.size, i.bytes)) = some (some z, N, by_)) (h0 : 0 < N) (hN : N ≤ 16384) (cs ds : Array Value) (hcs : cs.size = N) (hds : ds.size = N) :
    (Instr.buildSlice t 2 #[(0, .agg cs), (1, .agg ds)]).run P w = .ok (.slice (some ⟨w.heap.size, 0, none⟩) 2 2) (w.alloc (.cells (cs ++ ds) e)) := by
  obtain ⟨i, h1, h2, h3, h4⟩ := info_parts hi
  have hsz : ((Array.range (2 * N)).map (z.cells[· % z.cells.size]!)).size = 2 * N := by rw [Array.size_map, Array.size_range]
  have hf : Instr.fill (fun j => some (j * N, N)) ((Array.range (2 * N)).map (z.cells[· % z.cells.size]!)) [(0, .agg cs), (1, .agg ds)] = some (cs ++ ds) := by
    generalize (Array.range (2 * N)).map (z.cells[· % z.cells.size]!) = c0 at hsz
    have hw := Go.Great.fill_whole (s := N) h0 [.agg cs, .agg ds] c0 (fun v hv => by
      simp at hv
      rcases hv with rfl | rfl
      · exact hcs
      · exact hds) (by rw [hsz]; rfl)
    have e1 : (([.agg cs, .agg ds] : List Value).flatMap fun v => v.cells.toList).toArray = cs ++ ds := by
      rw [List.flatMap_cons, List.flatMap_cons, List.flatMap_nil, List.append_nil]
      show (cs.toList ++ ds.toList).toArray = cs ++ ds
      rw [← Array.toList_append, Array.toArray_toList]
    rw [e1] at hw
    exact hw
  exact run_buildSlice (P := P) w t e 2 #[(0, .agg cs), (1, .agg ds)] (cs ++ ds) i z ht h1 h2 (by rw [h3]; omega) (by rw [h3]; omega) (by rw [h3]; exact hf)
theorem wpList_build_row2 (hgd : Region.wanted o (yielded ops a.tmps) = true) (t e : TypeId) (x y : Operand) (ho : o.op = .buildSlice t 2 #[(0, x), (1, y)]) (ht : P.underlying t = some (.slice e)) (N by_ : Nat) (z : Value) (hi : (P.info? e).map (fun i => (i.zero, i.size, i.bytes)) = some (some z, N, by_)) (h0 : 0 < N) (hN : N ≤ 16384)
    (cs ds : Array Value) (hx : a.eval x = .agg cs) (hy : a.eval y = .agg ds) (hcs : cs.size = N) (hds : ds.size = N) (h : Stop (∀ w', Hid (Grew w w') → Hid (Blk w' w.heap.size e (cs ++ ds)) → wpList P ops Q rest (a.put o.dst (.slice (some ⟨w.heap.size, 0, none⟩) 2 2)) w')) : wpList P ops Q (o :: rest) a w := by
  refine wpList_wanted hgd fun K hK => ?_
  unfold Oper.wp execOp
  simp only [ho, hx, hy, Sem.run_bind, List.map_toArray, List.map_cons, List.map_nil, run_build_row2 P w t e ht N by_ z hi h0 hN cs ds hcs hds, Result.andThen_ok]
  exact hK _ _ (h _ (Grew.alloc w _) (Blk.new w e _))
end
theorem ow_exec24 {P : Program} {o : Oper} {a : Act} {w : World} {K : Act → World → Prop} {Q : Exit → Act → World → Prop} {v : Value} (h : (execOp a.eval o).run P w = .ok (.value v) w) (hk : K (a.put o.dst v) w) : o.wp P a w K Q := by
  unfold Oper.wp
  simp only [h]
  exact hk
theorem RN.of_blk {w : World} {g N : Nat} {e : TypeId} {cs : Array Value} {L : List (List Value)} (hL : ∀ r ∈ L, r.length = N) (hg : Blk w g e cs) (hc : cs.toList = L.flatten) : RN w (some ⟨g, 0, none⟩) N L := fun k hk i hi => by
  have h1 := flatN_get hL hk hi
  have hr : i < L[k].length := by rw [hL _ (List.getElem_mem hk)]; exact hi
  refine ⟨_, L[k][i], rfl, List.getElem?_eq_getElem hr, ?_⟩
  rw [addr_add0, hg.cell, ← Array.getElem?_toList, hc, h1, List.getElem?_eq_getElem hr]
theorem run_eql_pl_same (x : List Int) (hx : x.length = 3) (w : World) : (binOp .eql 42 (.agg (icells x)) (.agg (icells x))).run Tryz.prog w = .ok (.bool true) w := by
  obtain ⟨a, b, c, rfl⟩ := list_three hx
  show (binOp .eql 42 (.agg #[.int .i64 a, .int .i64 b, .int .i64 c]) (.agg #[.int .i64 a, .int .i64 b, .int .i64 c])).run Tryz.prog w = _
  go_simp

theorem Tryz.inoBuilt24 : Tryz.prog.built 39 [(0, .int .i64 2), (1, .int .i64 1), (3, .int .i64 1)] = some (icells [2, 1, 0, 1, 0, 0, 0, 0, 0, 0, 0]) := by kernel_rfl
theorem Tryz.ixBuilt24 : Tryz.prog.built 87 [(0, .int .i64 1)] = some (icells (1 :: zeroT)) := by kernel_rfl
theorem Tryz.intSize24 : (Tryz.prog.info? 3).map (·.size) = some 1 := by kernel_rfl
set_option maxHeartbeats 3200000 in
theorem small24_any (w : World) : Calls Tryz.prog 25 #[] w (RetK w exL24) := by
  have HzL : Hid ((zeros 256).length = 256) := Lib.hid (zeros_len _)
  obtain ⟨L0, HL0⟩ : ∃ L, Hid (List.replicate 16 (zeros 256) = L) := ⟨_, Lib.hid rfl⟩
  have HB0 := Lib.hid (show Bks L0 by rw [← HL0.out]; exact Bks.same 16 (zeros_len 256))
  have HN0 := Lib.hid (show L0.length = 16 by rw [← HL0.out]; rfl)
  have HPL := Lib.hid (Lay14.blk_len lay24)
  have HZ2 := Lib.hid (show ∀ h : 2 < (L0.set 0 lay24.blk).length, (L0.set 0 lay24.blk)[2] = zeros 256 from fun h => by
    rw [List.getElem_set_ne (by omega)]
    simp only [← HL0.out, List.getElem_replicate])
  have HWL := Lib.hid (withT_len (zeros_len 256) 0 ino24)
  have HXL := Lib.hid (outX_len idx24_len 1)
  have HAL := Lib.hid ent24a_len
  have HBL := Lib.hid ent24b_len
  have HS := Lib.hid (show ((((L0.set 0 lay24.blk).set 2 (withT (zeros 256) 0 ino24)).set 5 (outX 1 idx24)).set 6 (newB ent24a)).set 7 (newB ent24b) = exL24 by rw [← HL0.out]; rfl)
  have HP1 := Lib.hid (fun w => put14_any lay24 (by decide) w)
  have HP2 := Lib.hid (fun w => twith_any (zeros 256) HzL.out 0 ino24 rfl w)
  have HP3 := Lib.hid (fun w => xput_any 1 idx24 idx24_len w)
  have HP4 := Lib.hid (fun A c w h => bnew_any A 2 c ent24a rfl (by unfold maxLen; omega) ent24a_size w h)
  have HP5 := Lib.hid (fun A c w h => bnew_any A 1 c ent24b rfl (by unfold maxLen; omega) ent24b_size w h)
  generalize lay24.blk = P1 at *
  generalize withT (zeros 256) 0 ino24 = P2 at *
  generalize outX 1 idx24 = P3 at *
  generalize newB ent24a = P4 at *
  generalize newB ent24b = P5 at *
  obtain ⟨e1, He1⟩ : ∃ e, Hid (okArg lay24.may = e) := ⟨_, Lib.hid rfl⟩
  rw [He1.out] at HP1
  obtain ⟨e2, He2⟩ : ∃ e, Hid (errT 0 ino24 = e) := ⟨_, Lib.hid rfl⟩
  rw [He2.out] at HP2
  obtain ⟨e3, He3⟩ : ∃ e, Hid (okArg (mayX 1 idx24) = e) := ⟨_, Lib.hid rfl⟩
  rw [He3.out] at HP3
  obtain ⟨e4, He4⟩ : ∃ e, Hid (errB ent24a = e) := ⟨_, Lib.hid rfl⟩
  rw [He4.out] at HP4
  obtain ⟨e5, He5⟩ : ∃ e, Hid (errB ent24b = e) := ⟨_, Lib.hid rfl⟩
  rw [He5.out] at HP5
  clear He1 He2 He3 He4 He5
  have HiL := Lib.hid (show ([2, 1, 0, 1, 0, 0, 0, 0, 0, 0, 0] : List Int).length = 11 from rfl)
  have HfL : Hid (freeI.length = 11) := Lib.hid rfl
  have HiL2 : Hid (ino24.length = 11) := Lib.hid rfl
  have HZt := Lib.hid zeroT_len
  have HIs : Hid ((icells ([2, 1, 0, 1, 0, 0, 0, 0, 0, 0, 0] : List Int)).setIfInBounds 4 (.int .i64 5) = icells ino24) := Lib.hid rfl
  have HXs : Hid (((icells (1 :: zeroT)).setIfInBounds 1 (.int .i64 6)).setIfInBounds 2 (.int .i64 7) = icells (1 :: idx24)) := Lib.hid (by
    rw [icells_set, icells_set]
    rfl)
  have HXl := Lib.hid idx24_len
  generalize ino24 = I2 at *
  generalize idx24 = X2 at *
  go_enter Tryz.func25, Tryz.ntmps25
  go_wp2_with (refine wpList_make_bkL rfl _ _ _ _ rfl Tryz.underlying33 Tryz.blockInfo _ _ _ _ 16 rfl rfl rfl rfl (by omega) L0 HL0.out ?_)
  apply Stop.go; intro w1 Hg1 Hb1
  have E1 := Lib.hid Hg1.out.1
  clear Hg1 HL0
  go_wp2_with fail
  refine (HP1.out _).mono ?_; rintro e w2 ⟨rfl, hb2⟩
  have Hb2 := Lib.hid (Hb1.out.ext hb2)
  have E2 := Lib.hid (bt E1.out hb2)
  clear hb2 Hb1 E1 HP1
  go_wp2_with (refine wpList_store_bk rfl _ _ _ rfl Tryz.blockSize w.heap.size 0 rfl P1 rfl HPL.out _ L0 HB0.out (by rw [HN0.out]; omega) Hb2.out ?_)
  apply Stop.go; intro w3 Ho3 Hb3
  have E3 := Lib.hid (bonly E2.out Ho3.out (Nat.le_refl _))
  have HB1 := Lib.hid (HB0.out.set 0 HPL.out)
  have HN1 := Lib.hid (show (L0.set 0 P1).length = 16 by rw [List.length_set, HN0.out])
  generalize L0.set 0 P1 = L1 at *
  clear Ho3 Hb2 E2 HB0 HN0
  have h2 : 2 < L1.length := by rw [HN1.out]; omega
  have HZ2 := Lib.hid (HZ2.out h2)
  go_wp2_with (first | refine wpList_build_three24 rfl _ _ _ _ _ _ _ rfl _ _ _ rfl rfl rfl _ Tryz.inoBuilt24 ?_ | refine wpList_alloc_row rfl _ rfl _ Tryz.inoZero ?_)
  apply Stop.go; intro w4 Hg4 Hb4
  go_wp2_with (refine wpList_store_arr rfl _ _ _ rfl _ _ rfl rfl _ _ Hb4.out (Tryz.inoFits HiL.out) (by simp only [icells_size, HiL.out, HfL.out]) (oneCell_icells _) ?_)
  apply Stop.go; intro w5 Ho5 Hb5
  have zi := Lib.hid (show w.heap.size < w3.heap.size from Hb3.out.lt)
  have D5 := Lib.hid (bonly Hg4.out.1 Ho5.out (Nat.le_refl _))
  have HL5 := Lib.hid (Hb3.out.ext D5.out)
  have E5 := Lib.hid (bt E3.out D5.out)
  generalize w3.heap.size = gi at *
  clear Hg4 Hb4 Ho5 D5 Hb3 E3
  go_wp2_with (refine wpList_store_cell rfl _ _ _ rfl Tryz.intSize24 gi 4 rfl _ rfl rfl rfl _ _ Hb5.out (show 4 < (icells ([2, 1, 0, 1, 0, 0, 0, 0, 0, 0, 0] : List Int)).size by decide) ?_)
  apply Stop.go; intro w6 Ho6 Hb6
  have HI6 := Lib.hid (show Blk w6 gi 39 (icells I2) by have := Hb6.out; rw [HIs.out] at this; exact this)
  have HL6 := Lib.hid (HL5.out.only Ho6.out (by have := zi.out; omega))
  have E6 := Lib.hid (bonly E5.out Ho6.out (by have := zi.out; omega))
  clear Ho6 Hb6 Hb5 HL5 E5 HIs
  go_wp2_with fail
  refine WH.start (S := fun w' : World => Blk w' gi 39 (icells I2)) [false, false, false, false, false, false, false, false, false, false, false] 11 rfl rfl (by kernel_rfl) (HI6.out.ext (bdrew w6 1)) (fun hSn => ?_); obtain ⟨wS, hwS⟩ : ∃ x, (w6).drew = x := ⟨_, rfl⟩; have HE := Lib.hid (show Below (w6).heap.size (w6) wS from hwS ▸ bdrew w6 1); rw [hwS] at hSn ⊢; clear hwS
  refine WH.tk 0 ?_; simp only [setL]
  refine WH.tk 1 ?_; simp only [setL]
  refine WH.tk 2 ?_; simp only [setL]
  refine WH.tv 4 rfl (fun w' hSw => exec_load_blk _ _ rfl _ rfl _ _ hSw _ Tryz.underlying39 rfl (Tryz.inoFits HiL2.out)) ?_; simp only [setL]
  refine WH.only 3 _ rfl (by kernel_rfl) rfl (fun K hK => ?_)
  have HLS := Lib.hid (HL6.out.ext HE.out)
  refine ow_exec24 (exec_load_bk _ _ rfl ⟨w.heap.size, 0, none⟩ 2 rfl L1 HB1.out h2 (RK.of_blk HB1.out HLS.out) _ Tryz.underlying77 rfl Tryz.blockSize) ?_
  rw [HZ2.out]
  have hSn := hSn; refine hK _ _ hSn ?_; clear hK; clear K; simp only [setL]
  refine WH.only 5 _ rfl (by kernel_rfl) rfl (fun K hK => ?_)
  go_simp; refine (HP2.out _).mono ?_; rintro e w7 ⟨rfl, hb7⟩; go_simp
  have HL7 := Lib.hid (HLS.out.ext hb7)
  have HE := Lib.hid (bt HE.out hb7)
  have hSn := hSn.ext hb7; refine hK _ _ hSn ?_; clear hK; clear K; simp only [setL]
  refine WH.tk 6 ?_; simp only [setL]
  refine WH.tk 7 ?_; simp only [setL]
  refine WH.tk 9 ?_; simp only [setL]
  refine WH.two 8 10 _ _ rfl rfl (by kernel_rfl) rfl rfl (fun K hK => ?_) (fun K hK => ?_)
  focus
    refine ow_exec24 (v := .int .i64 e2) (by go_simp) ?_
    have hSn := hSn; refine hK _ _ hSn ?_; clear hK; clear K; simp only [setL]
    refine WH.only 10 _ rfl (by kernel_rfl) rfl (fun K hK => ?_)
    refine ow_store_bk _ _ _ rfl Tryz.blockSize w.heap.size 2 rfl P2 rfl HWL.out _ L1 HB1.out h2 HL7.out ?_
    apply Stop.go; intro w8 Ho8 Hb8
    have E8 := Lib.hid (bonly (bt E6.out HE.out) Ho8.out (Nat.le_refl _))
    have hSn := hSn.only Ho8.out (by have := zi.out; omega); refine hK _ _ hSn ?_; clear hK; clear K; simp only [setL]
    refine WH.done (by kernel_rfl) ?_
  rotate_left
  focus
    refine ow_store_bk _ _ _ rfl Tryz.blockSize w.heap.size 2 rfl P2 rfl HWL.out _ L1 HB1.out h2 HL7.out ?_
    apply Stop.go; intro w8 Ho8 Hb8
    have E8 := Lib.hid (bonly (bt E6.out HE.out) Ho8.out (Nat.le_refl _))
    have hSn := hSn.only Ho8.out (by have := zi.out; omega); refine hK _ _ hSn ?_; clear hK; clear K; simp only [setL]
    refine WH.only 8 _ rfl (by kernel_rfl) rfl (fun K hK => ?_)
    refine ow_exec24 (v := .int .i64 e2) (by go_simp) ?_
    have hSn := hSn; refine hK _ _ hSn ?_; clear hK; clear K; simp only [setL]
    refine WH.done (by kernel_rfl) ?_
  all_goals
    have HB2 := Lib.hid (HB1.out.set 2 HWL.out)
    have HN2 := Lib.hid (show (L1.set 2 P2).length = 16 by rw [List.length_set, HN1.out])
    generalize L1.set 2 P2 = L2 at *
    clear hSn HE Ho8 hb7 HL6 HI6 E6 HB1 HN1 h2 HZ2 HP2 HLS HL7
    have HL8 : Hid (Blk w8 w.heap.size 77 (bcells L2.flatten)) := Hb8
    clear Hb8
    go_wp2_with (first | refine wpList_build_one24 rfl _ _ _ rfl _ rfl _ Tryz.ixBuilt24 ?_ | refine wpList_alloc_row rfl _ rfl _ Tryz.ixZero ?_)
    apply Stop.go; intro w9 Hg9 Hb9
    go_wp2_with (refine wpList_store_arr rfl _ _ _ rfl _ _ rfl rfl _ _ Hb9.out (Tryz.ixFits HZt.out) (icells_same HZt.out HZt.out) (oneCell_icells _) ?_)
    apply Stop.go; intro wa Hoa Hba
    have zx := Lib.hid (show w.heap.size < w8.heap.size from HL8.out.lt)
    have Da := Lib.hid (bonly Hg9.out.1 Hoa.out (Nat.le_refl _))
    have HLa := Lib.hid (HL8.out.ext Da.out)
    have Ea := Lib.hid (bt E8.out Da.out)
    generalize w8.heap.size = gx at *
    clear Hg9 Hb9 Hoa Da HL8 E8
    go_wp2_with (refine wpList_store_cell rfl _ _ _ rfl Tryz.intSize24 gx 1 rfl _ rfl rfl rfl _ _ Hba.out (show 1 < (icells (1 :: zeroT)).size by decide) ?_)
    apply Stop.go; intro wb Hob Hbb
    go_wp2_with (refine wpList_store_cell rfl _ _ _ rfl Tryz.intSize24 gx 2 rfl _ rfl rfl rfl _ _ Hbb.out (show 2 < ((icells (1 :: zeroT)).setIfInBounds 1 (.int .i64 6)).size by decide) ?_)
    apply Stop.go; intro wc Hoc Hbc
    have HXc := Lib.hid (show Blk wc gx 87 (icells (1 :: X2)) by have := Hbc.out; rw [HXs.out] at this; exact this)
    have HLc := Lib.hid ((HLa.out.only Hob.out (by have := zx.out; omega)).only Hoc.out (by have := zx.out; omega))
    have Ec := Lib.hid (bonly (bonly Ea.out Hob.out (by have := zx.out; omega)) Hoc.out (by have := zx.out; omega))
    clear Hba Hob Hbb Hoc Hbc HLa Ea HXs
    go_wp2_with (refine wpList_load_blk rfl _ _ rfl _ rfl _ _ HXc.out _ Tryz.underlying87 rfl (Tryz.ixFits HXl.out) ?_)
    refine (HP3.out _).mono ?_; rintro e wd ⟨rfl, hbd⟩
    have HLd := Lib.hid (HLc.out.ext hbd)
    have Ed := Lib.hid (bt Ec.out hbd)
    clear hbd HLc Ec HXc HP3
    go_wp2_with (refine wpList_store_bk rfl _ _ _ rfl Tryz.blockSize w.heap.size 5 rfl P3 rfl HXL.out _ L2 HB2.out (by rw [HN2.out]; omega) HLd.out ?_)
    apply Stop.go; intro we Hoe HLe
    have Ee := Lib.hid (bonly Ed.out Hoe.out (Nat.le_refl _))
    have HB3 := Lib.hid (HB2.out.set 5 HXL.out)
    have HN3 := Lib.hid (show (L2.set 5 P3).length = 16 by rw [List.length_set, HN2.out])
    generalize L2.set 5 P3 = L3 at *
    clear Hoe HLd Ed HB2 HN2
    go_wp2_with (refine wpList_build_row2 rfl _ _ _ _ rfl Tryz.underlying52 2 _ _ Tryz.entInfo24 (by decide) (by decide) #[.string ⟨#[97]⟩, .int .i64 2] #[.string ⟨#[98]⟩, .int .i64 3] rfl rfl rfl rfl ?_)
    apply Stop.go; intro wf Hgf Hbf
    have HRf := Lib.hid (RN.of_blk (L := erows ent24a) (N := 2) (fun r hr => by
      unfold erows at hr
      obtain ⟨e, _, rfl⟩ := List.mem_map.1 hr
      rfl) Hbf.out rfl)
    have HLf := Lib.hid (HLe.out.ext Hgf.out.1)
    have Ef := Lib.hid (bt Ee.out Hgf.out.1)
    clear Hgf Hbf HLe Ee
    go_wp2_with fail
    refine (HP4.out _ 2 _ HRf.out).mono ?_; rintro e wg ⟨rfl, hbg⟩
    have HLg := Lib.hid (HLf.out.ext hbg)
    have Eg := Lib.hid (bt Ef.out hbg)
    clear hbg HLf Ef HRf HP4
    go_wp2_with (refine wpList_store_bk rfl _ _ _ rfl Tryz.blockSize w.heap.size 6 rfl P4 rfl HAL.out _ L3 HB3.out (by rw [HN3.out]; omega) HLg.out ?_)
    apply Stop.go; intro wh Hoh HLh
    have Eh := Lib.hid (bonly Eg.out Hoh.out (Nat.le_refl _))
    have HB4 := Lib.hid (HB3.out.set 6 HAL.out)
    have HN4 := Lib.hid (show (L3.set 6 P4).length = 16 by rw [List.length_set, HN3.out])
    generalize L3.set 6 P4 = L4 at *
    clear Hoh HLg Eg HB3 HN3
    go_wp2_with (refine wpList_build_row rfl _ _ _ rfl Tryz.underlying52 2 _ _ Tryz.entInfo24 (by decide) (by decide) #[.string ⟨#[98]⟩, .int .i64 4] rfl rfl ?_)
    apply Stop.go; intro wi Hgi Hbi
    have HRi := Lib.hid (RN.of_blk (L := erows ent24b) (N := 2) (fun r hr => by
      unfold erows at hr
      obtain ⟨e, _, rfl⟩ := List.mem_map.1 hr
      rfl) Hbi.out rfl)
    have HLi := Lib.hid (HLh.out.ext Hgi.out.1)
    have Ei := Lib.hid (bt Eh.out Hgi.out.1)
    clear Hgi Hbi HLh Eh
    go_wp2_with fail
    refine (HP5.out _ 1 _ HRi.out).mono ?_; rintro e wj ⟨rfl, hbj⟩
    have HLj := Lib.hid (HLi.out.ext hbj)
    have Ej := Lib.hid (bt Ei.out hbj)
    clear hbj HLi Ei HRi HP5
    go_wp2_with (refine wpList_store_bk rfl _ _ _ rfl Tryz.blockSize w.heap.size 7 rfl P5 rfl HBL.out _ L4 HB4.out (by rw [HN4.out]; omega) HLj.out ?_)
    apply Stop.go; intro wk Hok HLk
    have Ek := Lib.hid (bonly Ej.out Hok.out (Nat.le_refl _))
    have HB5 := Lib.hid (HB4.out.set 7 HBL.out)
    rw [HS.out] at HLk HB5
    clear Hok HLj Ej HB4 HN4
    go_wp2_with fail
    go_ret
    exact ⟨_, rfl, OwnK.of_blk HB5.out HLk.out (Nat.le_refl _) (by rw [exL24_len]; unfold maxLen; omega), Ek.out⟩

theorem Tryz.plBuilt24 : Tryz.prog.built 42 [(0, .int .i64 7), (1, .int .i64 0), (2, .int .i64 4)] = some (icells [7, 0, 4]) := by kernel_rfl
theorem Tryz.nonBuilt24 : Tryz.prog.built 39 [(0, .int .i64 2)] = some (icells non24) := by kernel_rfl
set_option maxHeartbeats 3200000 in
theorem works24_any (w : World) : Calls Tryz.prog 6 #[] w fun e w' => e = .returned (.bool true) ∧ Below w.heap.size w w' := by
  have HTL := Lib.hid (fun no => bkV_len exL24_bks no)
  have HSm := Lib.hid (fun w => small24_any w)
  have HC1 := Lib.hid (fun (A : Option Addr) (c : Nat) (w : World) (h : RK w A exL24) => show Calls Tryz.prog 7 #[.slice A 16 c] w fun e w' => ∃ f, e = .returned (.tuple #[.agg (vval lay24 f), .int .i64 0]) ∧ Below w.heap.size w w' ∧ FV w' lay24 f (bkV exL24) by
    have := vof_any A 16 c exL24 exL24_len exL24_bks (by omega) w h
    rw [layV_some ex_lay24, ex_lay24] at this
    exact this)
  have HCN := Lib.hid (fun f w h => vinode_any lay24 f (bkV exL24) HTL.out 1 w h)
  rw [ex_ino24] at HCN
  have HLk := Lib.hid (fun f w h => dlookup_any lay24 f (bkV exL24) HTL.out ino24 rfl ⟨#[98]⟩ (by show (1 : Nat) ≤ maxLen; unfold maxLen; omega) w h)
  rw [ex_lk24] at HLk
  have HLi := Lib.hid (fun f w h => dlist_any lay24 f (bkV exL24) HTL.out ino24 rfl w h)
  rw [ex_srt24] at HLi
  have HSt := Lib.hid (fun f w h => dstray_any lay24 f (bkV exL24) HTL.out ino24 rfl w h)
  rw [ex_str24] at HSt
  have HEm := Lib.hid (fun f w h => dempty_any lay24 f (bkV exL24) HTL.out non24 rfl w h)
  rw [ex_non24] at HEm
  have HIL : Hid (ino24.length = 11) := Lib.hid rfl
  have HfL : Hid (freeI.length = 11) := Lib.hid rfl
  have Hz := Lib.hid (show ([0, 0, 0] : List Int).length = 3 from rfl)
  have H3 := Lib.hid (show ([7, 0, 4] : List Int).length = 3 from rfl)
  have HOr : Hid (orZ (some [7, 0, 4]) = [7, 0, 4]) := Lib.hid rfl
  rw [HOr.out] at HLk
  have HNb := Lib.hid Tryz.nonBuilt24
  have HLn := Lib.hid exL24_len
  generalize exL24 = L at *
  generalize ino24 = I at *
  generalize non24 = J at *
  generalize hT : bkV L = T at *
  clear hT HTL HOr
  go_enter Tryz.func6, Tryz.ntmps6
  go_wp2_with fail
  refine (HSm.out _).mono ?_; rintro e w1 ⟨v1, rfl, hv1, hb1⟩
  obtain ⟨A1, c1, rfl, _, _, hr1⟩ := hv1.read
  rw [HLn.out]
  have HR1 := Lib.hid hr1
  have E1 := Lib.hid hb1
  clear hv1 hr1 hb1 HSm
  go_wp2_with fail
  refine (HC1.out _ c1 _ HR1.out).mono ?_; rintro e w6 ⟨f, rfl, hb6, hf6⟩
  have HF6 := Lib.hid hf6
  have E6 := Lib.hid (bt E1.out hb6)
  have HCN := Lib.hid (fun w h => HCN.out f w h)
  have HLk := Lib.hid (fun w h => HLk.out f w h)
  have HLi := Lib.hid (fun w h => HLi.out f w h)
  have HSt := Lib.hid (fun w h => HSt.out f w h)
  have HEm := Lib.hid (fun w h => HEm.out f w h)
  clear hb6 hf6 HR1 E1 HC1 HLn
  go_wp2_with (refine wpList_alloc_row rfl _ rfl _ Tryz.viewZero ?_)
  apply Stop.go; intro w7 Hg7 Hb7
  go_wp2_with (refine wpList_store_arr rfl _ _ _ rfl _ (vval lay24 f) rfl rfl _ _ Hb7.out Tryz.viewSize rfl (FV.one HF6.out) ?_)
  apply Stop.go; intro w8 Ho8 Hb8
  have D := Lib.hid (bonly Hg7.out.1 Ho8.out (Nat.le_refl _))
  have HF8 := Lib.hid (HF6.out.below D.out)
  have E8 := Lib.hid (bt E6.out D.out)
  generalize w6.heap.size = gv at *
  clear Hg7 Hb7 Ho8 D HF6 E6
  go_wp2_with (refine wpList_load_blk rfl _ _ rfl _ rfl _ _ Hb8.out _ Tryz.underlying29 rfl Tryz.viewSize ?_)
  refine (HCN.out _ HF8.out).mono ?_; rintro e w9 ⟨rfl, hb9⟩
  have HF9 := Lib.hid (HF8.out.below hb9)
  have HV9 := Lib.hid (Hb8.out.ext hb9)
  have E9 := Lib.hid (bt E8.out hb9)
  clear hb9 HF8 Hb8 E8 HCN
  go_wp2_with (refine wpList_alloc_row rfl _ rfl _ Tryz.inoZero ?_)
  apply Stop.go; intro wa Hga Hba
  go_wp2_with (refine wpList_store_arr rfl _ _ _ rfl _ _ rfl rfl _ _ Hba.out (Tryz.inoFits HIL.out) (by simp only [icells_size, HIL.out, HfL.out]) (oneCell_icells _) ?_)
  apply Stop.go; intro wb Hob Hbb
  have D := Lib.hid (bonly Hga.out.1 Hob.out (Nat.le_refl _))
  have HFb := Lib.hid (HF9.out.below D.out)
  have HVb := Lib.hid (HV9.out.ext D.out)
  have Eb := Lib.hid (bt E9.out D.out)
  generalize w9.heap.size = gi at *
  clear Hga Hba Hob D HF9 HV9 E9
  go_wp2_with (first | refine wpList_load_blk rfl _ _ rfl _ rfl _ _ HVb.out _ Tryz.underlying29 rfl Tryz.viewSize ?_ | refine wpList_load_blk rfl _ _ rfl _ rfl _ _ Hbb.out _ Tryz.underlying39 rfl (Tryz.inoFits HIL.out) ?_)
  refine (HLk.out _ HFb.out).mono ?_; rintro e wc ⟨rfl, hbc⟩
  have HFc := Lib.hid (HFb.out.below hbc)
  have HVc := Lib.hid (HVb.out.ext hbc)
  have HIc := Lib.hid (Hbb.out.ext hbc)
  have Ec := Lib.hid (bt Eb.out hbc)
  clear hbc HFb HVb Hbb Eb HLk
  rw [show (some [7, 0, 4] : Option (List Int)).isSome = true from rfl]
  go_wp2_with (refine wpList_alloc_row rfl _ rfl _ Tryz.plZero ?_)
  apply Stop.go; intro wd Hgd Hbd
  go_wp2_with (refine wpList_store_arr rfl _ _ _ rfl _ _ rfl rfl _ _ Hbd.out (Tryz.plFits H3.out) (icells_sizes Hz.out H3.out) (oneCell_icells _) ?_)
  apply Stop.go; intro we Hoe Hbe
  have D := Lib.hid (bonly Hgd.out.1 Hoe.out (Nat.le_refl _))
  have HFe := Lib.hid (HFc.out.below D.out)
  have HVe := Lib.hid (HVc.out.ext D.out)
  have HIe := Lib.hid (HIc.out.ext D.out)
  have Ee := Lib.hid (bt Ec.out D.out)
  generalize wc.heap.size = gp at *
  clear Hgd Hbd Hoe D HFc HVc HIc Ec
  go_wp2_with (first | refine wpList_load_blk rfl _ _ rfl _ rfl _ _ HVe.out _ Tryz.underlying29 rfl Tryz.viewSize ?_ | refine wpList_load_blk rfl _ _ rfl _ rfl _ _ HIe.out _ Tryz.underlying39 rfl (Tryz.inoFits HIL.out) ?_)
  refine (HLi.out _ HFe.out).mono ?_; rintro e wf ⟨vf, rfl, hvf, hbf⟩
  have HFf := Lib.hid (HFe.out.below hbf)
  have HVf := Lib.hid (HVe.out.ext hbf)
  have HIf := Lib.hid (HIe.out.ext hbf)
  have HPf := Lib.hid (Hbe.out.ext hbf)
  have Ef := Lib.hid (bt Ee.out hbf)
  obtain ⟨gl, cl, cur, rfl, _⟩ := hvf.put (k := 0) (i := 0) (by decide) (by decide)
  have HRf := Lib.hid hvf.rn
  rw [show (erows got24).length = 2 from rfl]
  clear hvf hbf HFe HVe HIe Hbe Ee HLi
  go_wp2_with (first | refine wpList_load_blk rfl _ _ rfl _ rfl _ _ HVf.out _ Tryz.underlying29 rfl Tryz.viewSize ?_ | refine wpList_load_blk rfl _ _ rfl _ rfl _ _ HIf.out _ Tryz.underlying39 rfl (Tryz.inoFits HIL.out) ?_)
  refine (HSt.out _ HFf.out).mono ?_; rintro e wg ⟨vg, rfl, hvg, hbg⟩
  have HFg := Lib.hid (HFf.out.below hbg)
  have HVg := Lib.hid (HVf.out.ext hbg)
  have HPg := Lib.hid (HPf.out.ext hbg)
  have HRg := Lib.hid (HRf.out.below hbg)
  have Eg := Lib.hid (bt Ef.out hbg)
  obtain ⟨gs, cs, cur2, rfl, _⟩ := hvg.put (k := 0) (i := 0) (by decide) (by decide)
  have HSg := Lib.hid hvg.rn
  rw [show (irows [[6, 1, 3]]).length = 1 from rfl]
  clear hvg hbg HFf HVf HIf HPf HRf Ef HSt
  have c1 : wg.cell? ⟨gl, 1, none⟩ = some (.int .i64 2) := by
    have := HRg.out.row (k := 0) (r := [.string ⟨#[97]⟩, .int .i64 2]) rfl rfl 1 _ rfl
    exact this
  have c0 : wg.cell? ⟨gs, 0, none⟩ = some (.int .i64 6) := by
    have := HSg.out.row (k := 0) (r := ivals [6, 1, 3]) rfl rfl 0 _ rfl
    exact this
  go_wp2_with (first | refine wpList_load_blk rfl _ _ rfl _ rfl _ _ HPg.out _ Tryz.underlying42 rfl (Tryz.plFits H3.out) ?_ | refine wpList_build_three24 rfl _ _ _ _ _ _ _ rfl _ _ _ rfl rfl rfl _ Tryz.plBuilt24 ?_ | refine wpList_eql_agg rfl _ _ _ _ _ rfl (by kernel_rfl) _ _ rfl rfl _ (run_eql_pl_same [7, 0, 4] H3.out _) ?_ | refine wpList_load_blk rfl _ _ rfl _ rfl _ _ HVg.out _ Tryz.underlying29 rfl Tryz.viewSize ?_ | refine wpList_build_one24 rfl _ _ _ rfl _ rfl _ HNb.out ?_)
  refine (HEm.out _ HFg.out).mono ?_; rintro e wh ⟨rfl, hbh⟩
  go_wp2_with fail
  go_ret
  exact ⟨rfl, bt Eg.out hbh⟩

end Go.Proofs.YtbajicgpjggkfaaGreat
