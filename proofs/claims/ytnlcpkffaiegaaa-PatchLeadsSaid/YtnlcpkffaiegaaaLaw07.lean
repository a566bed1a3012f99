/-
  Walks of the laws of stage 7: works.
-/
import Derived.Test.YtnlcpkffaiegaaaPat5
import Derived.Test.YtnlcpkffaiegaaaRef07l
import Derived.Test.YtnlcpkffaiegaaaRef07d
namespace Go.Proofs.Ytnlcpkffaiegaaa
open Go.RowKit

/-- The block of the page's example. -/
def exB : List UInt8 := (((zeros 256).set 3 7).set 4 7).set 9 7
theorem exB_len : exB.length = 256 := by decide +kernel
theorem exB_runs : runsTo (unlike (zeros 256) exB) 256 = [(3, 2), (9, 1)] := by decide +kernel
theorem exB_diff : diffP (zeros 256) exB = [⟨3, [7, 7]⟩, ⟨9, [7]⟩] := by
  unfold diffP
  rw [exB_runs]
  have e1 : (exB.drop 3).take 2 = [7, 7] := by decide +kernel
  have e2 : (exB.drop 9).take 1 = [7] := by decide +kernel
  simp [ptOf, e1, e2]
theorem exB_lay : (layP (zeros 256) ⟨3, [7, 7]⟩)[4]? = some 7 := by decide +kernel
theorem exB_meet : meetP ⟨3, [1, 2]⟩ ⟨5, [1, 2]⟩ = false := by decide +kernel

section
variable {P : Program} {ops : Array Oper} {rest : List Oper} {o : Oper} {a : Act} {w : World} {K : Act → World → Prop} {Q : Exit → Act → World → Prop}
theorem exec_index_byte {o : Oper} (t : TypeId) (x y : Operand) (ho : o.op = .index t x y) (n e : Nat) (hu : P.underlying t = some (.array n e)) (he : P.underlying e = some (.int .u8)) (hs : (P.info? e).map (·.size) = some 1)
    (M : List UInt8) (hx : a.eval x = .agg (bcells M)) (k : IntKind) (I : Int) (hy : a.eval y = .int k I) (q : Nat) (hI : I = q) (hq : q < n) (b : UInt8) (hb : M[q]? = some b) : (execOp a.eval o).run P w = .ok (.value (.int .u8 (b.toNat : Int))) w := by
  subst hI
  unfold execOp
  simp only [ho, hx, hy, Sem.run_bind, Sem.run_pure, Result.andThen_ok, run_index_byte P w t e n hu he hs k M q hq b hb]
/-- A slice of two bytes. -/
theorem ow_build2 (t e : TypeId) (x y : Operand) (ho : o.op = .buildSlice t 2 #[(0, x), (1, y)]) (ht : P.underlying t = some (.slice e)) (hi : (P.info? e).map (fun i => (i.zero, i.size, i.bytes)) = some (some (.int .u8 0), 1, 1)) (b1 b2 : UInt8) (hx : a.eval x = .int .u8 (b1.toNat : Int)) (hy : a.eval y = .int .u8 (b2.toNat : Int))
    (h : Stop (∀ w', Hid (Grew w w') → Hid (RB w' (some ⟨w.heap.size, 0, none⟩) [b1, b2]) → K (a.put o.dst (.slice (some ⟨w.heap.size, 0, none⟩) 2 2)) w')) : o.wp P a w K Q := by
  obtain ⟨i, h1, h2, h3, h4⟩ := info_parts hi
  have hrun : (Instr.buildSlice t 2 #[(0, .int .u8 (b1.toNat : Int)), (1, .int .u8 (b2.toNat : Int))]).run P w = .ok (.slice (some ⟨w.heap.size, 0, none⟩) 2 2) (w.alloc (.cells (bcells [b1, b2]) e)) := by
    refine run_buildSlice w t e 2 _ _ i (.int .u8 0) ht h1 h2 (by omega) (by omega) ?_
    rw [h3]
    have hsz : ((Array.range (2 * 1)).map ((Value.int .u8 0).cells[· % (Value.int .u8 0).cells.size]!)).size = 2 := by simp
    generalize (Array.range (2 * 1)).map ((Value.int .u8 0).cells[· % (Value.int .u8 0).cells.size]!) = cs at hsz
    obtain ⟨l⟩ := cs
    match l, hsz with
    | [c0, c1], _ => simp [Instr.fill, Value.cells, bcells]
  unfold Oper.wp execOp
  simp only [ho, hx, hy, Sem.run_bind, List.map_toArray, List.map_cons, List.map_nil, hrun, Result.andThen_ok]
  exact h _ (Grew.alloc w _) (RB.of_blk0 (Blk.new w e (bcells [b1, b2])))
end

set_option maxHeartbeats 1600000 in
theorem works07_any (w : World) : Calls Try.prog 9 #[] w fun e w' => e = .returned (.bool true) ∧ Below w.heap.size w w' := by
  have HL := Lib.hid exB_len
  have HD := Lib.hid exB_diff
  have HY := Lib.hid exB_lay
  have HM := Lib.hid exB_meet
  have HZ := Lib.hid (zeros_len 256)
  go_enter Try.func9, Try.ntmps9
  go_wp2_with (refine wpList_alloc_row rfl _ rfl _ Try.blockZero ?_)
  apply Stop.go; intro w1 Hg1 Hb1
  go_wp2_with (refine wpList_alloc_row rfl _ rfl _ Try.blockZero ?_)
  apply Stop.go; intro w2 Hg2 Hb2
  go_wp2_with (refine wpList_store_cell rfl _ _ _ rfl Try.byteSize _ 3 rfl (.int .u8 7) rfl rfl rfl _ _ Hb2.out (by rw [bcells_size, zeros_len]; decide) ?_)
  apply Stop.go; intro w3 Ho3 Hb3
  rw [show (Value.int .u8 7) = .int .u8 (((7 : UInt8).toNat : Nat) : Int) from rfl, bcells_set] at Hb3
  go_wp2_with (refine wpList_store_cell rfl _ _ _ rfl Try.byteSize _ 4 rfl (.int .u8 7) rfl rfl rfl _ _ Hb3.out (by rw [bcells_size, List.length_set, zeros_len]; decide) ?_)
  apply Stop.go; intro w4 Ho4 Hb4
  rw [show (Value.int .u8 7) = .int .u8 (((7 : UInt8).toNat : Nat) : Int) from rfl, bcells_set] at Hb4
  go_wp2_with (refine wpList_store_cell rfl _ _ _ rfl Try.byteSize _ 9 rfl (.int .u8 7) rfl rfl rfl _ _ Hb4.out (by rw [bcells_size, List.length_set, List.length_set, zeros_len]; decide) ?_)
  apply Stop.go; intro w5 Ho5 Hb5
  rw [show (Value.int .u8 7) = .int .u8 (((7 : UInt8).toNat : Nat) : Int) from rfl, bcells_set] at Hb5
  have Hx5 := Lib.hid (show Blk w5 w1.heap.size 27 (bcells exB) from Hb5.out)
  have Z1 := Lib.hid Hg1.out.2
  have Hy5 := Lib.hid ((((Hb1.out.ext Hg2.out.1).only Ho3.out (by rw [Z1.out]; omega)).only Ho4.out (by rw [Z1.out]; omega)).only Ho5.out (by rw [Z1.out]; omega))
  have Hw5 := Lib.hid (bonly (bonly (bonly (bt Hg1.out.1 Hg2.out.1) Ho3.out Hg1.out.1.size) Ho4.out Hg1.out.1.size) Ho5.out Hg1.out.1.size)
  clear Hb2 Hb3 Hb4 Hb5 Ho3 Ho4 Ho5
  go_wp2_with (first | refine wpList_load_arr rfl _ _ rfl _ rfl _ _ Hy5.out _ _ Try.underlying27 (Try.blockFits HZ.out) ?_ | refine wpList_load_arr rfl _ _ rfl _ rfl _ _ Hx5.out _ _ Try.underlying27 (Try.blockFits HL.out) ?_)
  refine (pdiff_any (zeros 256) exB HZ.out HL.out _).mono ?_; rintro e w6 ⟨A, n, c, rfl, hn, hc, hm, hr, hb6⟩
  rw [HD.out] at hn hr
  obtain rfl : n = 2 := hn.symm
  obtain ⟨ad, u0, u1, rfl, k0, k1, hp1⟩ := hr 0 (by simp)
  obtain ⟨ad', u0', u1', e', k2, k3, hp2⟩ := hr 1 (by simp)
  injection e' with e'
  subst e'
  obtain ⟨A1, n1, c1, rfl, rfl, hq1⟩ := hp1.pv
  obtain ⟨A2, n2, c2, rfl, rfl, hq2⟩ := hp2.pv
  have hp1 : PV w6 ⟨3, [7, 7]⟩ A1 n1 c1 := hq1
  obtain rfl : n1 = 2 := hp1.len.symm
  have K0 := Lib.hid (show w6.cell? ad = some (.int .i64 3) from k0)
  have K1 := Lib.hid (show w6.cell? (ad.add 1) = some (.slice A1 2 c1) from k1)
  have K3 := Lib.hid (show w6.cell? ⟨ad.block, ad.off + 1, none⟩ = some (.slice A1 2 c1) from cell_field (j := 0) k0 k1)
  have K2 := Lib.hid (show w6.cell? (ad.add 2) = some (.int .i64 9) from k2)
  have Hp1 := Lib.hid hp1
  have Hy6 := Lib.hid (Hy5.out.ext hb6)
  have Hw6 := Lib.hid (bt Hw5.out hb6)
  clear hn hr k0 k1 k2 k3 hp1 hp2 hq1 hq2 hb6 HD
  go_wp2_with fail
  refine WH.start (S := fun w' : World => Below w6.heap.size w6 w') (List.replicate 43 false) 43 rfl rfl (by kernel_rfl) (bdrew w6 1) (fun hSn => ?_)
  simp only [List.replicate]
  refine WH.take 0 _ ?_ rfl (by kernel_rfl) (fun _ _ _ h => h) rfl (by assumption) ?_ ?_; rotate_left; (focus (intro w hSw; (try dsimp only at hSw); (first | (go_simp; done) | (go_simp; with_reducible rfl)))); simp only [Act.put, List.setIfInBounds_toArray, List.set_cons_zero, List.set_cons_succ]
  refine WH.take 1 _ ?_ rfl (by kernel_rfl) (fun _ _ _ h => h) rfl (by assumption) ?_ ?_; rotate_left; (focus (intro w hSw; (try dsimp only at hSw); (first | (go_simp; done) | (go_simp; with_reducible rfl)))); simp only [Act.put, List.setIfInBounds_toArray, List.set_cons_zero, List.set_cons_succ]
  refine WH.take 2 _ ?_ rfl (by kernel_rfl) (fun _ _ _ h => h) rfl (by assumption) ?_ ?_; rotate_left; (focus (intro w hSw; (try dsimp only at hSw); (first | (go_simp; done) | (go_simp; with_reducible rfl)))); simp only [Act.put, List.setIfInBounds_toArray, List.set_cons_zero, List.set_cons_succ]
  refine WH.take 3 _ ?_ rfl (by kernel_rfl) (fun _ _ _ h => h) rfl (by assumption) ?_ ?_; rotate_left; (focus (intro w hSw; (try dsimp only at hSw); (first | (go_simp; done) | (go_simp; with_reducible rfl)))); simp only [Act.put, List.setIfInBounds_toArray, List.set_cons_zero, List.set_cons_succ]
  refine WH.take 4 _ ?_ rfl (by kernel_rfl) (fun _ _ _ h => h) rfl (by assumption) ?_ ?_; rotate_left; (focus (intro w hSw; (try dsimp only at hSw); (first | (go_simp; done) | (go_simp; with_reducible rfl)))); simp only [Act.put, List.setIfInBounds_toArray, List.set_cons_zero, List.set_cons_succ]
  refine WH.take 5 _ ?_ rfl (by kernel_rfl) (fun _ _ _ h => h) rfl (by assumption) ?_ ?_; rotate_left; (focus (intro w hSw; (try dsimp only at hSw); (first | (go_simp; done) | (go_simp; with_reducible rfl)))); simp only [Act.put, List.setIfInBounds_toArray, List.set_cons_zero, List.set_cons_succ]
  refine WH.take 6 _ ?_ rfl (by kernel_rfl) (fun _ _ _ h => h) rfl (by assumption) ?_ ?_; rotate_left; (focus (intro w hSw; (try dsimp only at hSw); (first | (go_simp; done) | (go_simp; with_reducible rfl)))); simp only [Act.put, List.setIfInBounds_toArray, List.set_cons_zero, List.set_cons_succ]
  refine WH.take 7 _ _ rfl (by kernel_rfl) (fun _ _ _ h => h) rfl (by assumption) (fun w' hSw => exec_load_cell _ _ rfl ad rfl (.int .i64 3) ((hSw.cell (block_lt_of_cell K0.out)).trans K0.out) _ Try.underlying3 rfl) ?_; simp only [Act.put, List.setIfInBounds_toArray, List.set_cons_zero, List.set_cons_succ]
  refine WH.take 8 _ ?_ rfl (by kernel_rfl) (fun _ _ _ h => h) rfl (by assumption) ?_ ?_; rotate_left; (focus (intro w hSw; (try dsimp only at hSw); (first | (go_simp; done) | (go_simp; with_reducible rfl)))); simp only [Act.put, List.setIfInBounds_toArray, List.set_cons_zero, List.set_cons_succ]
  refine WH.take 9 _ ?_ rfl (by kernel_rfl) (fun _ _ _ h => h) rfl (by assumption) ?_ ?_; rotate_left; (focus (intro w hSw; (try dsimp only at hSw); (first | (go_simp; done) | (go_simp; with_reducible rfl)))); simp only [Act.put, List.setIfInBounds_toArray, List.set_cons_zero, List.set_cons_succ]
  refine WH.take 10 _ ?_ rfl (by kernel_rfl) (fun _ _ _ h => h) rfl (by assumption) ?_ ?_; rotate_left; (focus (intro w hSw; (try dsimp only at hSw); (first | (go_simp; done) | (go_simp; with_reducible rfl)))); simp only [Act.put, List.setIfInBounds_toArray, List.set_cons_zero, List.set_cons_succ]
  refine WH.take 11 _ ?_ rfl (by kernel_rfl) (fun _ _ _ h => h) rfl (by assumption) ?_ ?_; rotate_left; (focus (intro w hSw; (try dsimp only at hSw); (first | (go_simp; done) | (go_simp; with_reducible rfl)))); simp only [Act.put, List.setIfInBounds_toArray, List.set_cons_zero, List.set_cons_succ]
  refine WH.take 12 _ ?_ rfl (by kernel_rfl) (fun _ _ _ h => h) rfl (by assumption) ?_ ?_; rotate_left; (focus (intro w hSw; (try dsimp only at hSw); (first | (go_simp; done) | (go_simp; with_reducible rfl)))); simp only [Act.put, List.setIfInBounds_toArray, List.set_cons_zero, List.set_cons_succ]
  refine WH.take 13 _ ?_ rfl (by kernel_rfl) (fun _ _ _ h => h) rfl (by assumption) ?_ ?_; rotate_left; (focus (intro w hSw; (try dsimp only at hSw); (first | (go_simp; done) | (go_simp; with_reducible rfl)))); simp only [Act.put, List.setIfInBounds_toArray, List.set_cons_zero, List.set_cons_succ]
  refine WH.take 14 _ _ rfl (by kernel_rfl) (fun _ _ _ h => h) rfl (by assumption) (fun w' hSw => exec_load_cell _ _ rfl ⟨ad.block, ad.off + 1, none⟩ rfl (.slice A1 2 c1) ((hSw.cell (block_lt_of_cell K3.out)).trans K3.out) _ Try.underlying23 rfl) ?_; simp only [Act.put, List.setIfInBounds_toArray, List.set_cons_zero, List.set_cons_succ]
  refine WH.take 15 _ ?_ rfl (by kernel_rfl) (fun _ _ _ h => h) rfl (by assumption) ?_ ?_; rotate_left; (focus (intro w hSw; (try dsimp only at hSw); (first | (go_simp; done) | (go_simp; with_reducible rfl)))); simp only [Act.put, List.setIfInBounds_toArray, List.set_cons_zero, List.set_cons_succ]
  refine WH.take 16 _ ?_ rfl (by kernel_rfl) (fun _ _ _ h => h) rfl (by assumption) ?_ ?_; rotate_left; (focus (intro w hSw; (try dsimp only at hSw); (first | (go_simp; done) | (go_simp; with_reducible rfl)))); simp only [Act.put, List.setIfInBounds_toArray, List.set_cons_zero, List.set_cons_succ]
  refine WH.take 17 _ ?_ rfl (by kernel_rfl) (fun _ _ _ h => h) rfl (by assumption) ?_ ?_; rotate_left; (focus (intro w hSw; (try dsimp only at hSw); (first | (go_simp; done) | (go_simp; with_reducible rfl)))); simp only [Act.put, List.setIfInBounds_toArray, List.set_cons_zero, List.set_cons_succ]
  refine WH.take 18 _ ?_ rfl (by kernel_rfl) (fun _ _ _ h => h) rfl (by assumption) ?_ ?_; rotate_left; (focus (intro w hSw; (try dsimp only at hSw); (first | (go_simp; done) | (go_simp; with_reducible rfl)))); simp only [Act.put, List.setIfInBounds_toArray, List.set_cons_zero, List.set_cons_succ]
  refine WH.take 19 _ ?_ rfl (by kernel_rfl) (fun _ _ _ h => h) rfl (by assumption) ?_ ?_; rotate_left; (focus (intro w hSw; (try dsimp only at hSw); (first | (go_simp; done) | (go_simp; with_reducible rfl)))); simp only [Act.put, List.setIfInBounds_toArray, List.set_cons_zero, List.set_cons_succ]
  refine WH.take 20 _ ?_ rfl (by kernel_rfl) (fun _ _ _ h => h) rfl (by assumption) ?_ ?_; rotate_left; (focus (intro w hSw; (try dsimp only at hSw); (first | (go_simp; done) | (go_simp; with_reducible rfl)))); simp only [Act.put, List.setIfInBounds_toArray, List.set_cons_zero, List.set_cons_succ]
  refine WH.take 21 _ ?_ rfl (by kernel_rfl) (fun _ _ _ h => h) rfl (by assumption) ?_ ?_; rotate_left; (focus (intro w hSw; (try dsimp only at hSw); (first | (go_simp; done) | (go_simp; with_reducible rfl)))); simp only [Act.put, List.setIfInBounds_toArray, List.set_cons_zero, List.set_cons_succ]
  refine WH.take 22 _ _ rfl (by kernel_rfl) (fun _ _ _ h => h) rfl (by assumption) (fun w' hSw => exec_load_cell _ _ rfl (ad.add 2) rfl (.int .i64 9) ((hSw.cell (block_lt_of_cell K2.out)).trans K2.out) _ Try.underlying3 rfl) ?_; simp only [Act.put, List.setIfInBounds_toArray, List.set_cons_zero, List.set_cons_succ]
  refine WH.take 23 _ ?_ rfl (by kernel_rfl) (fun _ _ _ h => h) rfl (by assumption) ?_ ?_; rotate_left; (focus (intro w hSw; (try dsimp only at hSw); (first | (go_simp; done) | (go_simp; with_reducible rfl)))); simp only [Act.put, List.setIfInBounds_toArray, List.set_cons_zero, List.set_cons_succ]
  refine WH.take 24 _ ?_ rfl (by kernel_rfl) (fun _ _ _ h => h) rfl (by assumption) ?_ ?_; rotate_left; (focus (intro w hSw; (try dsimp only at hSw); (first | (go_simp; done) | (go_simp; with_reducible rfl)))); simp only [Act.put, List.setIfInBounds_toArray, List.set_cons_zero, List.set_cons_succ]
  refine WH.take 25 _ ?_ rfl (by kernel_rfl) (fun _ _ _ h => h) rfl (by assumption) ?_ ?_; rotate_left; (focus (intro w hSw; (try dsimp only at hSw); (first | (go_simp; done) | (go_simp; with_reducible rfl)))); simp only [Act.put, List.setIfInBounds_toArray, List.set_cons_zero, List.set_cons_succ]
  refine WH.take 26 _ _ rfl (by kernel_rfl) (fun _ _ _ h => h) rfl (by assumption) (fun w' hSw => exec_load_blk _ _ rfl _ rfl _ _ (Hy6.out.ext hSw) _ (Try.underlying27) rfl (Try.blockFits HZ.out)) ?_; simp only [Act.put, List.setIfInBounds_toArray, List.set_cons_zero, List.set_cons_succ]
  refine WH.take 27 _ ?_ rfl (by kernel_rfl) (fun _ _ _ h => h) rfl (by assumption) ?_ ?_; rotate_left; (focus (intro w hSw; (try dsimp only at hSw); (first | (go_simp; done) | (go_simp; with_reducible rfl)))); simp only [Act.put, List.setIfInBounds_toArray, List.set_cons_zero, List.set_cons_succ]
  refine WH.take 28 _ ?_ rfl (by kernel_rfl) (fun _ _ _ h => h) rfl (by assumption) ?_ ?_; rotate_left; (focus (intro w hSw; (try dsimp only at hSw); (first | (go_simp; done) | (go_simp; with_reducible rfl)))); simp only [Act.put, List.setIfInBounds_toArray, List.set_cons_zero, List.set_cons_succ]
  refine WH.take 29 _ _ rfl (by kernel_rfl) (fun _ _ _ h => h) rfl (by assumption) (fun w' hSw => exec_load_pair _ _ rfl ad rfl (.int .i64 3) (.slice A1 2 c1) ((hSw.cell (block_lt_of_cell K0.out)).trans K0.out) ((hSw.cell (block_lt_of_cell K1.out)).trans K1.out) _ Try.underlying29 Try.patchSize) ?_; simp only [Act.put, List.setIfInBounds_toArray, List.set_cons_zero, List.set_cons_succ]
  refine WH.only 30 _ rfl (by kernel_rfl) rfl (fun K hK => ?_); go_simp; refine (play_any (zeros 256) HZ.out ⟨3, [7, 7]⟩ A1 2 c1 _ (Hp1.out.below hSn)).mono ?_; rintro e w7 ⟨rfl, hb7⟩; go_simp
  have hSn := bt hSn hb7; refine hK _ _ hSn ?_; clear hK; clear K; simp only [List.set_cons_zero, List.set_cons_succ]
  refine WH.take 31 _ _ rfl (by kernel_rfl) (fun _ _ _ h => h) rfl (by assumption) (fun w' hSw => exec_index_byte _ _ _ rfl _ _ Try.underlying27 Try.underlying5 Try.byteSize _ rfl _ _ rfl 4 rfl (by decide) 7 HY.out) ?_; simp only [Act.put, List.setIfInBounds_toArray, List.set_cons_zero, List.set_cons_succ]
  refine WH.take 32 _ ?_ rfl (by kernel_rfl) (fun _ _ _ h => h) rfl (by assumption) ?_ ?_; rotate_left; (focus (intro w hSw; (try dsimp only at hSw); (first | (go_simp; done) | (go_simp; with_reducible rfl)))); simp only [Act.put, List.setIfInBounds_toArray, List.set_cons_zero, List.set_cons_succ]
  refine WH.take 33 _ ?_ rfl (by kernel_rfl) (fun _ _ _ h => h) rfl (by assumption) ?_ ?_; rotate_left; (focus (intro w hSw; (try dsimp only at hSw); (first | (go_simp; done) | (go_simp; with_reducible rfl)))); simp only [Act.put, List.setIfInBounds_toArray, List.set_cons_zero, List.set_cons_succ]
  refine WH.take 34 _ ?_ rfl (by kernel_rfl) (fun _ _ _ h => h) rfl (by assumption) ?_ ?_; rotate_left; (focus (intro w hSw; (try dsimp only at hSw); (first | (go_simp; done) | (go_simp; with_reducible rfl)))); simp only [Act.put, List.setIfInBounds_toArray, List.set_cons_zero, List.set_cons_succ]
  refine WH.two 35 37 _ _ rfl rfl (by kernel_rfl) rfl rfl (fun K hK => ?_) (fun K hK => ?_)
  · refine ow_build2 _ _ _ _ rfl Try.underlying23 Try.byteInfo 1 2 rfl rfl ?_
    apply Stop.go
    intro w8 HG1 HR1
    have hSn := bt hSn HG1.out.1; refine hK _ _ hSn ?_; clear hK; clear K; simp only [Act.put, List.setIfInBounds_toArray, List.set_cons_zero, List.set_cons_succ]
    refine WH.take 36 _ ?_ rfl (by kernel_rfl) (fun _ _ _ h => h) rfl (by assumption) ?_ ?_; rotate_left; (focus (intro w hSw; (try dsimp only at hSw); (first | (go_simp; done) | (go_simp; with_reducible rfl)))); simp only [Act.put, List.setIfInBounds_toArray, List.set_cons_zero, List.set_cons_succ]
    refine WH.only 37 _ rfl (by kernel_rfl) rfl (fun K hK => ?_)
    refine ow_build2 _ _ _ _ rfl Try.underlying23 Try.byteInfo 1 2 rfl rfl ?_
    apply Stop.go
    intro w9 HG2 HR2
    have hSn := bt hSn HG2.out.1; refine hK _ _ hSn ?_; clear hK; clear K; simp only [Act.put, List.setIfInBounds_toArray, List.set_cons_zero, List.set_cons_succ]
    refine WH.take 38 _ ?_ rfl (by kernel_rfl) (fun _ _ _ h => h) rfl (by assumption) ?_ ?_; rotate_left; (focus (intro w hSw; (try dsimp only at hSw); (first | (go_simp; done) | (go_simp; with_reducible rfl)))); simp only [Act.put, List.setIfInBounds_toArray, List.set_cons_zero, List.set_cons_succ]
    refine WH.only 39 _ rfl (by kernel_rfl) rfl (fun K hK => ?_); go_simp; refine (meet_any ⟨3, [1, 2]⟩ (some ⟨w7.heap.size, 0, none⟩) 2 2 ⟨5, [1, 2]⟩ (some ⟨w8.heap.size, 0, none⟩) 2 2 _ ⟨by decide, by decide, rfl, by omega, by unfold maxLen; omega, HR1.out.below HG2.out.1⟩ ⟨by decide, by decide, rfl, by omega, by unfold maxLen; omega, HR2.out⟩).mono ?_; rintro e w10 ⟨rfl, hb10⟩; go_simp
    rw [HM.out]
    have hSn := bt hSn hb10; refine hK _ _ hSn ?_; clear hK; clear K; simp only [List.set_cons_zero, List.set_cons_succ]
    refine WH.take 40 _ ?_ rfl (by kernel_rfl) (fun _ _ _ h => h) rfl (by assumption) ?_ ?_; rotate_left; (focus (intro w hSw; (try dsimp only at hSw); (first | (go_simp; done) | (go_simp; with_reducible rfl)))); simp only [Act.put, List.setIfInBounds_toArray, List.set_cons_zero, List.set_cons_succ]
    refine WH.take 41 _ ?_ rfl (by kernel_rfl) (fun _ _ _ h => h) rfl (by assumption) ?_ ?_; rotate_left; (focus (intro w hSw; (try dsimp only at hSw); (first | (go_simp; done) | (go_simp; with_reducible rfl)))); simp only [Act.put, List.setIfInBounds_toArray, List.set_cons_zero, List.set_cons_succ]
    refine WH.take 42 _ ?_ rfl (by kernel_rfl) (fun _ _ _ h => h) rfl (by assumption) ?_ ?_; rotate_left; (focus (intro w hSw; (try dsimp only at hSw); (first | (go_simp; done) | (go_simp; with_reducible rfl)))); simp only [Act.put, List.setIfInBounds_toArray, List.set_cons_zero, List.set_cons_succ]
    refine WH.done (by kernel_rfl) ?_
    have Hfin := Lib.hid (bt Hw6.out hSn)
    clear hSn
    go_wp2_with fail
    go_ret
    exact ⟨rfl, Hfin.out⟩
  · refine ow_build2 _ _ _ _ rfl Try.underlying23 Try.byteInfo 1 2 rfl rfl ?_
    apply Stop.go
    intro w8 HG2 HR2
    have hSn := bt hSn HG2.out.1; refine hK _ _ hSn ?_; clear hK; clear K; simp only [Act.put, List.setIfInBounds_toArray, List.set_cons_zero, List.set_cons_succ]
    refine WH.take 38 _ ?_ rfl (by kernel_rfl) (fun _ _ _ h => h) rfl (by assumption) ?_ ?_; rotate_left; (focus (intro w hSw; (try dsimp only at hSw); (first | (go_simp; done) | (go_simp; with_reducible rfl)))); simp only [Act.put, List.setIfInBounds_toArray, List.set_cons_zero, List.set_cons_succ]
    refine WH.only 35 _ rfl (by kernel_rfl) rfl (fun K hK => ?_)
    refine ow_build2 _ _ _ _ rfl Try.underlying23 Try.byteInfo 1 2 rfl rfl ?_
    apply Stop.go
    intro w9 HG1 HR1
    have hSn := bt hSn HG1.out.1; refine hK _ _ hSn ?_; clear hK; clear K; simp only [Act.put, List.setIfInBounds_toArray, List.set_cons_zero, List.set_cons_succ]
    refine WH.take 36 _ ?_ rfl (by kernel_rfl) (fun _ _ _ h => h) rfl (by assumption) ?_ ?_; rotate_left; (focus (intro w hSw; (try dsimp only at hSw); (first | (go_simp; done) | (go_simp; with_reducible rfl)))); simp only [Act.put, List.setIfInBounds_toArray, List.set_cons_zero, List.set_cons_succ]
    refine WH.only 39 _ rfl (by kernel_rfl) rfl (fun K hK => ?_); go_simp; refine (meet_any ⟨3, [1, 2]⟩ (some ⟨w8.heap.size, 0, none⟩) 2 2 ⟨5, [1, 2]⟩ (some ⟨w7.heap.size, 0, none⟩) 2 2 _ ⟨by decide, by decide, rfl, by omega, by unfold maxLen; omega, HR1.out⟩ ⟨by decide, by decide, rfl, by omega, by unfold maxLen; omega, HR2.out.below HG1.out.1⟩).mono ?_; rintro e w10 ⟨rfl, hb10⟩; go_simp
    rw [HM.out]
    have hSn := bt hSn hb10; refine hK _ _ hSn ?_; clear hK; clear K; simp only [List.set_cons_zero, List.set_cons_succ]
    refine WH.take 40 _ ?_ rfl (by kernel_rfl) (fun _ _ _ h => h) rfl (by assumption) ?_ ?_; rotate_left; (focus (intro w hSw; (try dsimp only at hSw); (first | (go_simp; done) | (go_simp; with_reducible rfl)))); simp only [Act.put, List.setIfInBounds_toArray, List.set_cons_zero, List.set_cons_succ]
    refine WH.take 41 _ ?_ rfl (by kernel_rfl) (fun _ _ _ h => h) rfl (by assumption) ?_ ?_; rotate_left; (focus (intro w hSw; (try dsimp only at hSw); (first | (go_simp; done) | (go_simp; with_reducible rfl)))); simp only [Act.put, List.setIfInBounds_toArray, List.set_cons_zero, List.set_cons_succ]
    refine WH.take 42 _ ?_ rfl (by kernel_rfl) (fun _ _ _ h => h) rfl (by assumption) ?_ ?_; rotate_left; (focus (intro w hSw; (try dsimp only at hSw); (first | (go_simp; done) | (go_simp; with_reducible rfl)))); simp only [Act.put, List.setIfInBounds_toArray, List.set_cons_zero, List.set_cons_succ]
    refine WH.done (by kernel_rfl) ?_
    have Hfin := Lib.hid (bt Hw6.out hSn)
    clear hSn
    go_wp2_with fail
    go_ret
    exact ⟨rfl, Hfin.out⟩

end Go.Proofs.Ytnlcpkffaiegaaa
