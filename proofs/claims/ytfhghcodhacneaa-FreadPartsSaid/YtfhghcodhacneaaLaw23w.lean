/-
  Layer 23: works.
-/
import Derived.Test.YtfhghcodhacneaaFrd3
import Derived.Test.YtfhghcodhacneaaVw2
import Derived.Test.YtfhghcodhacneaaSup2
import Derived.Test.YtfhghcodhacneaaSame
import Derived.Test.YtfhghcodhacneaaIx1
namespace Go.Proofs.Ytfhghcodhacneaa
open Go.RowKit
set_option maxRecDepth 10000

def lay23 : Lay14 := ⟨16, 8, 0⟩
def ino23 : List Int := [1, 0, 3, 0, 0, 0, 0, 0, 0, 0, 0]
/-- The page's example: a device with nothing. -/
def exL23 : List (List UInt8) := (List.replicate 16 (zeros 256)).set 0 lay23.blk
theorem exL23_len : exL23.length = 16 := rfl
theorem exL23_bks : Bks exL23 := (Bks.same 16 (zeros_len 256)).set 0 (Lay14.blk_len _)
theorem ex_lay23 : layW exL23 = some lay23 := by
  have h1 : get14 (bkV exL23 0) = some lay23 := by
    have e : bkV exL23 0 = lay23.blk := rfl
    rw [e]
    unfold Lay14.blk
    rw [if_pos (by decide)]
    exact get_put14 (by decide) (by decide)
  exact layW_some (by rw [exL23_len]; omega) h1 (by rw [exL23_len]; rfl)
theorem ex_all23 : segR lay23 (bkV exL23) ino23 0 (sizeR ino23) = [0, 0, 0] := by decide +kernel
theorem ex_spans23 : spansS 255 3 = [[0, 255, 1], [1, 0, 2]] := by decide +kernel
theorem Try.inoBuilt23 : Try.prog.built 42 [(0, .int .i64 1), (2, .int .i64 3)] = some (icells ino23) := by kernel_rfl
section
variable {P : Program} {ops : Array Oper} {rest : List Oper} {o : Oper} {a : Act} {w : World} {Q : Exit → Act → World → Prop}
theorem wpList_build_two23 (hgd : Region.wanted o (yielded ops a.tmps) = true) (t : TypeId) (i j : Nat) (x y : Operand) (ho : o.op = .build t #[(i, x), (j, y)]) (vx vy : Value) (hx : a.eval x = vx) (hy : a.eval y = vy) (cs : Array Value) (hb : P.built t [(i, vx), (j, vy)] = some cs)
    (h : wpList P ops Q rest (a.put o.dst (.agg cs)) w) : wpList P ops Q (o :: rest) a w := by
  refine wpList_wanted hgd fun K hK => ?_
  have hr : (Instr.build t #[(i, vx), (j, vy)]).run P w = .ok (.agg cs) w := run_build w t #[(i, vx), (j, vy)] cs hb
  unfold Oper.wp execOp
  simp only [ho, Sem.run_bind, List.map_toArray, List.map_cons, List.map_nil, hx, hy, hr, Result.andThen_ok]
  exact hK _ _ h
end
/-- '==', '!=' of the numbers of a piece. -/
theorem run_eql_spn (x y : List Int) (hx : x.length = 3) (hy : y.length = 3) (w : World) : (binOp .eql 25 (.agg (icells x)) (.agg (icells y))).run Try.prog w = .ok (.bool (x == y)) w := by
  have h := run_equalIn_ints (P := Try.prog) w 9998 25 3 3 Try.underlying25 Try.underlying3 (sizeOf_of Try.int1Size) x y hx hy
  rw [run_eql_struct, h]
  rfl
theorem run_neq_spn (x y : List Int) (hx : x.length = 3) (hy : y.length = 3) (w : World) : (binOp .neq 25 (.agg (icells x)) (.agg (icells y))).run Try.prog w = .ok (.bool (!(x == y))) w := by
  have h := run_equalIn_ints (P := Try.prog) w 9998 25 3 3 Try.underlying25 Try.underlying3 (sizeOf_of Try.int1Size) x y hx hy
  rw [run_neq_struct, h]
  rfl
set_option maxHeartbeats 3200000 in
theorem works23_any (w : World) : Calls Try.prog 6 #[] w fun e w' => e = .returned (.bool true) ∧ Below w.heap.size w w' := by
  have HTL := Lib.hid (fun no => bkV_len exL23_bks no)
  obtain ⟨L0, HL0⟩ : ∃ L, Hid (List.replicate 16 (zeros 256) = L) := ⟨_, Lib.hid rfl⟩
  have HB0 := Lib.hid (show Bks L0 by rw [← HL0.out]; exact Bks.same 16 (zeros_len 256))
  have HN0 := Lib.hid (show L0.length = 16 by rw [← HL0.out]; rfl)
  have HPL := Lib.hid (Lay14.blk_len lay23)
  have HS := Lib.hid (show L0.set 0 lay23.blk = exL23 by rw [← HL0.out]; rfl)
  have HP1 := Lib.hid (fun w => put14_any lay23 (by decide) w)
  generalize lay23.blk = P1 at *
  obtain ⟨e1, He1⟩ : ∃ e, Hid (okArg lay23.may = e) := ⟨_, Lib.hid rfl⟩
  rw [He1.out] at HP1
  have HC1 := Lib.hid (fun (A : Option Addr) (c : Nat) (w : World) (h : RK w A exL23) => show Calls Try.prog 9 #[.slice A 16 c] w fun e w' => ∃ f, e = .returned (.tuple #[.agg (vval lay23 f), .int .i64 0]) ∧ Below w.heap.size w w' ∧ FV w' lay23 f (bkV exL23) by
    have := vof_any A 16 c exL23 exL23_len exL23_bks (by omega) w h
    rw [layV_some ex_lay23, ex_lay23] at this
    exact this)
  have HCA := Lib.hid (fun f w h => fallR_any lay23 f (bkV exL23) HTL.out ino23 rfl w h)
  rw [ex_all23] at HCA
  have HCS := Lib.hid (fun (w : World) => show Calls Try.prog 7 #[.int .i64 255, .int .i64 3] w fun e w' => ∃ g c, e = .returned (.slice (some ⟨g, 0, none⟩) 2 c) ∧ RN w' (some ⟨g, 0, none⟩) 3 (irows [[0, 255, 1], [1, 0, 2]]) ∧ Below w.heap.size w w' by
    have := fspans_any 255 3 (by omega) (by omega) w
    rw [ex_spans23] at this
    refine this.mono ?_
    rintro e w' ⟨v, rfl, hv, hb⟩
    obtain ⟨g, cap, cur, rfl, _⟩ := hv.put (k := 0) (i := 0) (by decide) (by decide)
    exact ⟨g, cap, rfl, hv.rn, hb⟩)
  obtain ⟨X, HX⟩ : ∃ X, Hid (ino23 = X) := ⟨_, Lib.hid rfl⟩
  have HBt := Lib.hid Try.inoBuilt23
  rw [HX.out] at HCA HBt
  generalize hT : bkV exL23 = T at *
  clear hT HX HTL
  go_enter Try.func6, Try.ntmps6
  go_wp2_with (refine wpList_make_bkL rfl _ _ _ _ rfl Try.underlying38 Try.blockInfo _ _ _ _ 16 rfl rfl rfl rfl (by omega) L0 HL0.out ?_)
  apply Stop.go; intro w1 Hg1 Hb1
  have E1 := Lib.hid Hg1.out.1
  clear Hg1 HL0
  go_wp2_with fail
  refine (HP1.out _).mono ?_; rintro e w2 ⟨rfl, hb2⟩
  have Hb2 := Lib.hid (Hb1.out.ext hb2)
  have E2 := Lib.hid (bt E1.out hb2)
  clear hb2 Hb1 E1 HP1
  go_wp2_with (refine wpList_store_bk rfl _ _ _ rfl Try.blockSize w.heap.size 0 rfl P1 rfl HPL.out _ L0 HB0.out (by rw [HN0.out]; omega) Hb2.out ?_)
  apply Stop.go; intro w3 Ho3 Hb3
  have E3 := Lib.hid (bonly E2.out Ho3.out (Nat.le_refl _))
  have HB1 := Lib.hid (HB0.out.set 0 HPL.out)
  rw [HS.out] at Hb3 HB1
  have HR3 := Lib.hid (RK.of_blk HB1.out Hb3.out)
  clear Ho3 Hb2 E2 HB0 HN0 HS Hb3 HB1 HPL He1
  go_wp2_with fail
  refine (HC1.out _ 16 _ HR3.out).mono ?_; rintro e w6 ⟨f, rfl, hb6, hf6⟩
  have HF6 := Lib.hid hf6
  have E6 := Lib.hid (bt E3.out hb6)
  have HCA := Lib.hid (fun w h => HCA.out f w h)
  clear hb6 hf6 HR3 E3 HC1
  go_wp2_with (refine wpList_alloc_row rfl _ rfl _ Try.viewZero ?_)
  apply Stop.go; intro w7 Hg7 Hb7
  go_wp2_with (refine wpList_store_arr rfl _ _ _ rfl _ (vval lay23 f) rfl rfl _ _ Hb7.out Try.viewSize rfl (FV.one HF6.out) ?_)
  apply Stop.go; intro w8 Ho8 Hb8
  have D := Lib.hid (bonly Hg7.out.1 Ho8.out (Nat.le_refl _))
  have HF8 := Lib.hid (HF6.out.below D.out)
  have E8 := Lib.hid (bt E6.out D.out)
  generalize w6.heap.size = gv at *
  clear Hg7 Hb7 Ho8 D HF6 E6
  go_wp2_with fail
  refine (HCS.out _).mono ?_; rintro e w9 ⟨g, c, rfl, hr9, hb9⟩
  have HR9 := Lib.hid hr9
  have HF9 := Lib.hid (HF8.out.below hb9)
  have HV9 := Lib.hid (Hb8.out.ext hb9)
  have E9 := Lib.hid (bt E8.out hb9)
  clear hr9 hb9 HF8 Hb8 E8 HCS
  go_wp2_with (first | refine wpList_load_blk rfl _ _ rfl _ rfl _ _ HV9.out _ Try.underlying34 rfl Try.viewSize ?_ | refine wpList_build_two23 rfl _ _ _ _ _ rfl _ _ rfl rfl _ HBt.out ?_)
  refine (HCA.out _ HF9.out).mono ?_; rintro e wa ⟨Aa, na, ca, rfl, h1, h2, h3, h4, hba⟩
  obtain rfl : 3 = na := h1
  have HRa := Lib.hid (HR9.out.below hba)
  have HBa := Lib.hid h4
  have Ea := Lib.hid (bt E9.out hba)
  clear h2 h3 h4 hba HR9 HF9 HV9 E9 HCA HBt
  go_wp2_with fail
  have hb0 : Blk (wa.alloc (.cells #[.int .u8 0, .int .u8 0, .int .u8 0] 5)) wa.heap.size 5 (bcells [0, 0, 0]) := Blk.new wa _ _
  have hd0 : Below wa.heap.size wa (wa.alloc (.cells #[.int .u8 0, .int .u8 0, .int .u8 0] 5)) := (Below.refl _ _).alloc (Nat.le_refl _) _
  refine (same_any Aa 3 ca [0, 0, 0] rfl _ 3 3 [0, 0, 0] rfl (by decide) (by decide) _ (HBa.out.below hd0) (RB.of_blk0 hb0)).mono ?_; rintro e wb ⟨rfl, mb, rfl⟩
  rw [show decide (([0, 0, 0] : List UInt8) = [0, 0, 0]) = true from rfl]
  have hdb := bt hd0 (bdrew _ mb)
  obtain ⟨wb, hwb⟩ : ∃ x, (wa.alloc (.cells #[.int .u8 0, .int .u8 0, .int .u8 0] 5)).drewN mb = x := ⟨_, rfl⟩
  rw [hwb] at hdb ⊢
  have hrb := HRa.out.below hdb
  have HC0 := Lib.hid (hrb.row (k := 0) (r := ivals [0, 255, 1]) rfl rfl)
  have HC3 := Lib.hid (hrb.row (k := 1) (r := ivals [1, 0, 2]) rfl rfl)
  have Eb := Lib.hid (bt Ea.out hdb)
  clear hb0 hd0 hdb hrb hwb HRa HBa Ea
  go_wp2_with (first | refine wpList_load_cellsA rfl _ _ rfl ⟨g, 0, none⟩ rfl _ _ Try.underlying25 (ivals [0, 255, 1]) Try.spanSize HC0.out ?_ | refine wpList_load_cellsA rfl _ _ rfl ⟨g, 3, none⟩ rfl _ _ Try.underlying25 (ivals [1, 0, 2]) Try.spanSize HC3.out ?_ | refine wpList_eql_agg rfl _ _ _ _ _ rfl (by kernel_rfl) _ _ rfl rfl _ (run_eql_spn [0, 255, 1] [0, 255, 1] rfl rfl _) ?_ | refine wpList_eql_agg rfl _ _ _ _ _ rfl (by kernel_rfl) _ _ rfl rfl _ (run_eql_spn [1, 0, 2] [1, 0, 2] rfl rfl _) ?_)
  go_ret
  exact ⟨rfl, Eb.out⟩

end Go.Proofs.Ytfhghcodhacneaa
