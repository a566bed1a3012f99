/-
  Contracts of view's On and Of, and of the functions that they make.
-/
import Derived.Test.YtkakihbfhmiabaaGreatGrAN
import Derived.Test.YtkakihbfhmiabaaGreatGrAS
namespace Go.Proofs.YtkakihbfhmiabaaGreat
open Go.RowKit
set_option maxRecDepth 10000

section
variable {P : Program} {ops : Array Oper} {rest : List Oper} {o : Oper} {a : Act} {w : World} {Q : Exit → Act → World → Prop}
theorem wpList_build_two21 (hgd : Region.wanted o (yielded ops a.tmps) = true) (t : TypeId) (x y : Operand) (ho : o.op = .build t #[(0, x), (1, y)]) (v u : Value) (hx : a.eval x = v) (hy : a.eval y = u) (cs : Array Value) (hb : P.built t [(0, v), (1, u)] = some cs)
    (h : wpList P ops Q rest (a.put o.dst (.agg cs)) w) : wpList P ops Q (o :: rest) a w := by
  refine wpList_wanted hgd fun K hK => ?_
  have hr : (Instr.build t #[(0, v), (1, u)]).run P w = .ok (.agg cs) w := run_build w t #[(0, v), (1, u)] cs hb
  unfold Oper.wp execOp
  simp only [ho, Sem.run_bind, List.map_toArray, List.map_cons, List.map_nil, hx, hy, hr, Result.andThen_ok]
  exact hK _ _ h
end
theorem Tryz.viewBuilt (l : Lay14) (F : Fn) (a b : Array Value) : Tryz.prog.built 44 [(0, .agg l.val), (1, .func F a b)] = some (vval l (.func F a b)) := by kernel_rfl
theorem Tryz.enterOn1 (args : Array Value) (w : World) : (callFunc 61 args).run Tryz.prog w = .ok (.enter 61 args) w := by
  simp [go_sem]
set_option maxHeartbeats 1600000 in
theorem von1_any (R : World → Prop) (hR : ∀ a b, R a → Below a.heap.size a b → R b) (get : Value) (T : Int → List UInt8) (g : Nat) (no : Int) (w : World) (hg : w.cell? ⟨g, 0, none⟩ = some get) (hf : FGR R get T) (hw : R w) :
    Calls Tryz.prog 61 #[.int .i64 no, .pointer (some ⟨g, 0, none⟩)] w fun e w' => e = .returned (.agg (bcells (T no))) ∧ Below w.heap.size w w' := by
  have HzL : Hid ((zeros 256).length = 256) := Lib.hid (zeros_len _)
  have hnil := fun w' : World => run_eql_nil_func (P := Tryz.prog) w' _ Tryz.underlying85
  rcases hf with ⟨rfl, hz⟩ | ⟨F, p, rfl, hcf, hF⟩ | ⟨F, p, q, rfl, hcf, hF⟩
  · have H0 := Lib.hid (hz no)
    go_enter Tryz.func61, Tryz.ntmps61
    go_wp2_with (refine wpList_alloc_row rfl _ rfl _ Tryz.blockZero ?_)
    apply Stop.go; intro w1 Hg1 Hb1
    have hg1 : w1.cell? ⟨g, 0, none⟩ = some .nilFunc := by rw [Hg1.out.1.cell (block_lt_of_cell hg)]; exact hg
    go_wp2_with (first | refine wpList_build_zero rfl _ rfl _ Tryz.blockZero _ _ Tryz.underlying82 Tryz.byteSize ?_ | refine wpList_store_arr rfl _ _ _ rfl _ _ rfl rfl _ _ Hb1.out (Tryz.blockFits HzL.out) rfl (oneCell_bcells _) ?_)
    apply Stop.go; intro wc Hoc Hbc
    go_wp2_with ((with_reducible show bodyPost _ _ _ _ _ _); refine bodyPost_cell rfl _ rfl _ _ Hbc.out _ _ Tryz.underlying82 (Tryz.blockFits HzL.out) rfl ?_)
    apply Stop.go
    rw [H0.out]
    exact ⟨rfl, bonly Hg1.out.1 Hoc.out (Nat.le_refl _)⟩
  · have hfun := fun w' : World => run_eql_func_nil (P := Tryz.prog) w' _ (.func F) #[] #[.pointer (some p)] Tryz.underlying85
    have HF := Lib.hid hF
    clear hF
    go_enter Tryz.func61, Tryz.ntmps61
    go_wp2_with (refine wpList_alloc_row rfl _ rfl _ Tryz.blockZero ?_)
    apply Stop.go; intro w1 Hg1 Hb1
    have hg1 : w1.cell? ⟨g, 0, none⟩ = some (.func (.func F) #[] #[.pointer (some p)]) := by rw [Hg1.out.1.cell (block_lt_of_cell hg)]; exact hg
    have hw1 := hR _ _ hw Hg1.out.1
    go_wp2_with fail
    refine (HF.out _ no hw1).mono ?_; rintro e w2 ⟨X, er, rfl, hX, hb2, hY, hN⟩
    have HX := Lib.hid hX
    have HY := Lib.hid hY
    have HN := Lib.hid hN
    have HR2 := Lib.hid (Hb1.out.ext hb2)
    have E2 := Lib.hid (bt Hg1.out.1 hb2)
    clear hX hY hN hb2 Hg1 Hb1 hg1
    go_wp2_with (refine wpList_alloc_row rfl _ rfl _ Tryz.blockZero ?_)
    apply Stop.go; intro w3 Hg3 Hb3
    go_wp2_with (refine wpList_store_arr rfl _ _ _ rfl _ _ rfl rfl _ _ Hb3.out (Tryz.blockFits HX.out) (by rw [bcells_size, bcells_size, HX.out, HzL.out]) (oneCell_bcells _) ?_)
    apply Stop.go; intro w4 Ho4 Hb4
    have D4 := Lib.hid (bonly Hg3.out.1 Ho4.out (Nat.le_refl _))
    have HR4 := Lib.hid (HR2.out.ext D4.out)
    have E4 := Lib.hid (bt E2.out D4.out)
    generalize w2.heap.size = g2 at *
    clear Hg3 Hb3 Ho4 D4 HR2 E2
    by_cases he : er = 0
    · subst he
      have H0 := Lib.hid (HY.out rfl)
      clear HN HY
      go_wp2_with (first | refine wpList_load_arr rfl _ _ rfl _ rfl _ _ Hb4.out _ _ Tryz.underlying82 (Tryz.blockFits HX.out) ?_ | refine wpList_store_arr rfl _ _ _ rfl _ _ rfl rfl _ _ HR4.out (Tryz.blockFits HX.out) (by rw [bcells_size, bcells_size, HX.out, HzL.out]) (oneCell_bcells _) ?_)
      apply Stop.go; intro wc Hoc Hbc
      go_wp2_with ((with_reducible show bodyPost _ _ _ _ _ _); refine bodyPost_cell rfl _ rfl _ _ Hbc.out _ _ Tryz.underlying82 (Tryz.blockFits HX.out) rfl ?_)
      apply Stop.go
      rw [← H0.out]
      exact ⟨rfl, bonly E4.out Hoc.out (Nat.le_refl _)⟩
    · have H0 := Lib.hid (HN.out he)
      have d0 : (er != 0) = true := by simpa using he
      clear HN HY he
      go_wp2_with (first | refine wpList_build_zero rfl _ rfl _ Tryz.blockZero _ _ Tryz.underlying82 Tryz.byteSize ?_ | refine wpList_store_arr rfl _ _ _ rfl _ _ rfl rfl _ _ HR4.out (Tryz.blockFits HzL.out) rfl (oneCell_bcells _) ?_)
      apply Stop.go; intro wc Hoc Hbc
      go_wp2_with ((with_reducible show bodyPost _ _ _ _ _ _); refine bodyPost_cell rfl _ rfl _ _ Hbc.out _ _ Tryz.underlying82 (Tryz.blockFits HzL.out) rfl ?_)
      apply Stop.go
      rw [H0.out]
      exact ⟨rfl, bonly E4.out Hoc.out (Nat.le_refl _)⟩
  · have hfun := fun w' : World => run_eql_func_nil (P := Tryz.prog) w' _ (.func F) #[] #[.pointer (some p), .pointer (some q)] Tryz.underlying85
    have HF := Lib.hid hF
    clear hF
    go_enter Tryz.func61, Tryz.ntmps61
    go_wp2_with (refine wpList_alloc_row rfl _ rfl _ Tryz.blockZero ?_)
    apply Stop.go; intro w1 Hg1 Hb1
    have hg1 : w1.cell? ⟨g, 0, none⟩ = some (.func (.func F) #[] #[.pointer (some p), .pointer (some q)]) := by rw [Hg1.out.1.cell (block_lt_of_cell hg)]; exact hg
    have hw1 := hR _ _ hw Hg1.out.1
    go_wp2_with fail
    refine (HF.out _ no hw1).mono ?_; rintro e w2 ⟨X, er, rfl, hX, hb2, hY, hN⟩
    have HX := Lib.hid hX
    have HY := Lib.hid hY
    have HN := Lib.hid hN
    have HR2 := Lib.hid (Hb1.out.ext hb2)
    have E2 := Lib.hid (bt Hg1.out.1 hb2)
    clear hX hY hN hb2 Hg1 Hb1 hg1
    go_wp2_with (refine wpList_alloc_row rfl _ rfl _ Tryz.blockZero ?_)
    apply Stop.go; intro w3 Hg3 Hb3
    go_wp2_with (refine wpList_store_arr rfl _ _ _ rfl _ _ rfl rfl _ _ Hb3.out (Tryz.blockFits HX.out) (by rw [bcells_size, bcells_size, HX.out, HzL.out]) (oneCell_bcells _) ?_)
    apply Stop.go; intro w4 Ho4 Hb4
    have D4 := Lib.hid (bonly Hg3.out.1 Ho4.out (Nat.le_refl _))
    have HR4 := Lib.hid (HR2.out.ext D4.out)
    have E4 := Lib.hid (bt E2.out D4.out)
    generalize w2.heap.size = g2 at *
    clear Hg3 Hb3 Ho4 D4 HR2 E2
    by_cases he : er = 0
    · subst he
      have H0 := Lib.hid (HY.out rfl)
      clear HN HY
      go_wp2_with (first | refine wpList_load_arr rfl _ _ rfl _ rfl _ _ Hb4.out _ _ Tryz.underlying82 (Tryz.blockFits HX.out) ?_ | refine wpList_store_arr rfl _ _ _ rfl _ _ rfl rfl _ _ HR4.out (Tryz.blockFits HX.out) (by rw [bcells_size, bcells_size, HX.out, HzL.out]) (oneCell_bcells _) ?_)
      apply Stop.go; intro wc Hoc Hbc
      go_wp2_with ((with_reducible show bodyPost _ _ _ _ _ _); refine bodyPost_cell rfl _ rfl _ _ Hbc.out _ _ Tryz.underlying82 (Tryz.blockFits HX.out) rfl ?_)
      apply Stop.go
      rw [← H0.out]
      exact ⟨rfl, bonly E4.out Hoc.out (Nat.le_refl _)⟩
    · have H0 := Lib.hid (HN.out he)
      have d0 : (er != 0) = true := by simpa using he
      clear HN HY he
      go_wp2_with (first | refine wpList_build_zero rfl _ rfl _ Tryz.blockZero _ _ Tryz.underlying82 Tryz.byteSize ?_ | refine wpList_store_arr rfl _ _ _ rfl _ _ rfl rfl _ _ HR4.out (Tryz.blockFits HzL.out) rfl (oneCell_bcells _) ?_)
      apply Stop.go; intro wc Hoc Hbc
      go_wp2_with ((with_reducible show bodyPost _ _ _ _ _ _); refine bodyPost_cell rfl _ rfl _ _ Hbc.out _ _ Tryz.underlying82 (Tryz.blockFits HzL.out) rfl ?_)
      apply Stop.go
      rw [H0.out]
      exact ⟨rfl, bonly E4.out Hoc.out (Nat.le_refl _)⟩
set_option maxHeartbeats 1600000 in
/-- On: the view's function may be asked in each world of which R holds, and in which the function that it was given stands. -/
theorem vonR_any (R : World → Prop) (hR : ∀ a b, R a → Below a.heap.size a b → R b) (l : Lay14) (get : Value) (T : Int → List UInt8) (w : World) (hf : FGR R get T) :
    Calls Tryz.prog 36 #[.agg l.val, get] w fun e w' => ∃ f g, e = .returned (.agg (vval l f)) ∧ Below w.heap.size w w' ∧ w.heap.size ≤ g ∧ Blk w' g 85 #[get] ∧ FVR (fun wx => R wx ∧ Blk wx g 85 #[get]) l f T := by
  have HF := Lib.hid hf
  have hor : get = .nilFunc ∨ (∃ (F : Nat) (p : Addr), get = .func (.func F) #[] #[.pointer (some p)]) ∨ ∃ (F : Nat) (p q : Addr), get = .func (.func F) #[] #[.pointer (some p), .pointer (some q)] := by
    rcases hf with ⟨h, _⟩ | ⟨F, p, h, _⟩ | ⟨F, p, q, h, _⟩
    · exact Or.inl h
    · exact Or.inr (Or.inl ⟨F, p, h⟩)
    · exact Or.inr (Or.inr ⟨F, p, q, h⟩)
  clear hf
  rcases hor with rfl | ⟨F, p, rfl⟩ | ⟨F, p, q, rfl⟩
  · go_enter Tryz.func36, Tryz.ntmps36
    go_wp2_with (refine wpList_box_row rfl _ _ rfl _ rfl ?_)
    apply Stop.go; intro w1 Hg1 Hb1
    go_wp2_with (refine wpList_alloc_row rfl _ rfl _ Tryz.viewZero ?_)
    apply Stop.go; intro w2 Hg2 Hb2
    have hx : Blk (w1.alloc (.cells #[.nilFunc] 85)) w1.heap.size 85 #[.nilFunc] := Blk.new w1 _ _
    have hb0 : Below w1.heap.size w1 (w1.alloc (.cells #[.nilFunc] 85)) := (Below.refl _ _).alloc (Nat.le_refl _) _
    have HG2 := Lib.hid (hx.ext Hg2.out.1)
    have HL2 := Lib.hid (Hb1.out.ext (bt hb0 Hg2.out.1))
    have E2 := Lib.hid (bt Hg1.out.1 (bt hb0 Hg2.out.1))
    have z2 := Lib.hid (show w.heap.size < w1.heap.size by have := Hg1.out.2; omega)
    generalize w1.heap.size = g1 at *
    clear Hg1 Hb1 Hg2 hx hb0
    go_wp2_with (first | refine wpList_load_blk rfl _ _ rfl _ rfl _ _ HL2.out _ Tryz.underlying41 rfl Tryz.laySize ?_ | refine wpList_build_two21 rfl _ _ _ rfl _ _ rfl rfl _ (Tryz.viewBuilt l _ _ _) ?_ | refine wpList_store_arr rfl _ _ _ rfl _ (vval l (.func (.func 61) #[] #[.pointer (some ⟨g1, 0, none⟩)])) rfl rfl _ _ Hb2.out Tryz.viewSize rfl (by simp [vval, Value.oneCell']) ?_)
    apply Stop.go; intro wc Hoc Hbc
    have HGc := Lib.hid (HG2.out.only Hoc.out (by omega))
    have Ec := Lib.hid (bonly E2.out Hoc.out (by have := z2.out; omega))
    have HFc := Lib.hid (show FVR (fun wx => R wx ∧ Blk wx g1 85 #[.nilFunc]) l (.func (.func 61) #[] #[.pointer (some ⟨g1, 0, none⟩)]) T from Or.inr ⟨_, _, rfl, Tryz.enterOn1, fun w' no hb _ _ =>
      von1_any R hR _ T g1 no w' (hb.2.cell 0) HF.out hb.1⟩)
    go_wp2_with ((with_reducible show bodyPost _ _ _ _ _ _); refine bodyPost_struct rfl _ rfl _ _ Hbc.out _ Tryz.underlying44 rfl Tryz.viewSize rfl ?_)
    apply Stop.go
    exact ⟨_, g1, rfl, Ec.out, by have := z2.out; omega, HGc.out, HFc.out⟩
  · go_enter Tryz.func36, Tryz.ntmps36
    go_wp2_with (refine wpList_box_row rfl _ _ rfl _ rfl ?_)
    apply Stop.go; intro w1 Hg1 Hb1
    go_wp2_with (refine wpList_alloc_row rfl _ rfl _ Tryz.viewZero ?_)
    apply Stop.go; intro w2 Hg2 Hb2
    have hx : Blk (w1.alloc (.cells #[.func (.func F) #[] #[.pointer (some p)]] 85)) w1.heap.size 85 #[.func (.func F) #[] #[.pointer (some p)]] := Blk.new w1 _ _
    have hb0 : Below w1.heap.size w1 (w1.alloc (.cells #[.func (.func F) #[] #[.pointer (some p)]] 85)) := (Below.refl _ _).alloc (Nat.le_refl _) _
    have HG2 := Lib.hid (hx.ext Hg2.out.1)
    have HL2 := Lib.hid (Hb1.out.ext (bt hb0 Hg2.out.1))
    have E2 := Lib.hid (bt Hg1.out.1 (bt hb0 Hg2.out.1))
    have z2 := Lib.hid (show w.heap.size < w1.heap.size by have := Hg1.out.2; omega)
    generalize w1.heap.size = g1 at *
    clear Hg1 Hb1 Hg2 hx hb0
    go_wp2_with (first | refine wpList_load_blk rfl _ _ rfl _ rfl _ _ HL2.out _ Tryz.underlying41 rfl Tryz.laySize ?_ | refine wpList_build_two21 rfl _ _ _ rfl _ _ rfl rfl _ (Tryz.viewBuilt l _ _ _) ?_ | refine wpList_store_arr rfl _ _ _ rfl _ (vval l (.func (.func 61) #[] #[.pointer (some ⟨g1, 0, none⟩)])) rfl rfl _ _ Hb2.out Tryz.viewSize rfl (by simp [vval, Value.oneCell']) ?_)
    apply Stop.go; intro wc Hoc Hbc
    have HGc := Lib.hid (HG2.out.only Hoc.out (by omega))
    have Ec := Lib.hid (bonly E2.out Hoc.out (by have := z2.out; omega))
    have HFc := Lib.hid (show FVR (fun wx => R wx ∧ Blk wx g1 85 #[.func (.func F) #[] #[.pointer (some p)]]) l (.func (.func 61) #[] #[.pointer (some ⟨g1, 0, none⟩)]) T from Or.inr ⟨_, _, rfl, Tryz.enterOn1, fun w' no hb _ _ =>
      von1_any R hR _ T g1 no w' (hb.2.cell 0) HF.out hb.1⟩)
    go_wp2_with ((with_reducible show bodyPost _ _ _ _ _ _); refine bodyPost_struct rfl _ rfl _ _ Hbc.out _ Tryz.underlying44 rfl Tryz.viewSize rfl ?_)
    apply Stop.go
    exact ⟨_, g1, rfl, Ec.out, by have := z2.out; omega, HGc.out, HFc.out⟩
  · go_enter Tryz.func36, Tryz.ntmps36
    go_wp2_with (refine wpList_box_row rfl _ _ rfl _ rfl ?_)
    apply Stop.go; intro w1 Hg1 Hb1
    go_wp2_with (refine wpList_alloc_row rfl _ rfl _ Tryz.viewZero ?_)
    apply Stop.go; intro w2 Hg2 Hb2
    have hx : Blk (w1.alloc (.cells #[.func (.func F) #[] #[.pointer (some p), .pointer (some q)]] 85)) w1.heap.size 85 #[.func (.func F) #[] #[.pointer (some p), .pointer (some q)]] := Blk.new w1 _ _
    have hb0 : Below w1.heap.size w1 (w1.alloc (.cells #[.func (.func F) #[] #[.pointer (some p), .pointer (some q)]] 85)) := (Below.refl _ _).alloc (Nat.le_refl _) _
    have HG2 := Lib.hid (hx.ext Hg2.out.1)
    have HL2 := Lib.hid (Hb1.out.ext (bt hb0 Hg2.out.1))
    have E2 := Lib.hid (bt Hg1.out.1 (bt hb0 Hg2.out.1))
    have z2 := Lib.hid (show w.heap.size < w1.heap.size by have := Hg1.out.2; omega)
    generalize w1.heap.size = g1 at *
    clear Hg1 Hb1 Hg2 hx hb0
    go_wp2_with (first | refine wpList_load_blk rfl _ _ rfl _ rfl _ _ HL2.out _ Tryz.underlying41 rfl Tryz.laySize ?_ | refine wpList_build_two21 rfl _ _ _ rfl _ _ rfl rfl _ (Tryz.viewBuilt l _ _ _) ?_ | refine wpList_store_arr rfl _ _ _ rfl _ (vval l (.func (.func 61) #[] #[.pointer (some ⟨g1, 0, none⟩)])) rfl rfl _ _ Hb2.out Tryz.viewSize rfl (by simp [vval, Value.oneCell']) ?_)
    apply Stop.go; intro wc Hoc Hbc
    have HGc := Lib.hid (HG2.out.only Hoc.out (by omega))
    have Ec := Lib.hid (bonly E2.out Hoc.out (by have := z2.out; omega))
    have HFc := Lib.hid (show FVR (fun wx => R wx ∧ Blk wx g1 85 #[.func (.func F) #[] #[.pointer (some p), .pointer (some q)]]) l (.func (.func 61) #[] #[.pointer (some ⟨g1, 0, none⟩)]) T from Or.inr ⟨_, _, rfl, Tryz.enterOn1, fun w' no hb _ _ =>
      von1_any R hR _ T g1 no w' (hb.2.cell 0) HF.out hb.1⟩)
    go_wp2_with ((with_reducible show bodyPost _ _ _ _ _ _); refine bodyPost_struct rfl _ rfl _ _ Hbc.out _ Tryz.underlying44 rfl Tryz.viewSize rfl ?_)
    apply Stop.go
    exact ⟨_, g1, rfl, Ec.out, by have := z2.out; omega, HGc.out, HFc.out⟩
theorem von_any (l : Lay14) (get : Value) (T : Int → List UInt8) (w : World) (hf : FG w get T) :
    Calls Tryz.prog 36 #[.agg l.val, get] w fun e w' => ∃ f, e = .returned (.agg (vval l f)) ∧ Below w.heap.size w w' ∧ FV w' l f T := by
  refine (vonR_any (fun w' => Below w.heap.size w w') (fun _ _ h k => bt h k) l get T w hf).mono ?_
  rintro e w' ⟨f, g, he, hb, _, hg, hv⟩
  exact ⟨f, he, hb, FVR.weak hv fun wx hx => ⟨bt hb hx, hg.ext hx⟩⟩

theorem Tryz.enterOf1 (args : Array Value) (w : World) : (callFunc 37 args).run Tryz.prog w = .ok (.enter 37 args) w := by
  simp [go_sem]
set_option maxHeartbeats 1600000 in
theorem vof1_any (A : Addr) (n c : Nat) (L : List (List UInt8)) (hn : L.length = n) (hL : Bks L) (g : Nat) (no : Int) (w : World) (hg : w.cell? ⟨g, 0, none⟩ = some (.slice (some A) n c)) (hr : RK w (some A) L) :
    Calls Tryz.prog 37 #[.int .i64 no, .pointer (some ⟨g, 0, none⟩)] w fun e w' => ∃ (X : List UInt8) (er : Int), e = .returned (.tuple #[.agg (bcells X), .int .i64 er]) ∧ X.length = 256 ∧ Below w.heap.size w w' ∧ (er = 0 → X = bkV L no) ∧ (er ≠ 0 → bkV L no = zeros 256) := by
  have HL := Lib.hid hL
  have HzL : Hid ((zeros 256).length = 256) := Lib.hid (zeros_len _)
  by_cases h : no < 0 ∨ (n : Int) ≤ no
  · have H0 := Lib.hid (show bkV L no = zeros 256 from bkV_off (by omega))
    by_cases h0 : no < 0
    focus (
      have d0 : decide (no < 0) = true := decide_eq_true h0
      clear h h0 hn hL hr)
    rotate_left
    focus (
      have d0 : decide (no < 0) = false := decide_eq_false h0
      have d1 : decide ((n : Int) ≤ no) = true := decide_eq_true (by omega)
      clear h h0 hn hL hr)
    all_goals
      go_enter Tryz.func37, Tryz.ntmps37
      go_wp2_with (refine wpList_alloc_row rfl _ rfl _ Tryz.blockZero ?_)
      apply Stop.go; intro w1 Hg1 Hb1
      have hg1 : w1.cell? ⟨g, 0, none⟩ = some (.slice (some A) n c) := by rw [Hg1.out.1.cell (block_lt_of_cell hg)]; exact hg
      go_wp2_with (first | refine wpList_build_zero rfl _ rfl _ Tryz.blockZero _ _ Tryz.underlying82 Tryz.byteSize ?_ | refine wpList_store_arr rfl _ _ _ rfl _ _ rfl rfl _ _ Hb1.out (Tryz.blockFits HzL.out) rfl (oneCell_bcells _) ?_)
      apply Stop.go; intro wc Hoc Hbc
      go_wp2_with ((with_reducible show bodyPost _ _ _ _ _ _); refine bodyPost_cell_tmp rfl _ rfl _ _ Hbc.out _ _ Tryz.underlying82 (Tryz.blockFits HzL.out) rfl _ rfl ?_)
      apply Stop.go
      exact ⟨_, 2, ⟨rfl, rfl⟩, HzL.out, bonly Hg1.out.1 Hoc.out (Nat.le_refl _), fun h => absurd h (by omega), fun _ => H0.out⟩
  · obtain ⟨q, rfl⟩ := Int.eq_ofNat_of_zero_le (show 0 ≤ no by omega)
    have hqL : q < L.length := by omega
    have H0 := Lib.hid (bkV_at hqL)
    have HX := Lib.hid (hL.get hqL)
    have Hr := Lib.hid hr
    have d0 : decide ((q : Int) < 0) = false := decide_eq_false (by omega)
    have d1 : decide ((n : Int) ≤ (q : Int)) = false := decide_eq_false (by omega)
    have d2 : decide (n ≤ q) = false := decide_eq_false (by omega)
    have p0 : (0 : Int) ≤ (q : Int) := by omega
    have p1 : (q : Int) < (n : Int) := by omega
    clear hL hr hn h
    go_enter Tryz.func37, Tryz.ntmps37
    go_wp2_with (refine wpList_alloc_row rfl _ rfl _ Tryz.blockZero ?_)
    apply Stop.go; intro w1 Hg1 Hb1
    have hg1 : w1.cell? ⟨g, 0, none⟩ = some (.slice (some A) n c) := by rw [Hg1.out.1.cell (block_lt_of_cell hg)]; exact hg
    have HR1 := Lib.hid (Hr.out.below Hg1.out.1)
    go_wp2_with (first | refine wpList_load_bk rfl _ _ rfl A q rfl L HL.out hqL HR1.out _ Tryz.underlying82 rfl Tryz.blockSize ?_ | refine wpList_store_arr rfl _ _ _ rfl _ _ rfl rfl _ _ Hb1.out (Tryz.blockFits HX.out) (by rw [bcells_size, bcells_size, HX.out, HzL.out]) (oneCell_bcells _) ?_)
    apply Stop.go; intro wc Hoc Hbc
    go_wp2_with ((with_reducible show bodyPost _ _ _ _ _ _); refine bodyPost_cell_tmp rfl _ rfl _ _ Hbc.out _ _ Tryz.underlying82 (Tryz.blockFits HX.out) rfl _ rfl ?_)
    apply Stop.go
    exact ⟨L[q], 0, ⟨rfl, rfl⟩, HX.out, bonly Hg1.out.1 Hoc.out (Nat.le_refl _), fun _ => H0.out.symm, fun h => absurd rfl h⟩
set_option maxHeartbeats 1600000 in
theorem vof_any (A : Option Addr) (n cap : Nat) (L : List (List UInt8)) (hn : L.length = n) (hL : Bks L) (hm : n ≤ 1099511627) (w : World) (hr : RK w A L) :
    Calls Tryz.prog 15 #[.slice A n cap] w fun e w' => ∃ f, e = .returned (.tuple #[.agg (vval (layV L) f), .int .i64 (okSup (layW L).isSome)]) ∧ Below w.heap.size w w' ∧ FV w' (layV L) f (bkV L) := by
  have Hn := Lib.hid hn
  have HL := Lib.hid hL
  have Hr := Lib.hid hr
  have HZV : Hid ((vval zero14 .nilFunc).all (·.oneCell') = true) := Lib.hid (by simp [vval, Value.oneCell'])
  by_cases h0 : n = 0
  · have H0 := Lib.hid (show layV L = zero14 ∧ layW L = none from ⟨layV_none (layW_nil (hn.trans h0)), layW_nil (hn.trans h0)⟩)
    have d0 : ((n : Int) == 0) = true := by rw [h0]; rfl
    have d1 : (n == 0) = true := by rw [h0]; rfl
    clear hn hL hr h0
    go_enter Tryz.func15, Tryz.ntmps15
    go_wp2_with (refine wpList_alloc_row rfl _ rfl _ Tryz.viewZero ?_)
    apply Stop.go; intro w1 Hg1 Hb1
    have E1 := Lib.hid Hg1.out.1
    clear Hg1
    go_wp2_with (refine wpList_store_arr rfl _ _ _ rfl _ (vval zero14 .nilFunc) rfl rfl _ _ Hb1.out Tryz.viewSize rfl HZV.out ?_)
    apply Stop.go; intro wc Hoc Hbc
    go_wp2_with ((with_reducible show bodyPost _ _ _ _ _ _); refine bodyPost_struct_tmp rfl _ rfl _ _ Hbc.out _ Tryz.underlying44 rfl Tryz.viewSize rfl _ rfl ?_)
    apply Stop.go
    rw [H0.out.1, H0.out.2]
    exact ⟨.nilFunc, ⟨rfl, rfl⟩, bonly E1.out Hoc.out (Nat.le_refl _), FV.nil_⟩
  · obtain ⟨ad, rfl⟩ := hr.addr (by omega)
    have hn0 : 0 < n := by omega
    have d0 : ((n : Int) == 0) = false := by simp; omega
    have d1 : (n == 0) = false := by simp; omega
    have p0 : (0 : Int) < (n : Int) := by omega
    have hL0 : 0 < L.length := by omega
    have hX : bkV L 0 = L[0] := bkV_at (k := 0) hL0
    have HX := Lib.hid (show L[0].length = 256 from hL.get hL0)
    have HY1 := Lib.hid (fun h => layW_none (L := L) h)
    have HY2 := Lib.hid (fun l (h : get14 (bkV L 0) = some l) h' => layW_other h h')
    have HY3 := Lib.hid (fun l (h : get14 (bkV L 0) = some l) h' => layW_some (by omega) h h')
    have HK := Lib.hid (fun (h5 : n ≤ 512) w' h' => cloneK_any ad n cap L hL hn hn0 h5 w' h')
    rw [hX] at HY1 HY2 HY3
    clear hn hL hr h0 hX
    go_enter Tryz.func15, Tryz.ntmps15
    go_wp2_with (refine wpList_alloc_row rfl _ rfl _ Tryz.viewZero ?_)
    apply Stop.go; intro w1 Hg1 Hb1
    have E1 := Lib.hid Hg1.out.1
    clear Hg1
    have HR1 := Lib.hid (Hr.out.below E1.out)
    go_wp2_with (refine wpList_load_bk rfl _ _ rfl ad 0 (by rw [Nat.zero_mul, add_nought]; rfl) L HL.out hL0 HR1.out _ Tryz.underlying82 rfl Tryz.blockSize ?_)
    refine (get14c_any L[0] HX.out _).mono ?_; rintro e w2 ⟨rfl, hb2⟩
    have HB2 := Lib.hid (Hb1.out.ext hb2)
    have HR2 := Lib.hid (HR1.out.below hb2)
    have E2 := Lib.hid (bt E1.out hb2)
    have HGT : Hid (got14 L[0] = (get14 L[0]).getD zero14) := Lib.hid rfl
    rw [HGT.out]
    clear hb2 Hb1 HR1 E1 HGT HX
    generalize hgt : get14 L[0] = gt at *
    go_wp2_with (refine wpList_alloc_row rfl _ rfl _ Tryz.layZero ?_)
    apply Stop.go; intro w3 Hg3 Hb3
    go_wp2_with (refine wpList_store_arr rfl _ _ _ rfl _ (gt.getD zero14).val rfl rfl _ _ Hb3.out Tryz.laySize rfl (val_one _) ?_)
    apply Stop.go; intro w4 Ho4 Hb4
    have D4 := Lib.hid (bonly Hg3.out.1 Ho4.out (Nat.le_refl _))
    have HB4 := Lib.hid (HB2.out.ext D4.out)
    have HR4 := Lib.hid (HR2.out.below D4.out)
    have E4 := Lib.hid (bt E2.out D4.out)
    generalize w2.heap.size = g2 at *
    clear Hg3 Hb3 Ho4 D4 HB2 HR2 E2
    cases gt with
    | none =>
      have H0 := Lib.hid (show layV L = zero14 ∧ layW L = none from ⟨layV_none (HY1.out rfl), HY1.out rfl⟩)
      have e13 : okSup (none : Option Lay14).isSome = 13 := rfl
      rw [e13]
      clear HY1 HY2 HY3 HK hgt e13
      go_wp2_with (refine wpList_store_arr rfl _ _ _ rfl _ (vval zero14 .nilFunc) rfl rfl _ _ HB4.out Tryz.viewSize rfl HZV.out ?_)
      apply Stop.go; intro wc Hoc Hbc
      go_wp2_with ((with_reducible show bodyPost _ _ _ _ _ _); refine bodyPost_struct_tmp rfl _ rfl _ _ Hbc.out _ Tryz.underlying44 rfl Tryz.viewSize rfl _ rfl ?_)
      apply Stop.go
      rw [H0.out.1, H0.out.2]
      exact ⟨.nilFunc, ⟨rfl, rfl⟩, bonly E4.out Hoc.out (Nat.le_refl _), FV.nil_⟩
    | some l =>
      have Hb4 : Hid (Blk w4 g2 41 l.val) := Hb4
      have c0 : w4.cell? ⟨g2, 0, none⟩ = some (.int .i64 l.blocks) := Hb4.out.cell 0
      have e13 : okSup (some l).isSome = 0 := rfl
      rw [e13]
      by_cases hbn : l.blocks = (n : Int)
      · have hlw := HY3.out l rfl (by rw [Hn.out]; exact hbn)
        have H0 := Lib.hid (show layV L = l ∧ layW L = some l from ⟨layV_some hlw, hlw⟩)
        have d2 : (l.blocks != (n : Int)) = false := by rw [hbn]; simp
        have HK := Lib.hid (HK.out (by have := Lay14.may_iff.1 (layW_may hlw); omega))
        clear HY1 HY2 HY3 hgt hbn e13 hlw
        go_wp2_with fail
        refine (HK.out _ HR4.out).mono ?_; rintro e w5 ⟨g5, c5, rfl, hg5, hg5', hr5, hc5, hc5', hb5⟩
        have HB5 := Lib.hid (HB4.out.ext hb5)
        have HL5 := Lib.hid (Hb4.out.ext hb5)
        have E5 := Lib.hid (bt E4.out hb5)
        have HR5 := Lib.hid hr5
        have Z5 := Lib.hid (show w.heap.size < g5 by have := HB4.out.lt; omega)
        have Z5' := Lib.hid hg5'
        clear hg5 hg5' hr5 hc5 hc5' hb5 HB4 Hb4 HR4 E4 c0 HK
        go_upto_region 7 with fail
        have hbn : Below w5.heap.size w5 (w5.alloc (.cells #[.slice (some ⟨g5, 0, none⟩) n c5] 48)) := (Below.refl _ _).alloc (Nat.le_refl _) _
        have hk6 : Blk (w5.alloc (.cells #[.slice (some ⟨g5, 0, none⟩) n c5] 48)) w5.heap.size 48 #[.slice (some ⟨g5, 0, none⟩) n c5] := Blk.new w5 _ _
        generalize w5.alloc (.cells #[.slice (some ⟨g5, 0, none⟩) n c5] 48) = w6 at *
        have HB6 := Lib.hid (HB5.out.ext hbn)
        have HL6 := Lib.hid (HL5.out.ext hbn)
        have HR6 := Lib.hid (HR5.out.below hbn)
        have E6 := Lib.hid (bt E5.out hbn)
        have HK6 := Lib.hid hk6
        have Z6 := Lib.hid (show w.heap.size < w5.heap.size by have := Z5.out; have := Z5'.out; omega)
        generalize w5.heap.size = g6 at *
        clear hbn hk6 HB5 HL5 HR5 E5 Z5'
        have HG := Lib.hid (show FGR (fun wx => Blk wx g6 48 #[.slice (some ⟨g5, 0, none⟩) n c5] ∧ RK wx (some ⟨g5, 0, none⟩) L) (.func (.func 37) #[] #[.pointer (some ⟨g6, 0, none⟩)]) (bkV L) from
          Or.inr (Or.inl ⟨_, _, rfl, Tryz.enterOf1, fun w' no h => vof1_any ⟨g5, 0, none⟩ n c5 L Hn.out HL.out g6 no w' (h.1.cell 0) h.2⟩))
        go_wp2_with (refine wpList_load_blk rfl _ _ rfl _ rfl _ _ HL6.out _ Tryz.underlying41 rfl Tryz.laySize ?_)
        refine (vonR_any _ (fun _ _ h k => ⟨h.1.ext k, h.2.below k⟩) l _ (bkV L) _ HG.out).mono ?_; rintro e w7 ⟨f7, g7, rfl, hb7, hg7, hk7, hf7⟩
        have HB7 := Lib.hid (HB6.out.ext hb7)
        have HR7 := Lib.hid (HR6.out.below hb7)
        have HK7 := Lib.hid (HK6.out.ext hb7)
        have E7 := Lib.hid (bt E6.out hb7)
        have HF7 := Lib.hid hf7
        have HC7 := Lib.hid hk7
        have HV7 := Lib.hid (show (vval l f7).all (·.oneCell') = true by
          rcases hf7 with ⟨rfl, _⟩ | ⟨F, p, rfl, _⟩ <;> simp [vval, Value.oneCell'])
        have Z7 := Lib.hid (show w.heap.size < g7 by have := HB6.out.lt; omega)
        clear hb7 hg7 hk7 hf7 HB6 HR6 HK6 E6 HL6 HG
        go_wp2_with (refine wpList_store_arr rfl _ _ _ rfl _ (vval l f7) rfl rfl _ _ HB7.out Tryz.viewSize rfl HV7.out ?_)
        apply Stop.go; intro wc Hoc Hbc
        have Ec := Lib.hid (bonly E7.out Hoc.out (Nat.le_refl _))
        have HKc := Lib.hid (HK7.out.only Hoc.out (by have := Z6.out; omega))
        have HCc := Lib.hid (HC7.out.only Hoc.out (by have := Z7.out; omega))
        have HRc := Lib.hid (HR7.out.same (Hoc.out.block _ (by have := Z5.out; omega)))
        have HFc := Lib.hid (show FV wc l f7 (bkV L) from FVR.weak HF7.out fun wx hx => ⟨⟨HKc.out.ext hx, HRc.out.below hx⟩, HCc.out.ext hx⟩)
        go_wp2_with ((with_reducible show bodyPost _ _ _ _ _ _); refine bodyPost_struct_tmp rfl _ rfl _ _ Hbc.out _ Tryz.underlying44 rfl Tryz.viewSize rfl _ rfl ?_)
        apply Stop.go
        rw [H0.out.1, H0.out.2]
        exact ⟨_, ⟨rfl, rfl⟩, Ec.out, HFc.out⟩
      · have H0 := Lib.hid (show layV L = zero14 ∧ layW L = none by
          have := HY2.out l rfl (by rw [Hn.out]; exact hbn)
          exact ⟨layV_none this, this⟩)
        have d2 : (l.blocks != (n : Int)) = true := by simpa using hbn
        clear HY1 HY2 HY3 HK hgt hbn e13
        go_wp2_with (refine wpList_store_arr rfl _ _ _ rfl _ (vval zero14 .nilFunc) rfl rfl _ _ HB4.out Tryz.viewSize rfl HZV.out ?_)
        apply Stop.go; intro wc Hoc Hbc
        go_wp2_with ((with_reducible show bodyPost _ _ _ _ _ _); refine bodyPost_struct_tmp rfl _ rfl _ _ Hbc.out _ Tryz.underlying44 rfl Tryz.viewSize rfl _ rfl ?_)
        apply Stop.go
        rw [H0.out.1, H0.out.2]
        exact ⟨.nilFunc, ⟨rfl, rfl⟩, bonly E4.out Hoc.out (Nat.le_refl _), FV.nil_⟩

end Go.Proofs.YtkakihbfhmiabaaGreat
