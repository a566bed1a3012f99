/-
  Views in memory: a layout and a function; contracts of view's Block, Inode.
-/
import Derived.Test.YtkakihbfhmiabaaGreatGrAD
import Derived.Test.YtkakihbfhmiabaaGreatGrAK
import Derived.Test.YtkakihbfhmiabaaGreatGrAM
import Derived.Test.YtkakihbfhmiabaaGreatGrAH
import Derived.Test.YtkakihbfhmiabaaGreatGrAL
import Derived.Test.YtkakihbfhmiabaaGreatGrAS
namespace Go.Proofs.YtkakihbfhmiabaaGreat
open Go.RowKit
set_option maxRecDepth 10000

/-- A view as a value. -/
def vval (l : Lay14) (f : Value) : Array Value := #[.int .i64 l.blocks, .int .i64 l.inodes, .int .u64 (l.merge : Nat), f]
theorem Tryz.viewSize : (Tryz.prog.info? 44).map (·.size) = some 4 := by kernel_rfl
theorem Tryz.viewZero : (Tryz.prog.info? 44).map (·.zero) = some (some (.agg (vval zero14 .nilFunc))) := by kernel_rfl
theorem vval_cells {w : World} {g : Nat} {t : TypeId} {l : Lay14} {f : Value} (h : Blk w g t (vval l f)) : ∀ j v, l.val.toList[j]? = some v → w.cell? ((⟨g, 0, none⟩ : Addr).add j) = some v := fun j v hj => by
  rw [addr_add0, h.cell]
  match j, hj with
  | 0, hj => exact hj
  | 1, hj => exact hj
  | 2, hj => exact hj
  | j + 3, hj => simp [Lay14.val] at hj
/-- A function value that tells blocks: of each number of the layout, in each world of which R holds. -/
def FVR (R : World → Prop) (l : Lay14) (f : Value) (T : Int → List UInt8) : Prop :=
  (f = .nilFunc ∧ ∀ no, 0 ≤ no → no < l.blocks → T no = zeros 256) ∨
  ∃ (F : Nat) (p : Addr), f = .func (.func F) #[] #[.pointer (some p)] ∧ (∀ (args : Array Value) (w : World), (callFunc F args).run Tryz.prog w = .ok (.enter F args) w) ∧ ∀ (w' : World) (no : Int), R w' → 0 ≤ no → no < l.blocks →
    Calls Tryz.prog F #[.int .i64 no, .pointer (some p)] w' fun e w'' => e = .returned (.agg (bcells (T no))) ∧ Below w'.heap.size w' w''
/-- .. in whatever world comes behind this one. -/
def FV (w : World) (l : Lay14) (f : Value) (T : Int → List UInt8) : Prop := FVR (fun w' => Below w.heap.size w w') l f T
theorem FVR.weak {R R' : World → Prop} {l : Lay14} {f : Value} {T : Int → List UInt8} (h : FVR R l f T) (hr : ∀ w, R' w → R w) : FVR R' l f T := by
  rcases h with h | ⟨F, p, h1, h2, h3⟩
  · exact Or.inl h
  · exact Or.inr ⟨F, p, h1, h2, fun w'' no hb' => h3 w'' no (hr _ hb')⟩
theorem FV.below {w w' : World} {l : Lay14} {f : Value} {T : Int → List UInt8} (h : FV w l f T) (hb : Below w.heap.size w w') : FV w' l f T := FVR.weak h fun _ hb' => bt hb hb'
theorem FV.nil_ {w : World} {T : Int → List UInt8} : FV w zero14 .nilFunc T := Or.inl ⟨rfl, fun no h1 h2 => absurd h2 (by show ¬ no < 0; omega)⟩


set_option maxHeartbeats 800000 in
theorem vhas_any (l : Lay14) (f : Value) (no : Int) (b : Bool) (hb : decide (0 ≤ no ∧ no < l.blocks) = b) (w : World) :
    Calls Tryz.prog 74 #[.agg (vval l f), .int .i64 no] w fun e w' => e = .returned (.bool b) ∧ Below w.heap.size w w' := by
  by_cases h0 : 0 ≤ no
  · obtain ⟨c, hc⟩ : ∃ c, decide (no < l.blocks) = c := ⟨_, rfl⟩
    have d0 : decide (0 ≤ no) = true := decide_eq_true h0
    have HB := Lib.hid (show c = b by rw [← hb, ← hc]; simp [h0])
    clear hb h0
    go_enter Tryz.func74, Tryz.ntmps74
    go_wp2_with (refine wpList_box_row rfl _ _ rfl _ rfl ?_)
    apply Stop.go; intro w1 Hg1 Hb1
    have c0 : w1.cell? ⟨w.heap.size, 0, none⟩ = some (.int .i64 l.blocks) := Hb1.out.cell 0
    go_wp2_with fail
    go_ret
    rw [HB.out]
    exact ⟨rfl, Hg1.out.1⟩
  · have d0 : decide (0 ≤ no) = false := decide_eq_false h0
    have HB := Lib.hid (show false = b by rw [← hb]; exact (decide_eq_false fun h => h0 h.1).symm)
    clear hb h0
    go_enter Tryz.func74, Tryz.ntmps74
    go_wp2_with (refine wpList_box_row rfl _ _ rfl _ rfl ?_)
    apply Stop.go; intro w1 Hg1 Hb1
    go_wp2_with fail
    go_ret
    rw [← HB.out]
    exact ⟨rfl, Hg1.out.1⟩

set_option maxHeartbeats 1600000 in
theorem vblock_any (l : Lay14) (f : Value) (T : Int → List UInt8) (hT : ∀ no, (T no).length = 256) (no : Int) (w : World) (hf : FV w l f T) :
    Calls Tryz.prog 47 #[.agg (vval l f), .int .i64 no] w (RetA w (vBk l T no)) := by
  have HzL : Hid ((zeros 256).length = 256) := Lib.hid (zeros_len _)
  have HT := Lib.hid hT
  have hnil := fun w' : World => run_eql_nil_func (P := Tryz.prog) w' _ Tryz.underlying42
  rcases hf with ⟨rfl, hz⟩ | ⟨F, p, rfl, hcf, hF⟩
  · have H0 := Lib.hid (show vBk l T no = zeros 256 by
      by_cases h : 0 ≤ no ∧ no < l.blocks
      · rw [vBk_on T h, hz no h.1 h.2]
      · exact vBk_off T h)
    go_enter Tryz.func47, Tryz.ntmps47
    go_wp2_with (refine wpList_box_row rfl _ _ rfl _ rfl ?_)
    apply Stop.go; intro w1 Hg1 Hb1
    go_wp2_with (refine wpList_alloc_row rfl _ rfl _ Tryz.blockZero ?_)
    apply Stop.go; intro w2 Hg2 Hb2
    have HV2 := Lib.hid (Hb1.out.ext Hg2.out.1)
    have E2 := Lib.hid (bt Hg1.out.1 Hg2.out.1)
    have z2 := Lib.hid (show w.heap.size < w1.heap.size by have := Hg1.out.2; omega)
    generalize w1.heap.size = g1 at *
    clear Hg1 Hb1 Hg2
    have c3 : w2.cell? ⟨w.heap.size, 3, none⟩ = some .nilFunc := HV2.out.cell 3
    go_wp2_with (first | refine wpList_build_zero rfl _ rfl _ Tryz.blockZero _ _ Tryz.underlying82 Tryz.byteSize ?_ | refine wpList_store_arr rfl _ _ _ rfl _ _ rfl rfl _ _ Hb2.out (Tryz.blockFits HzL.out) rfl (oneCell_bcells _) ?_)
    apply Stop.go; intro w4 Ho4 Hb4
    go_wp2_with ((with_reducible show bodyPost _ _ _ _ _ _); refine bodyPost_cell rfl _ rfl _ _ Hb4.out _ _ Tryz.underlying82 (Tryz.blockFits HzL.out) rfl ?_)
    apply Stop.go
    rw [H0.out]
    exact ⟨rfl, bonly E2.out Ho4.out (by have := z2.out; omega)⟩
  · have hfun := fun w' : World => run_eql_func_nil (P := Tryz.prog) w' _ (.func F) #[] #[.pointer (some p)] Tryz.underlying42
    have HF := Lib.hid hF
    clear hF
    obtain ⟨b, hb⟩ : ∃ b, decide (0 ≤ no ∧ no < l.blocks) = b := ⟨_, rfl⟩
    have HB := Lib.hid (fun w' => vhas_any l (.func (.func F) #[] #[.pointer (some p)]) no b hb w')
    cases b
    · have H0 := Lib.hid (vBk_off (l := l) T (of_decide_eq_false hb))
      clear hb
      go_enter Tryz.func47, Tryz.ntmps47
      go_wp2_with (refine wpList_box_row rfl _ _ rfl _ rfl ?_)
      apply Stop.go; intro w1 Hg1 Hb1
      go_wp2_with (refine wpList_alloc_row rfl _ rfl _ Tryz.blockZero ?_)
      apply Stop.go; intro w2 Hg2 Hb2
      have HV2 := Lib.hid (Hb1.out.ext Hg2.out.1)
      have E2 := Lib.hid (bt Hg1.out.1 Hg2.out.1)
      have z2 := Lib.hid (show w.heap.size < w1.heap.size by have := Hg1.out.2; omega)
      generalize w1.heap.size = g1 at *
      clear Hg1 Hb1 Hg2
      have c3 : w2.cell? ⟨w.heap.size, 3, none⟩ = some (.func (.func F) #[] #[.pointer (some p)]) := HV2.out.cell 3
      go_wp2_with (refine wpList_load_blk rfl _ _ rfl _ rfl _ _ HV2.out _ Tryz.underlying44 rfl Tryz.viewSize ?_)
      refine (HB.out _).mono ?_; rintro e w3 ⟨rfl, hb3⟩
      have HR3 := Lib.hid (Hb2.out.ext hb3)
      have E3 := Lib.hid (bt E2.out hb3)
      clear hb3 Hb2 E2 HV2 c3
      go_wp2_with (first | refine wpList_build_zero rfl _ rfl _ Tryz.blockZero _ _ Tryz.underlying82 Tryz.byteSize ?_ | refine wpList_store_arr rfl _ _ _ rfl _ _ rfl rfl _ _ HR3.out (Tryz.blockFits HzL.out) rfl (oneCell_bcells _) ?_)
      apply Stop.go; intro w4 Ho4 Hb4
      go_wp2_with ((with_reducible show bodyPost _ _ _ _ _ _); refine bodyPost_cell rfl _ rfl _ _ Hb4.out _ _ Tryz.underlying82 (Tryz.blockFits HzL.out) rfl ?_)
      apply Stop.go
      rw [H0.out]
      exact ⟨rfl, bonly E3.out Ho4.out (by have := z2.out; omega)⟩
    · have hd := of_decide_eq_true hb
      have H0 := Lib.hid (vBk_on (l := l) T hd)
      have HC := Lib.hid (fun w' (h : Below w.heap.size w w') => HF.out w' no h hd.1 hd.2)
      have HTL := Lib.hid (HT.out no)
      generalize T no = X at *
      clear hb hd
      go_enter Tryz.func47, Tryz.ntmps47
      go_wp2_with (refine wpList_box_row rfl _ _ rfl _ rfl ?_)
      apply Stop.go; intro w1 Hg1 Hb1
      go_wp2_with (refine wpList_alloc_row rfl _ rfl _ Tryz.blockZero ?_)
      apply Stop.go; intro w2 Hg2 Hb2
      have HV2 := Lib.hid (Hb1.out.ext Hg2.out.1)
      have E2 := Lib.hid (bt Hg1.out.1 Hg2.out.1)
      have z2 := Lib.hid (show w.heap.size < w1.heap.size by have := Hg1.out.2; omega)
      generalize w1.heap.size = g1 at *
      clear Hg1 Hb1 Hg2
      have c3 : w2.cell? ⟨w.heap.size, 3, none⟩ = some (.func (.func F) #[] #[.pointer (some p)]) := HV2.out.cell 3
      go_wp2_with (refine wpList_load_blk rfl _ _ rfl _ rfl _ _ HV2.out _ Tryz.underlying44 rfl Tryz.viewSize ?_)
      refine (HB.out _).mono ?_; rintro e w3 ⟨rfl, hb3⟩
      have HV3 := Lib.hid (HV2.out.ext hb3)
      have HR3 := Lib.hid (Hb2.out.ext hb3)
      have E3 := Lib.hid (bt E2.out hb3)
      clear hb3 Hb2 E2 HV2 c3
      have c3 : w3.cell? ⟨w.heap.size, 3, none⟩ = some (.func (.func F) #[] #[.pointer (some p)]) := HV3.out.cell 3
      go_wp2_with fail
      refine (HC.out _ E3.out).mono ?_; rintro e w5 ⟨rfl, hb5⟩
      have HR5 := Lib.hid (HR3.out.ext hb5)
      have E5 := Lib.hid (bt E3.out hb5)
      clear hb5 HR3 E3 HV3 c3
      go_wp2_with (refine wpList_store_arr rfl _ _ _ rfl _ _ rfl rfl _ _ HR5.out (Tryz.blockFits HTL.out) (by rw [bcells_size, bcells_size, HTL.out, HzL.out]) (oneCell_bcells _) ?_)
      apply Stop.go; intro w4 Ho4 Hb4
      go_wp2_with ((with_reducible show bodyPost _ _ _ _ _ _); refine bodyPost_cell rfl _ rfl _ _ Hb4.out _ _ Tryz.underlying82 (Tryz.blockFits HTL.out) rfl ?_)
      apply Stop.go
      rw [H0.out]
      exact ⟨rfl, bonly E5.out Ho4.out (by have := z2.out; omega)⟩

set_option maxHeartbeats 1600000 in
theorem vinode_any (l : Lay14) (f : Value) (T : Int → List UInt8) (hT : ∀ no, (T no).length = 256) (i : Int) (w : World) (hf : FV w l f T) :
    Calls Tryz.prog 20 #[.agg (vval l f), .int .i64 i] w fun e w' => e = .returned (.agg (icells (vIno l T i))) ∧ Below w.heap.size w w' := by
  have HT := Lib.hid hT
  have HF := Lib.hid hf
  have HFL : Hid (freeI.length = 11) := Lib.hid rfl
  clear hT hf
  go_enter Tryz.func20, Tryz.ntmps20
  go_wp2_with (refine wpList_box_row rfl _ _ rfl _ rfl ?_)
  apply Stop.go; intro w1 Hg1 Hb1
  go_wp2_with (refine wpList_alloc_row rfl _ rfl _ Tryz.inoZero ?_)
  apply Stop.go; intro w2 Hg2 Hb2
  have HV2 := Lib.hid (Hb1.out.ext Hg2.out.1)
  have E2 := Lib.hid (bt Hg1.out.1 Hg2.out.1)
  have z2 := Lib.hid (show w.heap.size < w1.heap.size by have := Hg1.out.2; omega)
  generalize w1.heap.size = g1 at *
  clear Hg1 Hb1 Hg2
  go_wp2_with (refine wpList_load_cells rfl _ _ rfl ⟨w.heap.size, 0, none⟩ rfl _ Tryz.underlying41 l.val.toList Tryz.laySize (vval_cells HV2.out) ?_)
  refine (gwhere_any l i _).mono ?_; rintro e w3 ⟨rfl, hb3⟩
  have HV3 := Lib.hid (HV2.out.ext hb3)
  have HR3 := Lib.hid (Hb2.out.ext hb3)
  have E3 := Lib.hid (bt E2.out hb3)
  clear hb3 HV2 Hb2 E2
  cases hi : l.isI i
  · have H0 := Lib.hid (vIno_off (l := l) T hi)
    clear hi
    go_wp2_with (refine wpList_store_arr rfl _ _ _ rfl _ (icells freeI) rfl rfl _ _ HR3.out Tryz.inoSize rfl (oneCell_icells _) ?_)
    apply Stop.go; intro wc Hoc Hbc
    go_wp2_with ((with_reducible show bodyPost _ _ _ _ _ _); refine bodyPost_struct rfl _ rfl _ _ Hbc.out _ Tryz.underlying59 rfl Tryz.inoSize rfl ?_)
    apply Stop.go
    rw [H0.out]
    exact ⟨rfl, bonly E3.out Hoc.out (by have := z2.out; omega)⟩
  · have H0 := Lib.hid (vIno_on (l := l) T hi)
    have HB := Lib.hid (vBk_len (l := l) HT.out (l.wb i))
    have HC := Lib.hid (fun w' (h : Below w.heap.size w w') => vblock_any l f T HT.out (l.wb i) w' (HF.out.below h))
    clear hi
    generalize vBk l T (l.wb i) = X at *
    have HGL := Lib.hid (getTV_len X (l.wk i))
    go_wp2_with (refine wpList_load_blk rfl _ _ rfl _ rfl _ _ HV3.out _ Tryz.underlying44 rfl Tryz.viewSize ?_)
    refine (HC.out _ E3.out).mono ?_; rintro e w4 ⟨rfl, hb4⟩
    have HR4 := Lib.hid (HR3.out.ext hb4)
    have E4 := Lib.hid (bt E3.out hb4)
    clear hb4 HR3 E3 HV3
    go_wp2_with fail
    refine (tget_any X HB.out (l.wk i) _).mono ?_; rintro e w5 ⟨rfl, hb5⟩
    have HR5 := Lib.hid (HR4.out.ext hb5)
    have E5 := Lib.hid (bt E4.out hb5)
    clear hb5 HR4 E4
    go_wp2_with (refine wpList_alloc_row rfl _ rfl _ Tryz.inoZero ?_)
    apply Stop.go; intro w6 Hg6 Hb6
    go_wp2_with (refine wpList_store_arr rfl _ _ _ rfl _ _ rfl rfl _ _ Hb6.out (Tryz.inoFits HGL.out) (by simp only [icells_size, HGL.out, HFL.out]) (oneCell_icells _) ?_)
    apply Stop.go; intro w7 Ho7 Hb7
    have D7 := Lib.hid (bonly Hg6.out.1 Ho7.out (Nat.le_refl _))
    have HR7 := Lib.hid (HR5.out.ext D7.out)
    have E7 := Lib.hid (bt E5.out D7.out)
    generalize w5.heap.size = g5 at *
    clear Hg6 Hb6 Ho7 D7 HR5 E5
    go_wp2_with (first | refine wpList_load_blk rfl _ _ rfl _ rfl _ _ Hb7.out _ Tryz.underlying59 rfl (Tryz.inoFits HGL.out) ?_ | refine wpList_store_arr rfl _ _ _ rfl _ _ rfl rfl _ _ HR7.out (Tryz.inoFits HGL.out) (by simp only [icells_size, HGL.out, HFL.out]) (oneCell_icells _) ?_)
    apply Stop.go; intro wc Hoc Hbc
    go_wp2_with ((with_reducible show bodyPost _ _ _ _ _ _); refine bodyPost_struct rfl _ rfl _ _ Hbc.out _ Tryz.underlying59 rfl (Tryz.inoFits HGL.out) rfl ?_)
    apply Stop.go
    rw [H0.out]
    exact ⟨rfl, bonly E7.out Hoc.out (by have := z2.out; omega)⟩

end Go.Proofs.YtkakihbfhmiabaaGreat
