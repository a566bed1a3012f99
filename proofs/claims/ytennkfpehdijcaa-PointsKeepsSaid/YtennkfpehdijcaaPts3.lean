/-
  Contracts of the function of which a number is kept in the statements, and of points.Keep of it.
-/
import Derived.Test.YtennkfpehdijcaaPts2
namespace Go.Proofs.Ytennkfpehdijcaa
open Go.RowKit

theorem rem3 (k : Nat) : ∃ r : Nat, r < 3 ∧ k % 3 = r ∧ (k : Int) % 3 = (r : Int) ∧ Int.tmod (k : Int) 3 = (r : Int) := ⟨k % 3, Nat.mod_lt _ (by omega), rfl, by omega, by rw [Int.tmod_eq_emod_of_nonneg (by omega)]; omega⟩
set_option maxHeartbeats 400000 in
theorem qis_any (e : Int) (k : Nat) (_hk : k < 128) (x : Int) (g : Nat) (w : World) (hg : w.cell? ⟨g, 0, none⟩ = some (.int .i64 e)) :
    Calls Try.prog 26 #[.int .i64 k, .int .i64 x, .pointer (some ⟨g, 0, none⟩)] w fun z w' => z = .returned (.bool (kpB e k x)) ∧ w = w' := by
  obtain ⟨r, h3, e1, e2, e3⟩ := rem3 k
  have HK := Lib.hid (show kpB e k x = (decide (x < e) && !decide (r = 2)) by unfold kpB; rw [e1])
  have hw : IntKind.i64.wrap (r : Int) = (r : Int) := IntWalk.i64_in _ (by omega)
  by_cases hx : x < e
  · have d0 : decide (x < e) = true := decide_eq_true hx
    rw [d0] at HK
    clear hx
    go_enter Try.func26, Try.ntmps26
    go_wp2
    go_ret
    rw [HK.out]
    have d : ((r : Int) != 2) = !decide (r = 2) := by
      rw [bne]
      congr 1
      exact decide_eq_decide.2 (by omega)
    rw [d, Bool.true_and]
    exact ⟨rfl, rfl⟩
  · have d0 : decide (x < e) = false := decide_eq_false hx
    rw [d0] at HK
    clear hx
    go_enter Try.func26, Try.ntmps26
    go_wp2
    go_ret
    rw [HK.out]
    exact ⟨rfl, rfl⟩

set_option maxHeartbeats 400000 in
theorem qbelow_any (e : Int) (w : World) :
    Calls Try.prog 9 #[.int .i64 e] w fun z w' => z = .returned (.func (.func 26) #[] #[.pointer (some ⟨w.heap.size, 0, none⟩)]) ∧ Grew w w' ∧ Blk w' w.heap.size 3 #[.int .i64 e] := by
  go_enter Try.func9, Try.ntmps9
  go_wp2_with fail
  go_ret
  exact ⟨rfl, Grew.alloc w _, Blk.new w _ _⟩

theorem run_equalIn_func_nil {P : Program} (w : World) (d : Nat) (t : TypeId) {ps rs : Array TypeId} {v : Bool} (f : Fn) (a b : Array Value) (h : P.underlying t = some (.func ps rs v)) :
    (Op.equalIn (d + 1) t (.func f a b) .nilFunc).run P w = .ok false w := by
  simp [Op.equalIn, run_underlying h]
/-- '==' of a function and nil. -/
theorem run_eql_func_nil {P : Program} (w : World) (t : TypeId) {ps rs : Array TypeId} {v : Bool} (f : Fn) (a b : Array Value) (h : P.underlying t = some (.func ps rs v)) :
    (binOp .eql t (.func f a b) .nilFunc).run P w = .ok (.bool false) w := by
  simp only [binOp]
  simp [Op.equal, Op.maxDepth, run_equalIn_func_nil w 9999 t f a b h]

set_option maxHeartbeats 1600000 in
theorem qkeep_any (b : List UInt8) (hb : b.length = 256) (e : Int) (g : Nat) (w : World) (hg : w.cell? ⟨g, 0, none⟩ = some (.int .i64 e)) :
    Calls Try.prog 8 #[.agg (bcells b), .func (.func 26) #[] #[.pointer (some ⟨g, 0, none⟩)]] w (RetA w (keepQ e b)) := by
  have HbL := Lib.hid hb
  have HzL : Hid ((zeros 256).length = 256) := Lib.hid (zeros_len _)
  have HGc := Lib.hid (And.intro hg (show g < w.heap.size from block_lt_of_cell hg))
  have HB0 := Lib.hid (blkQ_numsQ hb)
  obtain ⟨L, HLd⟩ : ∃ L, Hid (numsQ b = L) := ⟨_, Lib.hid rfl⟩
  have HLL := Lib.hid (show L.length = 128 by rw [← HLd.out]; exact numsQ_len b)
  have HLF := Lib.hid (show fineL L by rw [← HLd.out]; exact numsQ_fine b)
  have HQ := Lib.hid (show keepQ e b = blkQ (keepL e L 128) by unfold keepQ; rw [HLd.out])
  rw [HLd.out] at HB0
  rw [HQ.out]
  clear hb hg
  go_enter Try.func8, Try.ntmps8
  go_wp2_with (refine wpList_box_row rfl _ _ rfl _ rfl ?_)
  apply Stop.go; intro w1 Hg1 Hb1
  go_wp2_with (refine wpList_alloc_row rfl _ rfl _ Try.blockZero ?_)
  apply Stop.go; intro w2 Hg2 Hb2
  have HB2 := Lib.hid (Hb1.out.ext Hg2.out.1)
  have E2 := Lib.hid (bt Hg1.out.1 Hg2.out.1)
  have z2 := Lib.hid (show w.heap.size < w1.heap.size by have := Hg1.out.2; omega)
  generalize w1.heap.size = g1 at *
  clear Hb1 Hg1 Hg2
  have hnil := fun w' : World => run_eql_func_nil (P := Try.prog) w' _ (.func 26) #[] #[.pointer (some ⟨g, 0, none⟩)] Try.underlying28
  go_wp2_with fail
  clear hnil
  go_loopw [5, 6, 10] (fun _ _ i wr => ∃ k : Nat, k ≤ 128 ∧ i = .int .i64 k ∧ Hid (Blk wr w.heap.size 23 (bcells (blkQ (keepL e L k)))) ∧ Hid (Blk wr g1 23 (bcells (zeros 256))) ∧ Hid (Below w.heap.size w wr)) (fun _ _ i _ => 128 - (intOf i).toNat)
  case atStart => exact ⟨0, Nat.zero_le _, rfl, Lib.hid (by rw [show keepL e L 0 = L from rfl, HB0.out]; exact HB2.out), Hb2, E2⟩
  case round =>
    obtain ⟨k, hk, rfl, HB, HR, E⟩ := hrel
    clear HB2 Hb2 E2 HB0
    have HSL := Lib.hid (show (keepL e L k).length = 128 by rw [keepL_len, HLL.out])
    have HSF := Lib.hid (keepL_fine (e := e) HLF.out k)
    have HBL := Lib.hid (blkQ_len (l := keepL e L k) (by rw [HSL.out]; omega))
    by_cases hlt : k < 128
    · have d0 : decide ((k : Int) < 128) = true := by simp; omega
      have HNX := Lib.hid (show keepL e L (k + 1) = stepK e k (keepL e L k) from rfl)
      have HX := Lib.hid (show getQ (blkQ (keepL e L k)) (k : Int) = fld (keepL e L k) k by rw [getQ_nat _ hlt, nmQ_blkQ HSL.out HSF.out hlt])
      have HST := Lib.hid (blkQ_set HSL.out hlt 0)
      have H0 := Lib.hid (stepK_zero (e := e) (k := k) (s := keepL e L k))
      have H1 := Lib.hid (stepK_yes (e := e) (k := k) (s := keepL e L k))
      have H2 := Lib.hid (stepK_no (e := e) (k := k) (s := keepL e L k))
      have HSN := Lib.hid (show (blkQ (stepK e k (keepL e L k))).length = 256 from blkQ_len (by rw [stepK_len, HSL.out]; omega))
      rw [← HNX.out] at H0 H1 H2 HSN
      obtain ⟨t, HTd⟩ : ∃ t, Hid (keepL e L (k + 1) = t) := ⟨_, Lib.hid rfl⟩
      rw [HTd.out] at H0 H1 H2 HSN
      clear HNX
      generalize keepL e L k = s at *
      go_wp2_with (refine wpList_load_arr rfl _ _ rfl _ rfl _ _ HB.out _ _ Try.underlying23 (Try.blockFits HBL.out) ?_)
      refine (qget_any (blkQ s) HBL.out k _).mono ?_; rintro e w3 ⟨rfl, hb3⟩
      rw [HX.out]
      generalize fld s k = x at *
      have HB3 := Lib.hid (HB.out.ext hb3)
      have HR3 := Lib.hid (HR.out.ext hb3)
      have E3 := Lib.hid (bt E.out hb3)
      clear hb3 HB HR E HX
      by_cases hx : x = 0
      · have HT := Lib.hid (H0.out hx)
        have d1 : (x != 0) = false := by simpa using hx
        clear hx H0 H1 H2
        go_wp2_with fail
        go_roundw
        case rel => exact ⟨k + 1, by omega, by go_num, Lib.hid (by rw [HTd.out, HT.out]; exact HB3.out), HR3, E3⟩
        case measure => simp [intOf]; omega
      · have d1 : (x != 0) = true := by simpa using hx
        have hc : w3.cell? ⟨g, 0, none⟩ = some (.int .i64 e) := by rw [E3.out.cell (show (⟨g, 0, none⟩ : Addr).block < _ from HGc.out.2)]; exact HGc.out.1
        clear hx H0
        go_wp2_with fail
        refine (qis_any e k hlt x g _ hc).mono ?_; rintro e w4 ⟨rfl, rfl⟩
        cases hf : kpB e k x
        · have HT := Lib.hid (H2.out hf)
          clear hf H1 H2 hc
          have HN := Lib.hid (show nwithL (blkQ s) (2 * (k : Int)) 2 0 = blkQ t by rw [HT.out, ← HST.out]; rfl)
          have HW : Hid (IntKind.u64.wrap 0 = ((0 : Nat) : Int)) := Lib.hid rfl
          clear HST HT
          go_wp2_with fail
          refine WT.start 4 (S := fun w' : World => Blk w' w.heap.size 23 (bcells (blkQ s))) [false, false, false, false, false] 5 rfl rfl (by kernel_rfl) (HB3.out.ext (bdrew w3 1)) (fun hSn => ?_); obtain ⟨wS, hwS⟩ : ∃ x, (w3).drew = x := ⟨_, rfl⟩; have HE := Lib.hid (show Below (w3).heap.size (w3) wS from hwS ▸ bdrew w3 1); rw [hwS] at hSn ⊢; clear hwS
          refine WT.tv 0 rfl (fun w' hSw => run_load_arr _ _ rfl _ rfl _ _ hSw _ _ Try.underlying23 (Try.blockFits HBL.out)) ?_; simp only [setL]
          refine WT.tk 1 ?_; simp only [setL]
          refine WT.only 2 _ rfl (by kernel_rfl) rfl (fun K hK => ?_)
          go_simp; refine (qat_any k hlt _).mono ?_; rintro e wa ⟨rfl, rfl⟩; go_simp
          have hSn := hSn; refine hK _ _ hSn ?_; clear hK; clear K; simp only [setL]
          refine WT.only 3 _ rfl (by kernel_rfl) rfl (fun K hK => ?_)
          go_simp; refine (nwith_any _ HBL.out (2 * (k : Int)) 2 0 0 HW.out (by omega) _).mono ?_; rintro e wb ⟨rfl, hbb⟩; go_simp
          rw [HN.out]
          have HE := Lib.hid (bt HE.out hbb)
          have hSn := hSn.ext hbb; refine hK _ _ hSn ?_; clear hK; clear K; simp only [setL]
          refine WT.last _ rfl (by kernel_rfl) rfl (fun K hK => ?_)
          refine ow_store _ _ _ rfl _ _ rfl rfl _ _ hSn (Try.blockFits HSN.out) (by rw [bcells_size, bcells_size, HSN.out, HBL.out]) (oneCell_bcells _) ?_
          apply Stop.go; intro wd Hod Hbd
          have HRd := Lib.hid ((HR3.out.ext HE.out).only Hod.out (by have := z2.out; omega))
          have Ed := Lib.hid (bonly (bt E3.out HE.out) Hod.out (Nat.le_refl _))
          refine hK _ _ ?_; clear hK; clear K; simp only [setL]; refine WT.done (by kernel_rfl) ?_
          clear hSn HB3 HR3 E3 HE Hod
          go_wp2_with fail
          go_roundw
          case rel => exact ⟨k + 1, by omega, by go_num, Lib.hid (by rw [HTd.out]; exact Hbd.out), HRd, Ed⟩
          case measure => simp [intOf]; omega
        · have HT := Lib.hid (H1.out hf)
          clear hf H1 H2 hc
          go_wp2_with fail
          go_roundw
          case rel => exact ⟨k + 1, by omega, by go_num, Lib.hid (by rw [HTd.out, HT.out]; exact HB3.out), HR3, E3⟩
          case measure => simp [intOf]; omega
    · obtain rfl : k = 128 := by omega
      go_wp2_with (first | refine wpList_load_arr rfl _ _ rfl _ rfl _ _ HB.out _ _ Try.underlying23 (Try.blockFits HBL.out) ?_ | refine wpList_store_arr rfl _ _ _ rfl _ _ rfl rfl _ _ HR.out (Try.blockFits HBL.out) (by rw [bcells_size, bcells_size, HBL.out, HzL.out]) (oneCell_bcells _) ?_)
      apply Stop.go; intro wc Hoc Hbc
      go_wp2_with ((with_reducible show bodyPost _ _ _ _ _ _); refine bodyPost_cell rfl _ rfl _ _ Hbc.out _ _ Try.underlying23 (Try.blockFits HBL.out) rfl ?_)
      apply Stop.go
      exact ⟨rfl, bonly E.out Hoc.out (by have := z2.out; omega)⟩

end Go.Proofs.Ytennkfpehdijcaa
