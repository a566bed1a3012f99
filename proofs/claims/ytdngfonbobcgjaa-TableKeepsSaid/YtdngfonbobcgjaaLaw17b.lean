/-
  Layer 17: the walk of TableGets.
-/
import Derived.Test.YtdngfonbobcgjaaLaw17
import Derived.Test.YtdngfonbobcgjaaAppF
import Derived.Test.YtdngfonbobcgjaaInts
import Derived.Deep.CutRange
namespace Go.Proofs.Ytdngfonbobcgjaa
set_option maxRecDepth 100000
open Go.RowKit

theorem neq_ino_same {V : List Int} (h : V.length = 11) (w : World) : (binOp .neq 25 (.agg (icells V)) (.agg (icells V))).run Try.prog w = .ok (.bool false) w := by
  rw [run_neq_ino V V h h]
  simp
theorem oneCell_ivals (l : List Int) : ∀ u ∈ ivals l, u.oneCell' = true := fun u hu => by
  obtain ⟨x, _, rfl⟩ := List.mem_map.1 hu
  rfl

set_option maxHeartbeats 6400000 in
theorem tableGets_any (b : List UInt8) (hb : b.length = 256) (k : Int) (w : World) :
    Calls Try.prog 4 #[.agg (bcells b), .int .i64 k] w fun e w' => e = .returned (.bool true) ∧ Below w.heap.size w w' := by
  have HbL := Lib.hid hb
  have HzL : Hid ((zeros 32).length = 32) := Lib.hid (zeros_len _)
  have HzB : Hid ((zeros 256).length = 256) := Lib.hid (zeros_len _)
  have HRL := Lib.hid (rawT_len hb k)
  have HVL := Lib.hid (getTV_len b k)
  have HT := Lib.hid (fun k w => tget_any b hb k w)
  have HG := Lib.hid (fun k A w (h : RB w A b) => rget17_any A 256 b hb k w h)
  have HRT := Lib.hid (fun k w => traw_any b hb k w)
  have HRW0 := Lib.hid (fun (q : Nat) (hq : q < 8) A w (h : RB w A b) => rraw17_any A 256 b hb q hq w h)
  have HNT := Lib.hid (fun (q : Nat) (hq : q < 8) A w (h : RB w A b) => nought_any A 256 b hb q hq w h)
  have HFR := Lib.hid (fun w => tfree_any b hb w)
  have HUS := Lib.hid (fun w => tused_any b hb w)
  have HCL := Lib.hid (fun w => tclean_any b hb w)
  obtain ⟨f, hf⟩ : ∃ f, freeT b = f := ⟨_, rfl⟩
  obtain ⟨g, hg⟩ : ∃ g, (fun q : Nat => (getT b (q : Int)).isSome) = g := ⟨_, rfl⟩
  have hgq : ∀ q : Nat, (getT b (q : Int)).isSome = g q := fun q => by rw [← hg]
  have HGQ := Lib.hid hgq
  rw [hf] at HNT HFR HUS
  rw [hg] at HCL
  clear hb hf hg hgq
  obtain ⟨V, HV⟩ : ∃ V, Hid (getTV b k = V) := ⟨_, Lib.hid rfl⟩
  obtain ⟨s, Hs⟩ : ∃ s, Hid ((getT b k).isSome = s) := ⟨_, Lib.hid rfl⟩
  have HT0 := Lib.hid (HT.out k)
  have HG0 := Lib.hid (HG.out k)
  have HR0 := Lib.hid (HRT.out k)
  rw [HV.out] at HT0 HG0 HVL
  rw [Hs.out] at HT0 HG0
  have HNQ := Lib.hid (neq_ino_same HVL.out)
  obtain ⟨R, HRd⟩ : ∃ R, Hid (rawT b k = R) := ⟨_, Lib.hid rfl⟩
  rw [HRd.out] at HR0 HRL
  go_enter Try.func4, Try.ntmps4
  go_wp2_with (refine wpList_box_row rfl _ _ rfl _ rfl ?_)
  apply Stop.go; intro w1 Hg1 Hb1
  have z1 := Lib.hid Hg1.out.2
  have E1 := Lib.hid Hg1.out.1
  clear Hg1
  go_wp2_with (first | refine wpList_load_arr rfl _ _ rfl _ rfl _ _ Hb1.out _ _ Try.underlying22 (Try.arr256Fits HbL.out) ?_ | refine wpList_alloc_row rfl _ rfl _ Try.blockZero ?_)
  apply Stop.go; intro w2 Hg2 Hb2
  go_wp2_with (refine wpList_store_arr rfl _ _ _ rfl _ _ rfl rfl _ _ Hb2.out (Try.blockFits HbL.out) (by rw [bcells_size, bcells_size, HbL.out, HzB.out]) (oneCell_bcells _) ?_)
  apply Stop.go; intro w3 Ho3 Hb3
  have D3 := Lib.hid (bonly Hg2.out.1 Ho3.out (Nat.le_refl _))
  have HB3 := Lib.hid (Hb1.out.ext D3.out)
  have E3 := Lib.hid (bt E1.out D3.out)
  generalize w1.heap.size = g1 at *
  clear Hg2 Hb2 Ho3 Hb1 E1 D3
  go_wp2_with (refine wpList_load_arr rfl _ _ rfl _ rfl _ _ Hb3.out _ _ Try.underlying26 (Try.blockFits HbL.out) ?_)
  refine (HT0.out _).mono ?_; rintro e w4 ⟨rfl, hb4⟩
  have HB4 := Lib.hid (HB3.out.ext hb4)
  have HC4 := Lib.hid (Hb3.out.ext hb4)
  have E4 := Lib.hid (bt E3.out hb4)
  clear hb4 HB3 Hb3 E3
  go_wp2_with (refine wpList_alloc_row rfl _ rfl _ Try.inoZero ?_)
  apply Stop.go; intro w5 Hg5 Hb5
  go_wp2_with (refine wpList_store_arr rfl _ _ _ rfl _ _ rfl rfl _ _ Hb5.out (Try.inoFits HVL.out) (by rw [icells_size, icells_size, HVL.out]; rfl) (oneCell_icells _) ?_)
  apply Stop.go; intro w6 Ho6 Hb6
  have D6 := Lib.hid (bonly Hg5.out.1 Ho6.out (Nat.le_refl _))
  have HB6 := Lib.hid (HB4.out.ext D6.out)
  have HC6 := Lib.hid (HC4.out.ext D6.out)
  have E6 := Lib.hid (bt E4.out D6.out)
  generalize w4.heap.size = g2 at *
  clear Hg5 Hb5 Ho6 HB4 HC4 E4 D6
  go_wp2_with (refine wpList_slice_arr_all rfl _ _ rfl 256 _ Try.underlying22 Try.byteSize w.heap.size rfl (by omega) ?_)
  refine (HG0.out _ _ (RB.of_blk0 HB6.out)).mono ?_; rintro e w7 ⟨rfl, hb7⟩
  have HB7 := Lib.hid (HB6.out.ext hb7)
  have HC7 := Lib.hid (HC6.out.ext hb7)
  have HU7 := Lib.hid (Hb6.out.ext hb7)
  have E7 := Lib.hid (bt E6.out hb7)
  clear hb7 HB6 HC6 Hb6 E6
  go_wp2_with (refine wpList_alloc_row rfl _ rfl _ Try.inoZero ?_)
  apply Stop.go; intro w5 Hg5 Hb5
  go_wp2_with (refine wpList_store_arr rfl _ _ _ rfl _ _ rfl rfl _ _ Hb5.out (Try.inoFits HVL.out) (by rw [icells_size, icells_size, HVL.out]; rfl) (oneCell_icells _) ?_)
  apply Stop.go; intro w6 Ho6 Hb6
  have D6 := Lib.hid (bonly Hg5.out.1 Ho6.out (Nat.le_refl _))
  have HB6 := Lib.hid (HB7.out.ext D6.out)
  have HC6 := Lib.hid (HC7.out.ext D6.out)
  have HU6 := Lib.hid (HU7.out.ext D6.out)
  have E6 := Lib.hid (bt E7.out D6.out)
  generalize w7.heap.size = g3 at *
  clear Hg5 Hb5 Ho6 HB7 HC7 HU7 E7 D6
  go_wp2_with (refine wpList_load_arr rfl _ _ rfl _ rfl _ _ HC6.out _ _ Try.underlying26 (Try.blockFits HbL.out) ?_)
  refine (HR0.out _).mono ?_; rintro e w7 ⟨rfl, hb7⟩
  have HB7 := Lib.hid (HB6.out.ext hb7)
  have HC7 := Lib.hid (HC6.out.ext hb7)
  have HU7 := Lib.hid (HU6.out.ext hb7)
  have HV7 := Lib.hid (Hb6.out.ext hb7)
  have E7 := Lib.hid (bt E6.out hb7)
  clear hb7 HB6 HC6 HU6 Hb6 E6
  go_wp2_with (refine wpList_alloc_row rfl _ rfl _ Try.b32Zero ?_)
  apply Stop.go; intro w5 Hg5 Hb5
  go_wp2_with (refine wpList_store_arr rfl _ _ _ rfl _ _ rfl rfl _ _ Hb5.out (Try.b32Fits HRL.out) (by simp only [bcells_size, HRL.out, HzL.out]) (oneCell_bcells _) ?_)
  apply Stop.go; intro w8 Ho8 Hb8
  have D8 := Lib.hid (bonly Hg5.out.1 Ho8.out (Nat.le_refl _))
  have HB8 := Lib.hid (HB7.out.ext D8.out)
  have HC8 := Lib.hid (HC7.out.ext D8.out)
  have HU8 := Lib.hid (HU7.out.ext D8.out)
  have HV8 := Lib.hid (HV7.out.ext D8.out)
  have E8 := Lib.hid (bt E7.out D8.out)
  generalize w7.heap.size = g4 at *
  clear Hg5 Hb5 Ho8 HB7 HC7 HU7 HV7 E7 D8 HT0 HG0 HR0 z1
  have d0 : (s != s) = false := by simp
  go_upto_region 5 with fail
  go_cut [72] from 36 to 72 (fun v wx => v = .bool false ∧ Below w8.heap.size w8 wx)
  case first =>
   cases hp : placeB k
   · have HRZ := Lib.hid (show (!(R == zeros 32)) = false by rw [← HRd.out, rawT_no b hp]; simp)
     rcases placeB_false hp with h | h
     · have e0 : decide (0 ≤ k) = false := by simp; omega
       have e1 : decide (k < 0) = true := by simpa using h
       clear hp h
       refine WH.start (S := fun w' : World => Blk w' g2 25 (icells V) ∧ Blk w' g3 25 (icells V) ∧ Blk w' g4 44 (bcells R)) [false, false, false, false, false, false, false, false, false, false, false, false, false, false, false, false, false, false, false, false, false, false, false, false, false, false, false, false, false, false, false, false, false, false, false, false, false] 37 rfl rfl (by kernel_rfl) ⟨HU8.out.ext (bdrew w8 1), HV8.out.ext (bdrew w8 1), Hb8.out.ext (bdrew w8 1)⟩ (fun hSn => ?_); obtain ⟨wS, hwS⟩ : ∃ x, (w8).drew = x := ⟨_, rfl⟩; have HE := Lib.hid (show Below (w8).heap.size (w8) wS from hwS ▸ bdrew w8 1); rw [hwS] at hSn ⊢; clear hwS
       refine WH.tv 0 rfl (fun w' hSw => exec_load_blk _ _ rfl _ rfl _ _ (hSw.1) _ (Try.underlying25) rfl (Try.inoFits HVL.out)) ?_; simp only [setL]
       refine WH.tv 1 rfl (fun w' hSw => exec_load_blk _ _ rfl _ rfl _ _ (hSw.2.1) _ (Try.underlying25) rfl (Try.inoFits HVL.out)) ?_; simp only [setL]
       refine WH.tv 2 rfl (fun w' hSw => exec_eql_agg .neq _ _ _ _ rfl (by kernel_rfl) _ _ rfl rfl _ (HNQ.out _)) ?_; simp only [setL]
       refine WH.tk 3 ?_; simp only [setL]
       refine WH.tk 4 ?_; simp only [setL]
       refine WH.tk 5 ?_; simp only [setL]
       refine WH.tk 6 ?_; simp only [setL]
       refine WH.tk 7 ?_; simp only [setL]
       refine WH.tk 8 ?_; simp only [setL]
       refine WH.tk 9 ?_; simp only [setL]
       refine WH.tk 10 ?_; simp only [setL]
       refine WH.tk 11 ?_; simp only [setL]
       refine WH.skip 12 _ rfl (by kernel_rfl) (fun _ _ _ h => h) rfl (by assumption) ?_; simp only [setL]
       refine WH.skip 13 _ rfl (by kernel_rfl) (fun _ _ _ h => h) rfl (by assumption) ?_; simp only [setL]
       refine WH.tk 14 ?_; simp only [setL]
       refine WH.tk 15 ?_; simp only [setL]
       refine WH.skip 16 _ rfl (by kernel_rfl) (fun _ _ _ h => h) rfl (by assumption) ?_; simp only [setL]
       refine WH.skip 17 _ rfl (by kernel_rfl) (fun _ _ _ h => h) rfl (by assumption) ?_; simp only [setL]
       refine WH.skip 18 _ rfl (by kernel_rfl) (fun _ _ _ h => h) rfl (by assumption) ?_; simp only [setL]
       refine WH.onlySkip 19 _ rfl (by kernel_rfl) rfl (by assumption) ?_; simp only [setL]
       refine WH.onlySkip 20 _ rfl (by kernel_rfl) rfl (by assumption) ?_; simp only [setL]
       refine WH.skip 21 _ rfl (by kernel_rfl) (fun _ _ _ h => h) rfl (by assumption) ?_; simp only [setL]
       refine WH.tk 22 ?_; simp only [setL]
       refine WH.tk 23 ?_; simp only [setL]
       refine WH.tk 24 ?_; simp only [setL]
       refine WH.tk 25 ?_; simp only [setL]
       refine WH.tk 26 ?_; simp only [setL]
       refine WH.tk 27 ?_; simp only [setL]
       refine WH.skip 28 _ rfl (by kernel_rfl) (fun _ _ _ h => h) rfl (by assumption) ?_; simp only [setL]
       refine WH.skip 29 _ rfl (by kernel_rfl) (fun _ _ _ h => h) rfl (by assumption) ?_; simp only [setL]
       refine WH.tk 30 ?_; simp only [setL]
       refine WH.tk 31 ?_; simp only [setL]
       refine WH.tv 32 rfl (fun w' hSw => exec_load_blk _ _ rfl _ rfl _ _ (hSw.2.2) _ (Try.underlying44) rfl (Try.b32Fits HRL.out)) ?_; simp only [setL]
       refine WH.tv 33 rfl (fun w' hSw => exec_build_zero _ rfl _ Try.b32Zero _ _ Try.underlying44 Try.byteSize) ?_; simp only [setL]
       refine WH.tv 34 rfl (fun w' hSw => exec_neq_arr _ _ _ _ rfl (by kernel_rfl) _ _ Try.underlying44 Try.underlying5 Try.byteSize R (zeros 32) rfl rfl HRL.out HzL.out false HRZ.out) ?_; simp only [setL]
       refine WH.tk 35 ?_; simp only [setL]
       refine WH.tk 36 ?_; simp only [setL]
       refine WH.done (by kernel_rfl) ?_
       go_wp2_with fail
       go_meet
       exact ⟨rfl, HE.out⟩
     · have e0 : decide (0 ≤ k) = true := by simp; omega
       have e1 : decide (k < 0) = false := by simp; omega
       have e2 : decide (k < 8) = false := by simp; omega
       have e3 : decide (7 < k) = true := by simp; omega
       clear hp h
       refine WH.start (S := fun w' : World => Blk w' g2 25 (icells V) ∧ Blk w' g3 25 (icells V) ∧ Blk w' g4 44 (bcells R)) [false, false, false, false, false, false, false, false, false, false, false, false, false, false, false, false, false, false, false, false, false, false, false, false, false, false, false, false, false, false, false, false, false, false, false, false, false] 37 rfl rfl (by kernel_rfl) ⟨HU8.out.ext (bdrew w8 1), HV8.out.ext (bdrew w8 1), Hb8.out.ext (bdrew w8 1)⟩ (fun hSn => ?_); obtain ⟨wS, hwS⟩ : ∃ x, (w8).drew = x := ⟨_, rfl⟩; have HE := Lib.hid (show Below (w8).heap.size (w8) wS from hwS ▸ bdrew w8 1); rw [hwS] at hSn ⊢; clear hwS
       refine WH.tv 0 rfl (fun w' hSw => exec_load_blk _ _ rfl _ rfl _ _ (hSw.1) _ (Try.underlying25) rfl (Try.inoFits HVL.out)) ?_; simp only [setL]
       refine WH.tv 1 rfl (fun w' hSw => exec_load_blk _ _ rfl _ rfl _ _ (hSw.2.1) _ (Try.underlying25) rfl (Try.inoFits HVL.out)) ?_; simp only [setL]
       refine WH.tv 2 rfl (fun w' hSw => exec_eql_agg .neq _ _ _ _ rfl (by kernel_rfl) _ _ rfl rfl _ (HNQ.out _)) ?_; simp only [setL]
       refine WH.tk 3 ?_; simp only [setL]
       refine WH.tk 4 ?_; simp only [setL]
       refine WH.tk 5 ?_; simp only [setL]
       refine WH.tk 6 ?_; simp only [setL]
       refine WH.tk 7 ?_; simp only [setL]
       refine WH.tk 8 ?_; simp only [setL]
       refine WH.tk 9 ?_; simp only [setL]
       refine WH.tk 10 ?_; simp only [setL]
       refine WH.tk 11 ?_; simp only [setL]
       refine WH.tk 12 ?_; simp only [setL]
       refine WH.tk 13 ?_; simp only [setL]
       refine WH.tk 14 ?_; simp only [setL]
       refine WH.tk 15 ?_; simp only [setL]
       refine WH.skip 16 _ rfl (by kernel_rfl) (fun _ _ _ h => h) rfl (by assumption) ?_; simp only [setL]
       refine WH.skip 17 _ rfl (by kernel_rfl) (fun _ _ _ h => h) rfl (by assumption) ?_; simp only [setL]
       refine WH.skip 18 _ rfl (by kernel_rfl) (fun _ _ _ h => h) rfl (by assumption) ?_; simp only [setL]
       refine WH.onlySkip 19 _ rfl (by kernel_rfl) rfl (by assumption) ?_; simp only [setL]
       refine WH.onlySkip 20 _ rfl (by kernel_rfl) rfl (by assumption) ?_; simp only [setL]
       refine WH.skip 21 _ rfl (by kernel_rfl) (fun _ _ _ h => h) rfl (by assumption) ?_; simp only [setL]
       refine WH.tk 22 ?_; simp only [setL]
       refine WH.tk 23 ?_; simp only [setL]
       refine WH.tk 24 ?_; simp only [setL]
       refine WH.tk 25 ?_; simp only [setL]
       refine WH.tk 26 ?_; simp only [setL]
       refine WH.tk 27 ?_; simp only [setL]
       refine WH.tk 28 ?_; simp only [setL]
       refine WH.tk 29 ?_; simp only [setL]
       refine WH.tk 30 ?_; simp only [setL]
       refine WH.tk 31 ?_; simp only [setL]
       refine WH.tv 32 rfl (fun w' hSw => exec_load_blk _ _ rfl _ rfl _ _ (hSw.2.2) _ (Try.underlying44) rfl (Try.b32Fits HRL.out)) ?_; simp only [setL]
       refine WH.tv 33 rfl (fun w' hSw => exec_build_zero _ rfl _ Try.b32Zero _ _ Try.underlying44 Try.byteSize) ?_; simp only [setL]
       refine WH.tv 34 rfl (fun w' hSw => exec_neq_arr _ _ _ _ rfl (by kernel_rfl) _ _ Try.underlying44 Try.underlying5 Try.byteSize R (zeros 32) rfl rfl HRL.out HzL.out false HRZ.out) ?_; simp only [setL]
       refine WH.tk 35 ?_; simp only [setL]
       refine WH.tk 36 ?_; simp only [setL]
       refine WH.done (by kernel_rfl) ?_
       go_wp2_with fail
       go_meet
       exact ⟨rfl, HE.out⟩
   · obtain ⟨q, hq, rfl⟩ := placeB_true hp
     have e0 : decide (0 ≤ (q : Int)) = true := decide_eq_true (by omega)
     have e1 : decide ((q : Int) < 0) = false := decide_eq_false (by omega)
     have e2 : decide ((q : Int) < 8) = true := decide_eq_true (by omega)
     have e3 : decide (7 < (q : Int)) = false := decide_eq_false (by omega)
     have e4 : decide (7 < q) = false := decide_eq_false (by omega)
     have HRq := Lib.hid (show (rawT b (q : Int)).length = 32 by rw [HRd.out, HRL.out])
     have HRW := HRW0
     clear hp
     refine WH.start (S := fun w' : World => Blk w' g2 25 (icells V) ∧ Blk w' g3 25 (icells V) ∧ Blk w' g4 44 (bcells R)) [false, false, false, false, false, false, false, false, false, false, false, false, false, false, false, false, false, false, false, false, false, false, false, false, false, false, false, false, false, false, false, false, false, false, false, false, false] 37 rfl rfl (by kernel_rfl) ⟨HU8.out.ext (bdrew w8 1), HV8.out.ext (bdrew w8 1), Hb8.out.ext (bdrew w8 1)⟩ (fun hSn => ?_); obtain ⟨wS, hwS⟩ : ∃ x, (w8).drew = x := ⟨_, rfl⟩; have HE := Lib.hid (show Below (w8).heap.size (w8) wS from hwS ▸ bdrew w8 1); rw [hwS] at hSn ⊢; clear hwS
     refine WH.tv 0 rfl (fun w' hSw => exec_load_blk _ _ rfl _ rfl _ _ (hSw.1) _ (Try.underlying25) rfl (Try.inoFits HVL.out)) ?_; simp only [setL]
     refine WH.tv 1 rfl (fun w' hSw => exec_load_blk _ _ rfl _ rfl _ _ (hSw.2.1) _ (Try.underlying25) rfl (Try.inoFits HVL.out)) ?_; simp only [setL]
     refine WH.tv 2 rfl (fun w' hSw => exec_eql_agg .neq _ _ _ _ rfl (by kernel_rfl) _ _ rfl rfl _ (HNQ.out _)) ?_; simp only [setL]
     refine WH.tk 3 ?_; simp only [setL]
     refine WH.tk 4 ?_; simp only [setL]
     refine WH.tk 5 ?_; simp only [setL]
     refine WH.tk 6 ?_; simp only [setL]
     refine WH.tk 7 ?_; simp only [setL]
     refine WH.tk 8 ?_; simp only [setL]
     refine WH.tk 9 ?_; simp only [setL]
     refine WH.tk 10 ?_; simp only [setL]
     refine WH.tk 11 ?_; simp only [setL]
     refine WH.tk 12 ?_; simp only [setL]
     refine WH.tk 13 ?_; simp only [setL]
     refine WH.tk 14 ?_; simp only [setL]
     refine WH.tk 15 ?_; simp only [setL]
     refine WH.tv 16 rfl (fun w' hSw => exec_slice_all _ _ rfl 32 _ Try.underlying44 Try.byteSize g4 rfl (by decide)) ?_; simp only [setL]
     refine WH.tv 17 rfl (fun w' hSw => exec_slice_all _ _ rfl 256 _ Try.underlying22 Try.byteSize w.heap.size rfl (by decide)) ?_; simp only [setL]
     refine WH.tk 18 ?_; simp only [setL]
     refine WH.only 19 _ rfl (by kernel_rfl) rfl (fun K hK => ?_)
     go_simp; refine (HRW.out q hq _ _ (RB.of_blk0 (HB8.out.ext HE.out))).mono ?_; rintro e wa ⟨A2, n2, c2, rfl, hl2, hc2, hm2, hr2, hba⟩; go_simp
     have HN2 := Lib.hid (show n2 = 32 by rw [← hl2, HRq.out])
     have HE := Lib.hid (bt HE.out hba)
     have HR2 := Lib.hid hr2
     have HL2 := Lib.hid hl2
     clear hl2 hc2 hm2 hr2
     have hSn := And.intro (hSn.1.ext hba) (And.intro (hSn.2.1.ext hba) (hSn.2.2.ext hba)); refine hK _ _ hSn ?_; clear hK; clear K; simp only [setL]
     obtain rfl := HN2.out
     refine WH.only 20 _ rfl (by kernel_rfl) rfl (fun K hK => ?_)
     rw [HRd.out] at HR2
     go_simp; refine (same_any _ 32 _ R HRL.out _ 32 _ R HRL.out (by unfold maxLen; omega) (by unfold maxLen; omega) _ (RB.of_blk0 (Hb8.out.ext HE.out)) HR2.out).mono ?_; rintro e wb ⟨rfl, k4, rfl⟩; go_simp
     have HE := Lib.hid (bt HE.out (bdrew wa k4))
     have hSn := And.intro (hSn.1.ext (bdrew wa k4)) (And.intro (hSn.2.1.ext (bdrew wa k4)) (hSn.2.2.ext (bdrew wa k4))); refine hK _ _ hSn ?_; clear hK; clear K; simp only [setL]
     refine WH.tk 21 ?_; simp only [setL]
     refine WH.tk 22 ?_; simp only [setL]
     refine WH.tk 23 ?_; simp only [setL]
     refine WH.tk 24 ?_; simp only [setL]
     refine WH.tk 25 ?_; simp only [setL]
     refine WH.tk 26 ?_; simp only [setL]
     refine WH.tk 27 ?_; simp only [setL]
     refine WH.tk 28 ?_; simp only [setL]
     refine WH.tk 29 ?_; simp only [setL]
     refine WH.tk 30 ?_; simp only [setL]
     refine WH.tk 31 ?_; simp only [setL]
     refine WH.skip 32 _ rfl (by kernel_rfl) (fun _ _ _ h => h) rfl (by assumption) ?_; simp only [setL]
     refine WH.skip 33 _ rfl (by kernel_rfl) (fun _ _ _ h => h) rfl (by assumption) ?_; simp only [setL]
     refine WH.skip 34 _ rfl (by kernel_rfl) (fun _ _ _ h => h) rfl (by assumption) ?_; simp only [setL]
     refine WH.tk 35 ?_; simp only [setL]
     refine WH.tk 36 ?_; simp only [setL]
     refine WH.done (by kernel_rfl) ?_
     go_wp2_with fail
     go_meet
     exact ⟨rfl, HE.out⟩
  case rest =>
  obtain ⟨rfl, hd⟩ := hcut
  have E9 := Lib.hid (bt E8.out hd)
  have HB9 := Lib.hid (HB8.out.ext hd)
  have HC9 := Lib.hid (HC8.out.ext hd)
  generalize wc = w9 at *
  clear hd E8 HB8 HC8 HU8 HV8 Hb8 d0 HNQ HRd HV Hs HRW0 HRT HT HVL HRL
  go_wp2_with fail
  go_loopw [11, 12, 13, 14, 15, 16, 17] (fun u fi so cl n _ _ wr => ∃ (m : Nat) (i : Int), m ≤ 8 ∧ n = .int .i64 i ∧ Hid (i = 7 - (m : Int)) ∧ fi = .int .i64 ((fstT f m).1 : Nat) ∧ so = .bool (fstT f m).2 ∧ cl = .bool (allT g m) ∧ Hid (OwnC wr w.heap.size 3 u (ivals (usedT f m))) ∧ Hid (Blk wr w.heap.size 22 (bcells b)) ∧ Hid (Blk wr g1 26 (bcells b)) ∧ Hid (Below w.heap.size w wr)) (fun _ _ _ _ n _ _ _ => (intOf n + 1).toNat)
  case atStart => exact ⟨0, 7, Nat.zero_le _, rfl, Lib.hid rfl, rfl, rfl, rfl, Lib.hid (OwnC.nil_ _ _ _), HB9, HC9, E9⟩
  case round =>
    obtain ⟨m, i, hm, rfl, HI, rfl, rfl, rfl, HO, HB, HC, E⟩ := hrel
    by_cases hlt : m < 8
    · obtain ⟨q, hq⟩ : ∃ q, m + q = 7 := ⟨7 - m, by omega⟩
      obtain rfl : i = (q : Int) := by have := HI.out; omega
      have HM := Lib.hid (show (q : Int) - 1 = 7 - ((m + 1 : Nat) : Int) by omega)
      have hq8 : q < 8 := by omega
      have HM8 := Lib.hid (show m + 1 ≤ 8 by omega)
      have hlen := usedT_len f m
      have HF1 := Lib.hid (show fstT f (m + 1) = if f q then (q, true) else fstT f m by show (if f (7 - m) then (7 - m, true) else fstT f m) = _; rw [show 7 - m = q from by omega])
      have HU1 := Lib.hid (show usedT f (m + 1) = if f q then usedT f m else (q : Int) :: usedT f m by show (if f (7 - m) then usedT f m else (((7 - m : Nat)) : Int) :: usedT f m) = _; rw [show 7 - m = q from by omega])
      have HA1 := Lib.hid (show allT g (m + 1) = (allT g m && g q) by show (allT g m && g (7 - m)) = _; rw [show 7 - m = q from by omega])
      obtain ⟨x, Hx⟩ : ∃ x, Hid (fstT f m = x) := ⟨_, Lib.hid rfl⟩
      obtain ⟨y, Hy⟩ : ∃ x, Hid (usedT f m = x) := ⟨_, Lib.hid rfl⟩
      obtain ⟨z, Hz⟩ : ∃ x, Hid (allT g m = x) := ⟨_, Lib.hid rfl⟩
      rw [Hx.out] at HF1 ⊢
      rw [Hy.out] at HU1 HO hlen
      rw [Hz.out] at HA1 ⊢
      have hl1 : 1 + (ivals y).length ≤ maxLen := by rw [ivals_len]; unfold maxLen; omega
      have hl2 : (1 + (ivals y).length) * 8 ≤ 140737488355328 := by rw [ivals_len]; omega
      have e0 : decide (0 ≤ (q : Int)) = true := decide_eq_true (by omega)
      clear hq hlt HI hlen Hx Hy Hz
      go_wp2_with (refine wpList_slice_arr_all rfl _ _ rfl 256 _ Try.underlying22 Try.byteSize w.heap.size rfl (by omega) ?_)
      refine (HNT.out q hq8 _ _ (RB.of_blk0 HB.out)).mono ?_; rintro e w2 ⟨rfl, hb2⟩
      have HB2 := Lib.hid (HB.out.ext hb2)
      have HC2 := Lib.hid (HC.out.ext hb2)
      have HO2 := Lib.hid (HO.out.ext hb2)
      have E2 := Lib.hid (bt E.out hb2)
      clear hb2 HB HC HO E
      cases hf : f q
      · have HFn := Lib.hid (show fstT f (m + 1) = x by rw [HF1.out, hf]; rfl)
        have HUn := Lib.hid (show usedT f (m + 1) = (q : Int) :: y by rw [HU1.out, hf]; rfl)
        clear hf HF1 HU1
        go_wp2_with (at_builtin; refine wpList_append_front rfl _ _ _ _ rfl Try.underlying47 (.int .i64 0) 8 Try.intInfo rfl w.heap.size _ _ rfl HO2.out (oneCell_ivals _) (.int .i64 q) rfl hl1 hl2 ?_)
        apply Stop.go
        intro v3 w3 Hv3 Hb3
        have HB3 := Lib.hid (HB2.out.ext Hb3.out)
        have HC3 := Lib.hid (HC2.out.ext Hb3.out)
        have E3 := Lib.hid (bt E2.out Hb3.out)
        have HO3 := Lib.hid (show OwnC w3 w.heap.size 3 v3 (ivals (usedT f (m + 1))) by rw [HUn.out]; exact Hv3.out.low E2.out.size)
        clear HB2 HC2 HO2 E2 Hv3 Hb3 hl1 hl2 HUn
        cases z
        all_goals
          go_wp2_with (refine wpList_slice_arr_all rfl _ _ rfl 256 _ Try.underlying22 Try.byteSize w.heap.size rfl (by omega) ?_); refine (HG.out (q : Int) _ _ (RB.of_blk0 HB3.out)).mono ?_; rintro e wy ⟨rfl, hby⟩; have HBy := Lib.hid (HB3.out.ext hby); have HCy := Lib.hid (HC3.out.ext hby); have Ey := Lib.hid (bt E3.out hby); have HOy := Lib.hid (HO3.out.ext hby); have HVq := Lib.hid (getTV_len b (q : Int)); clear hby HB3 HC3 E3 HO3; obtain ⟨V2, HV2⟩ : ∃ V, Hid (getTV b (q : Int) = V) := ⟨_, Lib.hid rfl⟩; rw [HV2.out] at HVq ⊢; clear HV2; go_wp2_with (refine wpList_alloc_row rfl _ rfl _ Try.inoZero ?_); apply Stop.go; intro wz Hgz Hbz; go_wp2_with (refine wpList_store_arr rfl _ _ _ rfl _ _ rfl rfl _ _ Hbz.out (Try.inoFits HVq.out) (by rw [icells_size, icells_size, HVq.out]; rfl) (oneCell_icells _) ?_); apply Stop.go; intro wv Hov Hbv; have Dv := Lib.hid (bonly Hgz.out.1 Hov.out (Nat.le_refl _)); have HBv := Lib.hid (HBy.out.ext Dv.out); have HCv := Lib.hid (HCy.out.ext Dv.out); have Ev := Lib.hid (bt Ey.out Dv.out); have HOv := Lib.hid (HOy.out.ext Dv.out); clear HBy HCy Ey HOy Hgz Hbz Hov Hbv Dv; go_wp2_with fail; go_roundw
          case rel => exact ⟨m + 1, (q : Int) - 1, HM8.out, by go_num, HM, by rw [HFn.out], by rw [HFn.out], by first | rw [HA1.out, Bool.false_and] | rw [HA1.out, Bool.true_and, HGQ.out], HOv, HBv, HCv, Ev⟩
          case measure => simp [intOf]
      · have HFn := Lib.hid (show fstT f (m + 1) = (q, true) by rw [HF1.out, hf]; rfl)
        have HO3 := Lib.hid (show OwnC w2 w.heap.size 3 _ (ivals (usedT f (m + 1))) by rw [HU1.out, hf]; exact HO2.out)
        clear hf HF1 HU1 HO2 hl1 hl2
        cases z
        all_goals
          go_wp2_with (refine wpList_slice_arr_all rfl _ _ rfl 256 _ Try.underlying22 Try.byteSize w.heap.size rfl (by omega) ?_); refine (HG.out (q : Int) _ _ (RB.of_blk0 HB2.out)).mono ?_; rintro e wy ⟨rfl, hby⟩; have HBy := Lib.hid (HB2.out.ext hby); have HCy := Lib.hid (HC2.out.ext hby); have Ey := Lib.hid (bt E2.out hby); have HOy := Lib.hid (HO3.out.ext hby); have HVq := Lib.hid (getTV_len b (q : Int)); clear hby HB2 HC2 E2 HO3; obtain ⟨V2, HV2⟩ : ∃ V, Hid (getTV b (q : Int) = V) := ⟨_, Lib.hid rfl⟩; rw [HV2.out] at HVq ⊢; clear HV2; go_wp2_with (refine wpList_alloc_row rfl _ rfl _ Try.inoZero ?_); apply Stop.go; intro wz Hgz Hbz; go_wp2_with (refine wpList_store_arr rfl _ _ _ rfl _ _ rfl rfl _ _ Hbz.out (Try.inoFits HVq.out) (by rw [icells_size, icells_size, HVq.out]; rfl) (oneCell_icells _) ?_); apply Stop.go; intro wv Hov Hbv; have Dv := Lib.hid (bonly Hgz.out.1 Hov.out (Nat.le_refl _)); have HBv := Lib.hid (HBy.out.ext Dv.out); have HCv := Lib.hid (HCy.out.ext Dv.out); have Ev := Lib.hid (bt Ey.out Dv.out); have HOv := Lib.hid (HOy.out.ext Dv.out); clear HBy HCy Ey HOy Hgz Hbz Hov Hbv Dv; go_wp2_with fail; go_roundw
          case rel => exact ⟨m + 1, (q : Int) - 1, HM8.out, by go_num, HM, by rw [HFn.out], by rw [HFn.out], by first | rw [HA1.out, Bool.false_and] | rw [HA1.out, Bool.true_and, HGQ.out], HOv, HBv, HCv, Ev⟩
          case measure => simp [intOf]
    · obtain rfl : m = 8 := by omega
      obtain rfl : i = -1 := by have := HI.out; omega
      obtain ⟨x, Hx⟩ : ∃ x, Hid (fstT f 8 = x) := ⟨_, Lib.hid rfl⟩
      obtain ⟨y, Hy⟩ : ∃ x, Hid (usedT f 8 = x) := ⟨_, Lib.hid rfl⟩
      obtain ⟨z, Hz⟩ : ∃ x, Hid (allT g 8 = x) := ⟨_, Lib.hid rfl⟩
      have hlen := usedT_len f 8
      rw [Hx.out] at HFR ⊢
      rw [Hy.out] at HUS HO hlen
      rw [Hz.out] at HCL ⊢
      obtain ⟨x1, x2⟩ := x
      have hm1 : y.length ≤ maxLen := by unfold maxLen; omega
      have d1 : ((x1 : Int) == (x1 : Int)) = true := by simp
      have d2 : (x2 == x2) = true := by simp
      have d3 : (z == z) = true := by simp
      clear hlt hm hlen Hx Hy Hz HI
      go_wp2_with (refine wpList_load_arr rfl _ _ rfl _ rfl _ _ HC.out _ _ Try.underlying26 (Try.blockFits HbL.out) ?_)
      refine (HFR.out _).mono ?_; rintro e w2 ⟨rfl, hb2⟩
      have HC2 := Lib.hid (HC.out.ext hb2)
      have HO2 := Lib.hid (HO.out.ext hb2)
      have E2 := Lib.hid (bt E.out hb2)
      clear hb2 HB HC HO E
      go_wp2_with (refine wpList_load_arr rfl _ _ rfl _ rfl _ _ HC2.out _ _ Try.underlying26 (Try.blockFits HbL.out) ?_)
      refine (HUS.out _).mono ?_; rintro e w3 ⟨v3, rfl, hv3, hb3⟩
      have HC3 := Lib.hid (HC2.out.ext hb3)
      have HO3 := Lib.hid (HO2.out.ext hb3)
      have E3 := Lib.hid (bt E2.out hb3)
      have HV3 := Lib.hid hv3
      clear hb3 HC2 HO2 E2 hv3
      obtain ⟨A4, c4, rfl, hc4, hm4, hr4⟩ := HO3.out.ints
      obtain ⟨A5, c5, rfl, hc5, hm5, hr5⟩ := HV3.out.ints
      have Hr4 := Lib.hid hr4
      have Hr5 := Lib.hid hr5
      clear hr4 hr5 HO3 HV3
      go_wp2_with fail
      refine (ints_any A5 y.length c5 y rfl A4 y.length c4 y rfl hm1 hm1 _ Hr5.out Hr4.out).mono ?_; rintro e w6 ⟨rfl, k6, rfl⟩
      rw [show decide (y = y) = true from by simp]
      have hb6 := bdrew w3 k6
      obtain ⟨w6, hw6⟩ : ∃ x, w3.drewN k6 = x := ⟨_, rfl⟩
      rw [hw6] at hb6 ⊢
      have HC6 := Lib.hid (HC3.out.ext hb6)
      have E6 := Lib.hid (bt E3.out hb6)
      clear hw6 hb6 HC3 E3 Hr4 Hr5 hc4 hm4 hc5 hm5
      go_wp2_with (refine wpList_load_arr rfl _ _ rfl _ rfl _ _ HC6.out _ _ Try.underlying26 (Try.blockFits HbL.out) ?_)
      refine (HCL.out _).mono ?_; rintro e w7 ⟨rfl, hb7⟩
      have E7 := Lib.hid (bt E6.out hb7)
      clear hb7 HC6 E6
      go_wp2_with fail
      refine (works17_any _).mono ?_; rintro e w8 ⟨rfl, hb8⟩
      go_wp2_with fail
      go_ret
      exact ⟨rfl, bt E7.out hb8⟩

end Go.Proofs.Ytdngfonbobcgjaa
