/-
  Layer 18: works, and the walk of BucketNews.
-/
import Derived.Test.YtmojappbgghpbaaBck6
import Derived.Test.YtmojappbgghpbaaRef18c
namespace Go.Proofs.Ytmojappbgghpbaa
open Go.RowKit

def ex18 : List En := [⟨⟨#[97]⟩, 5⟩]
theorem ex18_err : errB ex18 = 0 := by decide +kernel
theorem ex18_list : listS (newB ex18) 7 = [(0, ⟨⟨#[97]⟩, 5⟩)] := by kernel_rfl
theorem ex18_room : roomS (newB ex18) = some 1 := by decide +kernel
theorem ex18_size : ∀ e ∈ ex18, e.name.size ≤ maxLen := by
  intro e he
  rw [show ex18 = [⟨⟨#[97]⟩, 5⟩] from rfl, List.mem_singleton] at he
  subst he
  show (1 : Nat) ≤ maxLen
  unfold maxLen
  omega

theorem Try.entInfo : (Try.prog.info? 39).map (fun i => (i.zero, i.size, i.bytes)) = some (some (.agg #[.string ⟨#[]⟩, .int .i64 0]), 2, 24) := by kernel_rfl
theorem eql_slot_same (a b : Int) (s : ByteArray) (w : World) : (binOp .eql 43 (.agg #[.int .i64 a, .string s, .int .i64 b]) (.agg #[.int .i64 a, .string s, .int .i64 b])).run Try.prog w = .ok (.bool true) w := by
  go_simp
theorem neq_slot_same (a b : Int) (s : ByteArray) (w : World) : (binOp .neq 43 (.agg #[.int .i64 a, .string s, .int .i64 b]) (.agg #[.int .i64 a, .string s, .int .i64 b])).run Try.prog w = .ok (.bool false) w := by
  go_simp
theorem neq_ent_same (b : Int) (s : ByteArray) (w : World) : (binOp .neq 39 (.agg #[.string s, .int .i64 b]) (.agg #[.string s, .int .i64 b])).run Try.prog w = .ok (.bool false) w := by
  go_simp

set_option maxRecDepth 4000 in
set_option maxHeartbeats 1600000 in
theorem works18_any (w : World) : Calls Try.prog 9 #[] w fun e w' => e = .returned (.bool true) ∧ Below w.heap.size w w' := by
  have HzL : Hid ((zeros 256).length = 256) := Lib.hid (zeros_len _)
  have HNL := Lib.hid (newB_len ex18)
  have HE := Lib.hid ex18_err
  have HLs := Lib.hid ex18_list
  have HRm := Lib.hid ex18_room
  have HRv := Lib.hid (show roomV (newB ex18) = 1 by unfold roomV; rw [ex18_room]; rfl)
  go_enter Try.func9, Try.ntmps9
  go_wp2_with (refine wpList_build_row rfl _ _ _ rfl Try.underlying22 2 _ _ Try.entInfo (by decide) (by decide) #[.string ⟨#[97]⟩, .int .i64 5] rfl rfl ?_)
  apply Stop.go; intro w1 Hg1 Hb1
  go_wp2_with fail
  refine (bnew_any _ 1 _ ex18 rfl (by unfold maxLen; omega) ex18_size _ (RN.one Hb1.out rfl)).mono ?_; rintro e w2 ⟨rfl, hb2⟩
  rw [HE.out]
  obtain ⟨X, hX⟩ : ∃ X, newB ex18 = X := ⟨_, rfl⟩
  rw [hX] at HNL HLs HRm HRv ⊢
  have E2 := Lib.hid (bt Hg1.out.1 hb2)
  have z2 := Lib.hid (show w.heap.size ≤ w2.heap.size from E2.out.size)
  clear hX hb2 Hb1 Hg1
  go_wp2_with (refine wpList_alloc_row rfl _ rfl _ Try.blockZero ?_)
  apply Stop.go; intro w3 Hg3 Hb3
  go_wp2_with (refine wpList_store_arr rfl _ _ _ rfl _ _ rfl rfl _ _ Hb3.out (Try.blockFits HNL.out) (by rw [bcells_size, bcells_size, HNL.out, HzL.out]) (oneCell_bcells _) ?_)
  apply Stop.go; intro w4 Ho4 Hb4
  have E4 := Lib.hid (bonly (bt E2.out Hg3.out.1) Ho4.out z2.out)
  generalize w2.heap.size = g2 at *
  clear Hg3 Hb3 Ho4 E2 z2
  go_wp2_with (refine wpList_load_arr rfl _ _ rfl _ rfl _ _ Hb4.out _ _ Try.underlying26 (Try.blockFits HNL.out) ?_)
  refine (blist_any X HNL.out _).mono ?_; rintro e w5 ⟨v, rfl, hv5, hb5⟩
  obtain ⟨A, c, rfl, hc1, hc2, hr5⟩ := hv5.read
  rw [srows_len, HLs.out]
  rw [HLs.out] at hr5
  obtain ⟨ad, rfl⟩ := hr5.adr (k := 0) (by decide) (by decide)
  have HX5 := Lib.hid (Hb4.out.ext hb5)
  have E5 := Lib.hid (bt E4.out hb5)
  have HR5 := Lib.hid hr5
  clear hv5 hc1 hc2 hr5 hb5 Hb4 E4
  go_wp2_with (refine wpList_load_arr rfl _ _ rfl _ rfl _ _ HX5.out _ _ Try.underlying26 (Try.blockFits HNL.out) ?_)
  refine (broom_any X HNL.out _).mono ?_; rintro e w6 ⟨rfl, hb6⟩
  rw [HRv.out, HRm.out]
  have hC6 := (HR5.out.below hb6).row (k := 0) (r := [.int .i64 0, .string ⟨#[97]⟩, .int .i64 5]) rfl rfl
  have HC6 := Lib.hid hC6
  have E6 := Lib.hid (bt E5.out hb6)
  clear hC6 hb6 HX5 E5 HR5
  go_wp2_with (first | refine wpList_load_cells rfl _ _ rfl (ad.add (0 * 3)) rfl _ Try.underlying43 [.int .i64 0, .string ⟨#[97]⟩, .int .i64 5] Try.slotSize HC6.out ?_ | refine wpList_eql_agg rfl _ _ _ _ _ rfl (by kernel_rfl) _ _ rfl rfl _ (eql_slot_same 0 5 ⟨#[97]⟩ _) ?_)
  go_ret
  exact ⟨rfl, E6.out⟩

set_option maxRecDepth 4000 in
set_option maxHeartbeats 1600000 in
theorem bucketNews_any (A : Option Addr) (n cap : Nat) (l : List En) (hn : l.length = n) (hm : n ≤ maxLen) (w : World) (hr : RN w A 2 (erows l)) :
    Calls Try.prog 3 #[.slice A n cap] w fun e w' => e = .returned (.bool true) ∧ Below w.heap.size w w' := by
  have HzL : Hid ((zeros 256).length = 256) := Lib.hid (zeros_len _)
  have HNL := Lib.hid (newB_len l)
  have HM := Lib.hid (fun w h => rmuch18_any A n cap l hn hm 20 (by omega) w h)
  have HBn := Lib.hid (fun hs w h => bnew_any A n cap l hn hm hs w h)
  have HRn := Lib.hid (fun hs w h => rnew18_any A n cap l hn hm hs w h)
  have Hr := Lib.hid hr
  clear hr hn hm
  go_enter Try.func3, Try.ntmps3
  go_wp2_with fail
  refine (HM.out _ Hr.out).mono ?_; rintro e w1 ⟨rfl, hb1⟩
  have E1 := Lib.hid hb1
  clear hb1 HM
  cases hmu : muchB l 20
  · have hs := (muchB_no hmu).2
    have Hs := Lib.hid (show ∀ e ∈ l, e.name.size ≤ maxLen from fun e he => Nat.le_trans (hs e he) (by unfold maxLen; omega))
    clear hmu hs
    go_wp2_with fail
    refine (HBn.out Hs.out _ (Hr.out.below E1.out)).mono ?_; rintro e w2 ⟨rfl, hb2⟩
    have E2 := Lib.hid (bt E1.out hb2)
    have z2 := Lib.hid (show w.heap.size ≤ w2.heap.size from E2.out.size)
    have HZ := Lib.hid (fun (h : errB l ≠ 0) => newB_err h)
    have HO := Lib.hid (fun (h : errB l = 0) => show newD l = newB l by rw [newD_ok h, newB_ok h])
    have HRt := Lib.hid (fun (h : errB l = 0) => show rightS (newB l) = true by
      rw [newB_ok h]
      obtain ⟨h1, h2, h3⟩ := errB_zero.1 h
      exact newS_right h2 h1 h3)
    obtain ⟨X, hX⟩ : ∃ X, newB l = X := ⟨_, rfl⟩
    rw [hX] at HNL HZ HO HRt ⊢
    clear hX hb2 E1 HBn
    go_wp2_with (refine wpList_alloc_row rfl _ rfl _ Try.blockZero ?_)
    apply Stop.go; intro w3 Hg3 Hb3
    go_wp2_with (refine wpList_store_arr rfl _ _ _ rfl _ _ rfl rfl _ _ Hb3.out (Try.blockFits HNL.out) (by rw [bcells_size, bcells_size, HNL.out, HzL.out]) (oneCell_bcells _) ?_)
    apply Stop.go; intro w4 Ho4 Hb4
    have E4 := Lib.hid (bonly (bt E2.out Hg3.out.1) Ho4.out z2.out)
    generalize w2.heap.size = g2 at *
    clear Hg3 Hb3 Ho4 E2
    go_wp2_with fail
    refine (HRn.out Hs.out _ (Hr.out.below E4.out)).mono ?_; rintro e w5 ⟨A5, n5, c5, rfl, hl5, hc5, hm5, hr5, hb5⟩
    have HX5 := Lib.hid (Hb4.out.ext hb5)
    have E5 := Lib.hid (bt E4.out hb5)
    have HL5 := Lib.hid hl5
    have HR5 := Lib.hid hr5
    clear hl5 hc5 hm5 hr5 hb5 Hb4 E4 HRn
    obtain ⟨er, he⟩ : ∃ e, errB l = e := ⟨_, rfl⟩
    rw [he] at HZ HO HRt ⊢
    clear he
    have d0 : (er != er) = false := by simp
    by_cases h0 : er = 0
    · subst h0
      have HRy := Lib.hid (HRt.out rfl)
      rw [HO.out rfl] at HL5 HR5
      clear HO HRt HZ
      obtain rfl : n5 = 256 := by rw [← HL5.out, HNL.out]
      go_wp2_with (refine wpList_slice_arr_all rfl _ _ rfl 256 _ Try.underlying26 Try.byteSize g2 rfl (by omega) ?_)
      refine (same_any _ _ _ X HNL.out _ _ _ X HNL.out (by unfold maxLen; omega) (by unfold maxLen; omega) _ (RB.of_blk0 HX5.out) HR5.out).mono ?_; rintro e w6 ⟨rfl, k6, rfl⟩
      rw [show decide (X = X) = true from by simp]
      have HX6 := Lib.hid (HX5.out.ext (bdrew w5 k6))
      have E6 := Lib.hid (bt E5.out (bdrew w5 k6))
      generalize w5.drewN k6 = w6 at *
      clear HX5 E5 HR5
      go_wp2_with (refine wpList_load_arr rfl _ _ rfl _ rfl _ _ HX6.out _ _ Try.underlying26 (Try.blockFits HNL.out) ?_)
      refine (bright_any X HNL.out _).mono ?_; rintro e w7 ⟨rfl, hb7⟩
      rw [HRy.out]
      have E7 := Lib.hid (bt E6.out hb7)
      clear hb7 HX6 E6
      go_wp2_with fail
      refine (works18_any _).mono ?_; rintro e w8 ⟨rfl, hb8⟩
      go_wp2_with fail
      go_ret
      exact ⟨rfl, bt E7.out hb8⟩
    · have HZ := Lib.hid (HZ.out h0)
      have d1 : (er != 0) = true := by simpa using h0
      rw [HZ.out] at HX5
      clear h0
      go_wp2_with (first | refine wpList_load_arr rfl _ _ rfl _ rfl _ _ HX5.out _ _ Try.underlying26 (Try.blockFits HzL.out) ?_ | refine wpList_build_zero rfl _ rfl _ Try.blockZero _ _ Try.underlying26 Try.byteSize ?_ | refine wpList_eql_arr rfl _ _ _ _ rfl (by kernel_rfl) _ _ Try.underlying26 Try.underlying5 Try.byteSize _ _ rfl rfl HzL.out HzL.out true (by simp) ?_)
      refine (works18_any _).mono ?_; rintro e w8 ⟨rfl, hb8⟩
      go_wp2_with fail
      go_ret
      exact ⟨rfl, bt E5.out hb8⟩
  · clear hmu
    go_wp2_with fail
    refine (works18_any _).mono ?_; rintro e w2 ⟨rfl, hb2⟩
    go_wp2_with fail
    go_ret
    exact ⟨rfl, bt E1.out hb2⟩

end Go.Proofs.Ytmojappbgghpbaa
