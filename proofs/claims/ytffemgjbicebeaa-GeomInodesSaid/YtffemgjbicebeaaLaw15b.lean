/-
  Layer 15: the walk of GeomInodes.
-/
import Derived.Test.YtffemgjbicebeaaLaw15
import Derived.Deep.CutRange
namespace Go.Proofs.Ytffemgjbicebeaa
open Go.RowKit

theorem Try.two2 : (Try.prog.info? 34).map (·.size) = some 2 := by kernel_rfl
set_option maxHeartbeats 3200000 in
theorem geomInodes_any (l : Lay14) (i p q : Int) (hp : p < 9223372036854775808) (w : World) :
    Calls Try.prog 4 #[.agg l.val, .int .i64 i, .agg #[.int .i64 p, .int .i64 q]] w fun e w' => e = .returned (.bool true) ∧ Below w.heap.size w w' := by
  have HP := Lib.hid hp
  have HDB := Lib.hid (show l.data ≤ 18 from by have := l.bounds; omega)
  clear hp
  obtain ⟨b, Hb⟩ : ∃ x, Hid (l.wb i = x) := ⟨_, Lib.hid rfl⟩
  obtain ⟨k, Hk⟩ : ∃ x, Hid (l.wk i = x) := ⟨_, Lib.hid rfl⟩
  obtain ⟨s, Hs⟩ : ∃ x, Hid (l.isI i = x) := ⟨_, Lib.hid rfl⟩
  have e1 : (b != b) = false := by simp
  have e2 : (k != k) = false := by simp
  have e3 : (s != s) = false := by simp
  go_enter Try.func4, Try.ntmps4
  go_wp2_with (refine wpList_box_row rfl _ _ rfl _ rfl ?_)
  apply Stop.go; intro w1 Hg1 Hb1
  go_wp2_with (refine wpList_box_row rfl _ _ rfl _ rfl ?_)
  apply Stop.go; intro w2 Hg2 Hb2
  have z1 := Lib.hid Hg1.out.2
  have HX2 := Lib.hid (Hb1.out.below Hg2.out.1 (by rw [z1.out]; omega))
  have E2 := Lib.hid (bt Hg1.out.1 Hg2.out.1)
  generalize w1.heap.size = g3 at *
  clear Hb1 Hg1 Hg2 z1
  go_wp2_with (refine wpList_load_blk rfl _ _ rfl _ rfl _ _ HX2.out _ Try.underlying24 rfl Try.laySize ?_)
  refine (gwhere_any l i _).mono ?_; rintro e w3 ⟨rfl, hb3⟩
  rw [Hb.out, Hk.out, Hs.out]
  have E3 := Lib.hid (bt E2.out hb3)
  have HX3 := Lib.hid (HX2.out.ext hb3)
  have HY3 := Lib.hid (Hb2.out.ext hb3)
  clear hb3 E2 HX2 Hb2
  go_wp2_with (refine wpList_load_blk rfl _ _ rfl _ rfl _ _ HX3.out _ Try.underlying24 rfl Try.laySize ?_)
  refine (rwhere_any l i _).mono ?_; rintro e w4 ⟨rfl, hb4⟩
  rw [Hb.out, Hk.out, Hs.out]
  have E4 := Lib.hid (bt E3.out hb4)
  have HX4 := Lib.hid (HX3.out.ext hb4)
  have HY4 := Lib.hid (HY3.out.ext hb4)
  clear hb4 E3 HX3 HY3
  go_upto_region 3 with fail
  go_cut [50] from 29 to 50 (fun v wx => v = .bool false ∧ Below w4.heap.size w4 wx)
  case first =>
    refine WH.start (S := fun w' : World => Blk w' w.heap.size 24 l.val) [false, false, false, false, false, false, false, false, false, false, false, false, false, false, false, false, false, false, false, false, false, false] 22 rfl rfl (by kernel_rfl) (HX4.out.ext (bdrew w4 1)) (fun hSn => ?_); obtain ⟨wS, hwS⟩ : ∃ x, (w4).drew = x := ⟨_, rfl⟩; have HE := Lib.hid (show Below (w4).heap.size (w4) wS from hwS ▸ bdrew w4 1); rw [hwS] at hSn ⊢; clear hwS
    refine WH.tk 0 ?_; simp only [setL]
    refine WH.tk 1 ?_; simp only [setL]
    refine WH.tk 2 ?_; simp only [setL]
    refine WH.tk 3 ?_; simp only [setL]
    refine WH.tk 4 ?_; simp only [setL]
    refine WH.tk 5 ?_; simp only [setL]
    refine WH.tk 6 ?_; simp only [setL]
    refine WH.tk 7 ?_; simp only [setL]
    refine WH.tk 8 ?_; simp only [setL]
    refine WH.tk 9 ?_; simp only [setL]
    refine WH.tk 10 ?_; simp only [setL]
    refine WH.tk 11 ?_; simp only [setL]
    refine WH.tk 12 ?_; simp only [setL]
    refine WH.tk 13 ?_; simp only [setL]
    refine WH.tv 14 rfl (fun w' hSw => exec_load_blk _ _ rfl _ rfl _ _ (hSw) _ (Try.underlying24) rfl (Try.laySize)) ?_; simp only [setL]
    refine WH.tk 15 ?_; simp only [setL]
    refine WH.tv 17 rfl (fun w' hSw => exec_load_blk _ _ rfl _ rfl _ _ (hSw) _ (Try.underlying24) rfl (Try.laySize)) ?_; simp only [setL]
    refine WH.tk 18 ?_; simp only [setL]
    refine WH.only 16 _ rfl (by kernel_rfl) rfl (fun K hK => ?_)
    go_simp; refine (isinode_any l i _).mono ?_; rintro e wa ⟨rfl, hba⟩; go_simp
    rw [Hs.out]
    have HE := Lib.hid (bt HE.out hba)
    have hSn := hSn.ext hba; refine hK _ _ hSn ?_; clear hK; clear K; simp only [setL]
    refine WH.only 19 _ rfl (by kernel_rfl) rfl (fun K hK => ?_)
    go_simp; refine (ris_any l i _).mono ?_; rintro e wb ⟨rfl, hbb⟩; go_simp
    rw [Hs.out]
    have HE := Lib.hid (bt HE.out hbb)
    have hSn := hSn.ext hbb; refine hK _ _ hSn ?_; clear hK; clear K; simp only [setL]
    refine WH.tk 20 ?_; simp only [setL]
    refine WH.tk 21 ?_; simp only [setL]
    refine WH.done (by kernel_rfl) ?_
    go_wp2_with fail
    go_meet
    exact ⟨rfl, HE.out⟩
  case rest =>
  obtain ⟨rfl, hd⟩ := hcut
  have E5 := Lib.hid (bt E4.out hd)
  have HX5 := Lib.hid (HX4.out.ext hd)
  have HY5 := Lib.hid (HY4.out.ext hd)
  generalize wc = w5 at *
  clear hd E4 HX4 HY4
  have c0 : w5.cell? ⟨g3, 0, none⟩ = some (.int .i64 p) := HY5.out.cell 0
  have c1 : w5.cell? ⟨g3, 1, none⟩ = some (.int .i64 q) := HY5.out.cell 1
  go_wp2_with (refine wpList_load_blk rfl _ _ rfl _ rfl _ _ HX5.out _ Try.underlying24 rfl Try.laySize ?_)
  refine (inode_any l p q _).mono ?_; rintro e w6 ⟨rfl, hb6⟩
  have E6 := Lib.hid (bt E5.out hb6)
  have HX6 := Lib.hid (HX5.out.ext hb6)
  have HY6 := Lib.hid (HY5.out.ext hb6)
  clear hb6 E5 HX5 HY5 c0 c1
  have c0 : w6.cell? ⟨g3, 0, none⟩ = some (.int .i64 p) := HY6.out.cell 0
  have c1 : w6.cell? ⟨g3, 1, none⟩ = some (.int .i64 q) := HY6.out.cell 1
  obtain ⟨z, HZ⟩ : ∃ x, Hid (l.ino p q = x) := ⟨_, Lib.hid rfl⟩
  obtain ⟨t, Ht⟩ : ∃ x, Hid (l.has p q = x) := ⟨_, Lib.hid rfl⟩
  rw [HZ.out, Ht.out]
  go_wp2_with (refine wpList_load_blk rfl _ _ rfl _ rfl _ _ HX6.out _ Try.underlying24 rfl Try.laySize ?_)
  refine (area_any l p HP.out _).mono ?_; rintro e w7 ⟨rfl, hb7⟩
  have E7 := Lib.hid (bt E6.out hb7)
  have HY7 := Lib.hid (HY6.out.ext hb7)
  clear hb7 E6 HX6 HY6 c0 c1
  have c0 : w7.cell? ⟨g3, 0, none⟩ = some (.int .i64 p) := HY7.out.cell 0
  have c1 : w7.cell? ⟨g3, 1, none⟩ = some (.int .i64 q) := HY7.out.cell 1
  obtain ⟨a, Ha⟩ : ∃ x, Hid (l.area p = x) := ⟨_, Lib.hid rfl⟩
  rw [Ha.out]
  have HQ := Lib.hid (l.has_area (b := p) (k := q))
  rw [Ht.out, Ha.out] at HQ
  cases t
  · have hz : z = 0 := by
      rw [← HZ.out]
      unfold Lay14.ino
      rw [if_neg (by rw [Ht.out]; simp)]
    subst hz
    by_cases h3 : a = 3
    · subst h3
      by_cases hq0 : q < 0
      · go_wp2_with fail
        refine (works15_any _).mono ?_; rintro e w8 ⟨rfl, hb8⟩
        have E8 := Lib.hid (bt E7.out hb8)
        clear hb8
        go_wp2_with fail
        go_ret
        exact ⟨rfl, E8.out⟩
      · have hq7 : 7 < q := by
          by_cases h : 7 < q
          · exact h
          · have hc := HQ.out.2 ⟨rfl, by omega, by omega⟩
            cases hc
        go_wp2_with fail
        refine (works15_any _).mono ?_; rintro e w8 ⟨rfl, hb8⟩
        have E8 := Lib.hid (bt E7.out hb8)
        clear hb8
        go_wp2_with fail
        go_ret
        exact ⟨rfl, E8.out⟩
    · have d3 : (a != 3) = true := by simpa using h3
      clear h3
      go_wp2_with fail
      refine (works15_any _).mono ?_; rintro e w8 ⟨rfl, hb8⟩
      have E8 := Lib.hid (bt E7.out hb8)
      clear hb8
      go_wp2_with fail
      go_ret
      exact ⟨rfl, E8.out⟩
  · have hh := of_decide_eq_true Ht.out
    have hz : z = 8 * (p - 2) + q + 1 := by
      rw [← HZ.out]
      unfold Lay14.ino
      rw [if_pos Ht.out, Int.mul_comm]
    subst hz
    have hq : a = 3 ∧ 0 ≤ q ∧ q < 8 := HQ.out.1 rfl
    obtain ⟨rfl, hq0, hq8⟩ := hq
    have hp2 : 2 ≤ p := hh.1
    have hp18 : p < 18 := by have := HDB.out; omega
    have hq7 : q ≤ 7 := by omega
    clear hh
    have e4 : ((8 * (p - 2) + q + 1 : Int) == 8 * (p - 2) + q + 1) = true := by simp
    go_wp2_with fail
    refine (works15_any _).mono ?_; rintro e w8 ⟨rfl, hb8⟩
    have E8 := Lib.hid (bt E7.out hb8)
    clear hb8
    go_wp2_with fail
    go_ret
    exact ⟨rfl, E8.out⟩

end Go.Proofs.Ytffemgjbicebeaa
