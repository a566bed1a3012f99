/-
  The walk of NamePacks.
-/
import Derived.Test.YtfgkbjpiffaeeaaLaw03
import Derived.Test.YtfgkbjpiffaeeaaHeld
namespace Go.Proofs.Ytfgkbjpiffaeeaa
open Go.RowKit

set_option maxHeartbeats 2000000 in
theorem namePacks_any (s : ByteArray) (hs : s.size ≤ maxLen) (L : List UInt8) (hL : L.length = 25) (w : World) :
    Calls Try.prog 5 #[.string s, .agg (bcells L)] w fun e w' => e = .returned (.bool true) ∧ Below w.heap.size w w' := by
  have Hs := Lib.hid hs
  have HL := Lib.hid hL
  clear hs hL
  by_cases h1 : s.size ≤ 300
  · have d1 : decide ((300 : Int) < s.size) = false := by simp; omega
    have Lp := Lib.hid (packN_len s)
    have sl : ∀ (g : Nat) (w' : World), (Instr.sliceAt 36 (.pointer (some ⟨g, 0, none⟩)) none none none).run Try.prog w' = .ok (.slice (some ⟨g, 0, none⟩) 25 25) w' := fun g w' => (run_slice_arr Try.prog w' 36 25 5 Try.underlying36 Try.packByte g 0 25 (by omega) (by omega) (by omega) .i64 .i64).2.2.2 rfl rfl
    go_enter Try.func5, Try.ntmps5
    go_wp2_with (refine wpList_box_row rfl _ _ rfl _ rfl ?_)
    apply Stop.go; intro w1 Hg1 Hb1
    go_wp2_with fail
    refine (pack_any s Hs.out _).mono ?_; rintro e w2 ⟨rfl, hb2⟩
    have Hw2 := Lib.hid (bt Hg1.out.1 hb2)
    have Hb2 := Lib.hid (Hb1.out.ext hb2)
    clear hb2
    go_wp2_with (refine wpList_alloc_row rfl _ rfl _ Try.packZero ?_)
    apply Stop.go; intro w3 Hg3 Hx3
    go_wp2_with (refine wpList_store_arr rfl _ _ _ rfl _ _ rfl rfl _ _ Hx3.out (Try.packFits Lp.out) (by rw [bcells_size, bcells_size, Lp.out, zeros_len]) (oneCell_bcells _) ?_)
    apply Stop.go; intro w4 Ho4 Hx4
    have Hw4 := Lib.hid (bonly (bt Hw2.out Hg3.out.1) Ho4.out Hw2.out.size)
    have Hb4 := Lib.hid ((Hb2.out.ext Hg3.out.1).only Ho4.out (Nat.ne_of_lt Hb2.out.lt))
    iterate 8 go_step
    refine WH.start (S := fun w' : World => Below w4.heap.size w4 w') [false, false, false, false, false, false, false, false, false, false, false, false, false, false, false, false, false, false, false, false, false, false, false, false, false, false] 26 rfl rfl (by kernel_rfl) (bdrew w4 1) (fun hSn => ?_)
    refine WH.take 0 _ ?_ rfl (by kernel_rfl) (fun _ _ _ h => h) rfl (by assumption) ?_ ?_; rotate_left; (focus (intro w hSw; (try dsimp only at hSw); (first | (go_simp; done) | (go_simp; with_reducible rfl)))); simp only [Act.put, List.setIfInBounds_toArray, List.set_cons_zero, List.set_cons_succ]
    refine WH.take 1 _ ?_ rfl (by kernel_rfl) (fun _ _ _ h => h) rfl (by assumption) ?_ ?_; rotate_left; (focus (intro w hSw; (try dsimp only at hSw); (first | (go_simp; done) | (go_simp; with_reducible rfl)))); simp only [Act.put, List.setIfInBounds_toArray, List.set_cons_zero, List.set_cons_succ]
    refine WH.only 2 _ rfl (by kernel_rfl) rfl (fun K hK => ?_); go_simp; refine (right_any s Hs.out _).mono ?_; rintro e wa ⟨rfl, rfl⟩; go_simp
    have hSn := hSn; refine hK _ _ hSn ?_; clear hK; clear K; simp only [List.set_cons_zero, List.set_cons_succ]
    refine WH.only 3 _ rfl (by kernel_rfl) rfl (fun K hK => ?_); go_simp; refine (is_any _ _ _).mono ?_; rintro e wb ⟨rfl, rfl⟩; go_simp
    have hSn := hSn; refine hK _ _ hSn ?_; clear hK; clear K; simp only [List.set_cons_zero, List.set_cons_succ]
    cases hr : rightN s
    · have Hr := Lib.hid hr
      have Hp := Lib.hid (show packN s = zeros 25 by unfold packN; rw [hr]; rfl)
      clear hr
      refine WH.take 4 _ ?_ rfl (by kernel_rfl) (fun _ _ _ h => h) rfl (by assumption) ?_ ?_; rotate_left; (focus (intro w hSw; (try dsimp only at hSw); (first | (go_simp; done) | (go_simp; with_reducible rfl)))); simp only [Act.put, List.setIfInBounds_toArray, List.set_cons_zero, List.set_cons_succ]
      refine WH.take 5 _ ?_ rfl (by kernel_rfl) (fun _ _ _ h => h) rfl (by assumption) ?_ ?_; rotate_left; (focus (intro w hSw; (try dsimp only at hSw); (first | (go_simp; done) | (go_simp; with_reducible rfl)))); simp only [Act.put, List.setIfInBounds_toArray, List.set_cons_zero, List.set_cons_succ]
      refine WH.take 6 _ ?_ rfl (by kernel_rfl) (fun _ _ _ h => h) rfl (by assumption) ?_ ?_; rotate_left; (focus (intro w hSw; (try dsimp only at hSw); (first | (go_simp; done) | (go_simp; with_reducible rfl)))); simp only [Act.put, List.setIfInBounds_toArray, List.set_cons_zero, List.set_cons_succ]
      refine WH.only 7 _ rfl (by kernel_rfl) rfl (fun K hK => ?_); go_simp; refine (right_any s Hs.out _).mono ?_; rintro e wc ⟨rfl, rfl⟩; go_simp
      rw [Hr.out]
      have hSn := hSn; refine hK _ _ hSn ?_; clear hK; clear K; simp only [List.set_cons_zero, List.set_cons_succ]
      refine WH.take 8 _ ?_ rfl (by kernel_rfl) (fun _ _ _ h => h) rfl (by assumption) ?_ ?_; rotate_left; (focus (intro w hSw; (try dsimp only at hSw); (first | (go_simp; done) | (go_simp; with_reducible rfl)))); simp only [Act.put, List.setIfInBounds_toArray, List.set_cons_zero, List.set_cons_succ]
      refine WH.skip 9 _ rfl (by kernel_rfl) (fun _ _ _ h => h) rfl (by assumption) ?_; simp only [Act.put, List.setIfInBounds_toArray, List.set_cons_zero, List.set_cons_succ]
      refine WH.skip 10 _ rfl (by kernel_rfl) (fun _ _ _ h => h) rfl (by assumption) ?_; simp only [Act.put, List.setIfInBounds_toArray, List.set_cons_zero, List.set_cons_succ]
      refine WH.onlySkip 11 _ rfl (by kernel_rfl) rfl (by assumption) ?_; simp only [Act.put, List.setIfInBounds_toArray, List.set_cons_zero, List.set_cons_succ]
      refine WH.onlySkip 12 _ rfl (by kernel_rfl) rfl (by assumption) ?_; simp only [Act.put, List.setIfInBounds_toArray, List.set_cons_zero, List.set_cons_succ]
      refine WH.skip 13 _ rfl (by kernel_rfl) (fun _ _ _ h => h) rfl (by assumption) ?_; simp only [Act.put, List.setIfInBounds_toArray, List.set_cons_zero, List.set_cons_succ]
      refine WH.take 14 _ ?_ rfl (by kernel_rfl) (fun _ _ _ h => h) rfl (by assumption) ?_ ?_; rotate_left; (focus (intro w hSw; (try dsimp only at hSw); (first | (go_simp; done) | (go_simp; with_reducible rfl)))); simp only [Act.put, List.setIfInBounds_toArray, List.set_cons_zero, List.set_cons_succ]
      refine WH.take 15 _ ?_ rfl (by kernel_rfl) (fun _ _ _ h => h) rfl (by assumption) ?_ ?_; rotate_left; (focus (intro w hSw; (try dsimp only at hSw); (first | (go_simp; done) | (go_simp; with_reducible rfl)))); simp only [Act.put, List.setIfInBounds_toArray, List.set_cons_zero, List.set_cons_succ]
      refine WH.take 16 _ ?_ rfl (by kernel_rfl) (fun _ _ _ h => h) rfl (by assumption) ?_ ?_; rotate_left; (focus (intro w hSw; (try dsimp only at hSw); (first | (go_simp; done) | (go_simp; with_reducible rfl)))); simp only [Act.put, List.setIfInBounds_toArray, List.set_cons_zero, List.set_cons_succ]
      refine WH.take 17 _ ?_ rfl (by kernel_rfl) (fun _ _ _ h => h) rfl (by assumption) ?_ ?_; rotate_left; (focus (intro w hSw; (try dsimp only at hSw); (first | (go_simp; done) | (go_simp; with_reducible rfl)))); simp only [Act.put, List.setIfInBounds_toArray, List.set_cons_zero, List.set_cons_succ]
      refine WH.only 18 _ rfl (by kernel_rfl) rfl (fun K hK => ?_); go_simp; refine (right_any s Hs.out _).mono ?_; rintro e wc ⟨rfl, rfl⟩; go_simp
      rw [Hr.out]
      have hSn := hSn; refine hK _ _ hSn ?_; clear hK; clear K; simp only [List.set_cons_zero, List.set_cons_succ]
      refine WH.take 19 _ ?_ rfl (by kernel_rfl) (fun _ _ _ h => h) rfl (by assumption) ?_ ?_; rotate_left; (focus (intro w hSw; (try dsimp only at hSw); (first | (go_simp; done) | (go_simp; with_reducible rfl)))); simp only [Act.put, List.setIfInBounds_toArray, List.set_cons_zero, List.set_cons_succ]
      refine WH.take 20 _ ?_ rfl (by kernel_rfl) (fun _ _ _ h => h) rfl (by assumption) ?_ ?_; rotate_left; (focus (intro w hSw; (try dsimp only at hSw); (first | (go_simp; done) | (go_simp; with_reducible rfl)))); simp only [Act.put, List.setIfInBounds_toArray, List.set_cons_zero, List.set_cons_succ]
      refine WH.take 21 _ _ rfl (by kernel_rfl) (fun _ _ _ h => h) rfl (by assumption) (fun w' hSw => run_load_arr _ _ rfl _ rfl _ _ (Hx4.out.ext hSw) _ _ (Try.underlying36) (Try.packFits Lp.out)) ?_; simp only [Act.put, List.setIfInBounds_toArray, List.set_cons_zero, List.set_cons_succ]
      refine WH.take 22 _ _ rfl (by kernel_rfl) (fun _ _ _ h => h) rfl (by assumption) (fun w' hSw => exec_build_zero _ rfl _ Try.packZero _ _ Try.underlying36 Try.packByte) ?_; simp only [Act.put, List.setIfInBounds_toArray, List.set_cons_zero, List.set_cons_succ]
      refine WH.take 23 _ _ rfl (by kernel_rfl) (fun _ _ _ h => h) rfl (by assumption) (fun w' hSw => exec_neq_arr _ _ _ _ rfl Try.packGuard _ _ Try.underlying36 Try.underlying5 Try.packByte (packN s) (zeros 25) rfl rfl Lp.out (zeros_len 25) false (by rw [Hp.out]; simp)) ?_; simp only [Act.put, List.setIfInBounds_toArray, List.set_cons_zero, List.set_cons_succ]
      refine WH.take 24 _ ?_ rfl (by kernel_rfl) (fun _ _ _ h => h) rfl (by assumption) ?_ ?_; rotate_left; (focus (intro w hSw; (try dsimp only at hSw); (first | (go_simp; done) | (go_simp; with_reducible rfl)))); simp only [Act.put, List.setIfInBounds_toArray, List.set_cons_zero, List.set_cons_succ]
      refine WH.take 25 _ ?_ rfl (by kernel_rfl) (fun _ _ _ h => h) rfl (by assumption) ?_ ?_; rotate_left; (focus (intro w hSw; (try dsimp only at hSw); (first | (go_simp; done) | (go_simp; with_reducible rfl)))); simp only [Act.put, List.setIfInBounds_toArray, List.set_cons_zero, List.set_cons_succ]
      refine WH.done (by kernel_rfl) ?_
      have Hw5 := Lib.hid (bt Hw4.out hSn)
      have Hb5 := Lib.hid (Hb4.out.ext hSn)
      clear hSn
      generalize w4.drew = w5 at *
      go_wp2_with (refine wpList_load_arr rfl _ _ rfl _ rfl _ _ Hb5.out _ _ Try.underlying36 (Try.packFits HL.out) ?_)
      refine (unpack_any L HL.out _).mono ?_; rintro e w6 ⟨rfl, hb6⟩
      have Hw6 := Lib.hid (bt Hw5.out hb6)
      have Hb6 := Lib.hid (Hb5.out.ext hb6)
      clear hb6
      go_wp2_with fail
      refine (runpack_any _ 25 (by omega) (by unfold maxLen; omega) L HL.out _ (RB.of_blk0 Hb6.out)).mono ?_; rintro e w7 ⟨rfl, hb7⟩
      have Hw7 := Lib.hid (bt Hw6.out hb7)
      clear hb7
      generalize unpackS L = t
      generalize unpackB L = u
      have hbe := bytes_eq t t
      rw [decide_eq_true rfl] at hbe
      go_wp2_with fail
      refine (is_any _ _ _).mono ?_; rintro e wx ⟨rfl, rfl⟩
      rw [beq_self_eq_true]
      go_wp2_with fail
      refine (works03_any _).mono ?_; rintro e w8 ⟨rfl, hb8⟩
      have Hw8 := Lib.hid (bt Hw7.out hb8)
      clear hb8
      go_wp2_with fail
      go_ret
      exact ⟨rfl, Hw8.out⟩
    · have Hr := Lib.hid hr
      have hz := rightN_size hr
      have Hz := Lib.hid hz.2
      have Hp := Lib.hid (show packN s = packL s.data.toList by unfold packN; rw [hr]; rfl)
      have Hl := Lib.hid (packL_len (l := s.data.toList) (by simp; omega))
      clear hr hz
      refine WH.take 4 _ ?_ rfl (by kernel_rfl) (fun _ _ _ h => h) rfl (by assumption) ?_ ?_; rotate_left; (focus (intro w hSw; (try dsimp only at hSw); (first | (go_simp; done) | (go_simp; with_reducible rfl)))); simp only [Act.put, List.setIfInBounds_toArray, List.set_cons_zero, List.set_cons_succ]
      refine WH.take 5 _ ?_ rfl (by kernel_rfl) (fun _ _ _ h => h) rfl (by assumption) ?_ ?_; rotate_left; (focus (intro w hSw; (try dsimp only at hSw); (first | (go_simp; done) | (go_simp; with_reducible rfl)))); simp only [Act.put, List.setIfInBounds_toArray, List.set_cons_zero, List.set_cons_succ]
      refine WH.take 6 _ ?_ rfl (by kernel_rfl) (fun _ _ _ h => h) rfl (by assumption) ?_ ?_; rotate_left; (focus (intro w hSw; (try dsimp only at hSw); (first | (go_simp; done) | (go_simp; with_reducible rfl)))); simp only [Act.put, List.setIfInBounds_toArray, List.set_cons_zero, List.set_cons_succ]
      refine WH.only 7 _ rfl (by kernel_rfl) rfl (fun K hK => ?_); go_simp; refine (right_any s Hs.out _).mono ?_; rintro e wc ⟨rfl, rfl⟩; go_simp
      rw [Hr.out]
      have hSn := hSn; refine hK _ _ hSn ?_; clear hK; clear K; simp only [List.set_cons_zero, List.set_cons_succ]
      refine WH.take 8 _ ?_ rfl (by kernel_rfl) (fun _ _ _ h => h) rfl (by assumption) ?_ ?_; rotate_left; (focus (intro w hSw; (try dsimp only at hSw); (first | (go_simp; done) | (go_simp; with_reducible rfl)))); simp only [Act.put, List.setIfInBounds_toArray, List.set_cons_zero, List.set_cons_succ]
      refine WH.take 9 _ ?_ rfl (by kernel_rfl) (fun _ _ _ h => h) rfl (by assumption) ?_ ?_; rotate_left; (focus (intro w hSw; (try dsimp only at hSw); (first | (go_simp; done) | (go_simp; with_reducible rfl)))); simp only [Act.put, List.setIfInBounds_toArray, List.set_cons_zero, List.set_cons_succ]
      refine WH.take 10 _ ?_ rfl (by kernel_rfl) (fun _ _ _ h => h) rfl (by assumption) ?_ ?_; rotate_left; (focus (intro w hSw; (try dsimp only at hSw); (first | (go_simp; done) | (go_simp; with_reducible rfl)))); simp only [Act.put, List.setIfInBounds_toArray, List.set_cons_zero, List.set_cons_succ]
      refine WH.only 11 _ rfl (by kernel_rfl) rfl (fun K hK => ?_); go_simp; refine (rpack_any s Hz.out _).mono ?_; rintro e wd ⟨A2, c2, rfl, hc2, hm2, hr2, hb2⟩; go_simp
      have hSn := bt hSn hb2; refine hK _ _ hSn ?_; clear hK; clear K; simp only [List.set_cons_zero, List.set_cons_succ]
      refine WH.only 12 _ rfl (by kernel_rfl) rfl (fun K hK => ?_); go_simp; refine (same_any _ _ _ (packN s) Lp.out _ _ _ (packL s.data.toList) Hl.out (by unfold maxLen; omega) (by unfold maxLen; omega) _ (RB.of_blk0 (Hx4.out.ext hSn)) hr2).mono ?_; rintro e we ⟨rfl, kq, rfl⟩; go_simp
      rw [decide_eq_true Hp.out]
      have hSn := bt hSn (bdrew _ kq); refine hK _ _ hSn ?_; clear hK; clear K; simp only [List.set_cons_zero, List.set_cons_succ]
      refine WH.take 13 _ ?_ rfl (by kernel_rfl) (fun _ _ _ h => h) rfl (by assumption) ?_ ?_; rotate_left; (focus (intro w hSw; (try dsimp only at hSw); (first | (go_simp; done) | (go_simp; with_reducible rfl)))); simp only [Act.put, List.setIfInBounds_toArray, List.set_cons_zero, List.set_cons_succ]
      refine WH.take 14 _ ?_ rfl (by kernel_rfl) (fun _ _ _ h => h) rfl (by assumption) ?_ ?_; rotate_left; (focus (intro w hSw; (try dsimp only at hSw); (first | (go_simp; done) | (go_simp; with_reducible rfl)))); simp only [Act.put, List.setIfInBounds_toArray, List.set_cons_zero, List.set_cons_succ]
      refine WH.take 15 _ ?_ rfl (by kernel_rfl) (fun _ _ _ h => h) rfl (by assumption) ?_ ?_; rotate_left; (focus (intro w hSw; (try dsimp only at hSw); (first | (go_simp; done) | (go_simp; with_reducible rfl)))); simp only [Act.put, List.setIfInBounds_toArray, List.set_cons_zero, List.set_cons_succ]
      refine WH.take 16 _ ?_ rfl (by kernel_rfl) (fun _ _ _ h => h) rfl (by assumption) ?_ ?_; rotate_left; (focus (intro w hSw; (try dsimp only at hSw); (first | (go_simp; done) | (go_simp; with_reducible rfl)))); simp only [Act.put, List.setIfInBounds_toArray, List.set_cons_zero, List.set_cons_succ]
      refine WH.take 17 _ ?_ rfl (by kernel_rfl) (fun _ _ _ h => h) rfl (by assumption) ?_ ?_; rotate_left; (focus (intro w hSw; (try dsimp only at hSw); (first | (go_simp; done) | (go_simp; with_reducible rfl)))); simp only [Act.put, List.setIfInBounds_toArray, List.set_cons_zero, List.set_cons_succ]
      refine WH.only 18 _ rfl (by kernel_rfl) rfl (fun K hK => ?_); go_simp; refine (right_any s Hs.out _).mono ?_; rintro e wf ⟨rfl, rfl⟩; go_simp
      rw [Hr.out]
      have hSn := hSn; refine hK _ _ hSn ?_; clear hK; clear K; simp only [List.set_cons_zero, List.set_cons_succ]
      refine WH.take 19 _ ?_ rfl (by kernel_rfl) (fun _ _ _ h => h) rfl (by assumption) ?_ ?_; rotate_left; (focus (intro w hSw; (try dsimp only at hSw); (first | (go_simp; done) | (go_simp; with_reducible rfl)))); simp only [Act.put, List.setIfInBounds_toArray, List.set_cons_zero, List.set_cons_succ]
      refine WH.take 20 _ ?_ rfl (by kernel_rfl) (fun _ _ _ h => h) rfl (by assumption) ?_ ?_; rotate_left; (focus (intro w hSw; (try dsimp only at hSw); (first | (go_simp; done) | (go_simp; with_reducible rfl)))); simp only [Act.put, List.setIfInBounds_toArray, List.set_cons_zero, List.set_cons_succ]
      refine WH.skip 21 _ rfl (by kernel_rfl) (fun _ _ _ h => h) rfl (by assumption) ?_; simp only [Act.put, List.setIfInBounds_toArray, List.set_cons_zero, List.set_cons_succ]
      refine WH.skip 22 _ rfl (by kernel_rfl) (fun _ _ _ h => h) rfl (by assumption) ?_; simp only [Act.put, List.setIfInBounds_toArray, List.set_cons_zero, List.set_cons_succ]
      refine WH.skip 23 _ rfl (by kernel_rfl) (fun _ _ _ h => h) rfl (by assumption) ?_; simp only [Act.put, List.setIfInBounds_toArray, List.set_cons_zero, List.set_cons_succ]
      refine WH.take 24 _ ?_ rfl (by kernel_rfl) (fun _ _ _ h => h) rfl (by assumption) ?_ ?_; rotate_left; (focus (intro w hSw; (try dsimp only at hSw); (first | (go_simp; done) | (go_simp; with_reducible rfl)))); simp only [Act.put, List.setIfInBounds_toArray, List.set_cons_zero, List.set_cons_succ]
      refine WH.take 25 _ ?_ rfl (by kernel_rfl) (fun _ _ _ h => h) rfl (by assumption) ?_ ?_; rotate_left; (focus (intro w hSw; (try dsimp only at hSw); (first | (go_simp; done) | (go_simp; with_reducible rfl)))); simp only [Act.put, List.setIfInBounds_toArray, List.set_cons_zero, List.set_cons_succ]
      refine WH.done (by kernel_rfl) ?_
      have Hw5 := Lib.hid (bt Hw4.out hSn)
      have Hb5 := Lib.hid (Hb4.out.ext hSn)
      clear hSn hr2 hb2
      generalize World.drewN wd kq = w5 at *
      go_wp2_with (refine wpList_load_arr rfl _ _ rfl _ rfl _ _ Hb5.out _ _ Try.underlying36 (Try.packFits HL.out) ?_)
      refine (unpack_any L HL.out _).mono ?_; rintro e w6 ⟨rfl, hb6⟩
      have Hw6 := Lib.hid (bt Hw5.out hb6)
      have Hb6 := Lib.hid (Hb5.out.ext hb6)
      clear hb6
      go_wp2_with fail
      refine (runpack_any _ 25 (by omega) (by unfold maxLen; omega) L HL.out _ (RB.of_blk0 Hb6.out)).mono ?_; rintro e w7 ⟨rfl, hb7⟩
      have Hw7 := Lib.hid (bt Hw6.out hb7)
      clear hb7
      generalize unpackS L = t
      generalize unpackB L = u
      have hbe := bytes_eq t t
      rw [decide_eq_true rfl] at hbe
      go_wp2_with fail
      refine (is_any _ _ _).mono ?_; rintro e wx ⟨rfl, rfl⟩
      rw [beq_self_eq_true]
      go_wp2_with fail
      refine (works03_any _).mono ?_; rintro e w8 ⟨rfl, hb8⟩
      have Hw8 := Lib.hid (bt Hw7.out hb8)
      clear hb8
      go_wp2_with fail
      go_ret
      exact ⟨rfl, Hw8.out⟩
  · have d1 : decide ((300 : Int) < s.size) = true := by simp; omega
    go_enter Try.func5, Try.ntmps5
    go_wp2_with (refine wpList_box_row rfl _ _ rfl _ rfl ?_)
    apply Stop.go; intro w1 Hg1 Hb1
    go_wp2_with fail
    refine (works03_any _).mono ?_; rintro e w3 ⟨rfl, hb3⟩
    have Hb3 := Lib.hid hb3
    clear hb3
    go_wp2_with fail
    go_ret
    exact ⟨rfl, bt Hg1.out.1 Hb3.out⟩

end Go.Proofs.Ytfgkbjpiffaeeaa
