/-
  The walk of ReadyFirst.
-/
import Derived.Test.YtkhgoblmfcaapaaLw9a
import Derived.Test.YtkhgoblmfcaapaaLw9w
import Derived.Test.YtkhgoblmfcaapaaR09c
namespace Go.Proofs.Ytkhgoblmfcaapaa
open Go.RowKit

set_option maxRecDepth 100000 in
set_option maxHeartbeats 8000000 in
theorem readyFirst_any (A : Option Addr) (n cap : Nat) (l : List Cg) (hn : l.length = n) (hcap : n ≤ cap) (hm : cap ≤ maxLen) (w : World) (hr : RdL RdC w A 5 l) :
    Calls Try.prog 5 #[.slice A n cap] w fun e w' => e = .returned (.bool true) ∧ Below w.heap.size w w' := by
  have Hn := Lib.hid hn
  have Hr := Lib.hid hr
  clear hn hr
  have HM := Lib.hid (rmuchc_any 30 (by decide) A n cap l Hn.out (Nat.le_trans hcap hm) w Hr.out)
  cases hmu : muchC l 30
  rotate_left
  · rw [hmu] at HM
    clear hmu
    go_enter Try.func5, Try.ntmps5
    go_wp2_with fail
    refine (HM.out).mono ?_; rintro e w1 ⟨rfl, rfl⟩
    go_wp2_with fail
    refine (works09_any _).mono ?_; rintro e w2 ⟨rfl, hb2⟩
    have Hb2 := Lib.hid hb2
    clear hb2
    go_wp2_with fail
    go_ret
    exact ⟨rfl, Hb2.out⟩
  · obtain ⟨hl, hd⟩ := muchC_no hmu
    rw [hmu] at HM
    have Hl := Lib.hid (show n ≤ 30 by rw [← Hn.out]; exact hl)
    have HD := Lib.hid hd
    have HMay := Lib.hid (rmay_any A n cap l Hn.out (by have := Hl.out; omega) (fun c hc => by have := HD.out c hc; omega) w Hr.out)
    clear hmu hl hd
    cases hmay : mayC l
    · rw [hmay] at HMay
      clear hmay
      go_enter Try.func5, Try.ntmps5
      go_wp2_with fail
      refine (HM.out).mono ?_; rintro e w1 ⟨rfl, rfl⟩
      go_wp2_with fail
      refine (HMay.out).mono ?_; rintro e w1 ⟨rfl, hb1⟩
      have Hb1 := Lib.hid hb1
      clear hb1
      go_wp2_with fail
      refine (works09_any _).mono ?_; rintro e w2 ⟨rfl, hb2⟩
      have Hb2 := Lib.hid hb2
      clear hb2
      go_wp2_with fail
      go_ret
      exact ⟨rfl, bt Hb1.out Hb2.out⟩
    · rw [hmay] at HMay
      cases l with
      | nil =>
        obtain rfl : n = 0 := Hn.out.symm
        clear hmay
        go_enter Try.func5, Try.ntmps5
        go_wp2_with fail
        refine (HM.out).mono ?_; rintro e w1 ⟨rfl, rfl⟩
        go_wp2_with fail
        refine (HMay.out).mono ?_; rintro e w1 ⟨rfl, hb1⟩
        have Hb1 := Lib.hid hb1
        clear hb1
        go_wp2_with fail
        refine (works09_any _).mono ?_; rintro e w2 ⟨rfl, hb2⟩
        have Hb2 := Lib.hid hb2
        clear hb2
        go_wp2_with fail
        go_ret
        exact ⟨rfl, bt Hb1.out Hb2.out⟩
      | cons c l =>
        have hn0 : 0 < n := by have := Hn.out; simp at this; omega
        obtain ⟨t, ht⟩ := readyC_first hmay
        have HT := Lib.hid ht
        have HW := Lib.hid (waitsC_first hmay)
        have HN := Lib.hid (show ∀ d ∈ (c :: l), d.needs.length ≤ 4096 from fun d hd => by have := HD.out d hd; omega)
        clear ht hmay
        have d0 : ((n : Int) == 0) = false := by simp; omega
        have d1 : (n == 0) = false := by simp; omega
        have z1 : (0 : Int) < n := by omega
        obtain ⟨ad, Ad, nd, cd, An, nn, cn, rfl, hcv, h0, h1, -⟩ := Hr.out.cg (k := 0) (by simp)
        have k0 : w.cell? ad = some (.int .i64 c.id) := h0
        have k1 : w.cell? ⟨ad.block, ad.off + 1, none⟩ = some (.int .i64 c.block) := cell_fld k0 h1
        have K00 := Lib.hid k0
        have K11 := Lib.hid k1
        clear hcv h0 h1 k0 k1
        go_enter Try.func5, Try.ntmps5
        go_wp2_with fail
        refine (HM.out).mono ?_; rintro e w1 ⟨rfl, rfl⟩
        go_wp2_with fail
        refine (HMay.out).mono ?_; rintro e w2 ⟨rfl, hb2⟩
        have Hb2 := Lib.hid hb2
        clear hb2
        go_wp2_with fail
        refine (to9_any (some ad) n cap (c :: l) Hn.out (by have := Hl.out; omega) HD.out _ (Hr.out.below Hb2.out)).mono ?_; rintro e w3 ⟨A3, n3, c3, rfl, e3, q3, r3, hr3, hb3⟩
        have HX := Lib.hid (show (c :: l).length = n3 ∧ n3 ≤ c3 ∧ n3 ≤ 30 from ⟨e3, q3, by rw [← e3, Hn.out]; exact Hl.out⟩)
        have Hx3 := Lib.hid hr3
        have Hb3 := Lib.hid (bt Hb2.out hb3)
        have k1 : w3.cell? ⟨ad.block, ad.off + 1, none⟩ = some (.int .i64 c.block) := (Hb3.out.cell (block_lt_of_cell K11.out)).trans K11.out
        clear hr3 hb3 e3 q3 r3
        go_wp2_with fail
        refine (pready_any A3 n3 c3 (c :: l) HX.out.1 (by have := HX.out.2.2; omega) c.block _ Hx3.out).mono ?_; rintro e w5 ⟨A5, n5, c5, rfl, e5, q5, r5, hr5, hb5⟩
        rw [HT.out] at e5 hr5
        have hp5 : 0 < n5 := by rw [← e5]; exact Nat.succ_pos _
        have d5 : decide (0 < n5) = true := decide_eq_true hp5
        have z5 : (0 : Int) < n5 := by omega
        have d6 : decide ((0 : Int) < n5) = true := decide_eq_true z5
        obtain ⟨ar, rfl, hc5⟩ := hr5.int 0 (by simp)
        have R0 := Lib.hid (show w5.cell? ar = some (.int .i64 c.id) from hc5)
        have Hb5 := Lib.hid (bt Hb3.out hb5)
        have Hx5 := Lib.hid (Hx3.out.below hb5)
        have K0 := Lib.hid ((Hb5.out.cell (block_lt_of_cell K00.out)).trans K00.out)
        clear k1 hr5 hb5 hc5 e5 q5 r5
        go_wp2_with fail
        refine WH.start (S := fun w' : World => Below w5.heap.size w5 w') (List.replicate 27 false) 27 rfl rfl (by kernel_rfl) (bdrew w5 1) (fun hSn => ?_)
        simp only [List.replicate]
        refine WH.take 0 _ ?_ rfl (by kernel_rfl) (fun _ _ _ h => h) rfl (by assumption) ?_ ?_; rotate_left; (focus (intro w hSw; (try dsimp only at hSw); (first | (go_simp; done) | (go_simp; with_reducible rfl)))); simp only [Act.put, List.setIfInBounds_toArray, List.set_cons_zero, List.set_cons_succ]
        refine WH.take 1 _ ?_ rfl (by kernel_rfl) (fun _ _ _ h => h) rfl (by assumption) ?_ ?_; rotate_left; (focus (intro w hSw; (try dsimp only at hSw); (first | (go_simp; done) | (go_simp; with_reducible rfl)))); simp only [Act.put, List.setIfInBounds_toArray, List.set_cons_zero, List.set_cons_succ]
        refine WH.take 2 _ ?_ rfl (by kernel_rfl) (fun _ _ _ h => h) rfl (by assumption) ?_ ?_; rotate_left; (focus (intro w hSw; (try dsimp only at hSw); (first | (go_simp; done) | (go_simp; with_reducible rfl)))); simp only [Act.put, List.setIfInBounds_toArray, List.set_cons_zero, List.set_cons_succ]
        refine WH.take 3 _ ?_ rfl (by kernel_rfl) (fun _ _ _ h => h) rfl (by assumption) ?_ ?_; rotate_left; (focus (intro w hSw; (try dsimp only at hSw); (first | (go_simp; done) | (go_simp; with_reducible rfl)))); simp only [Act.put, List.setIfInBounds_toArray, List.set_cons_zero, List.set_cons_succ]
        refine WH.take 4 _ ?_ rfl (by kernel_rfl) (fun _ _ _ h => h) rfl (by assumption) ?_ ?_; rotate_left; (focus (intro w hSw; (try dsimp only at hSw); (first | (go_simp; done) | (go_simp; with_reducible rfl)))); simp only [Act.put, List.setIfInBounds_toArray, List.set_cons_zero, List.set_cons_succ]
        refine WH.take 5 _ ?_ rfl (by kernel_rfl) (fun _ _ _ h => h) rfl (by assumption) ?_ ?_; rotate_left; (focus (intro w hSw; (try dsimp only at hSw); (first | (go_simp; done) | (go_simp; with_reducible rfl)))); simp only [Act.put, List.setIfInBounds_toArray, List.set_cons_zero, List.set_cons_succ]
        refine WH.take 6 _ _ rfl (by kernel_rfl) (fun _ _ _ h => h) rfl (by assumption) (fun w' hSw => exec_load_cell _ _ rfl (ar) rfl (.int .i64 c.id) ((hSw.cell (block_lt_of_cell R0.out)).trans R0.out) _ Try.underlying3 rfl) ?_; simp only [Act.put, List.setIfInBounds_toArray, List.set_cons_zero, List.set_cons_succ]
        refine WH.take 7 _ ?_ rfl (by kernel_rfl) (fun _ _ _ h => h) rfl (by assumption) ?_ ?_; rotate_left; (focus (intro w hSw; (try dsimp only at hSw); (first | (go_simp; done) | (go_simp; with_reducible rfl)))); simp only [Act.put, List.setIfInBounds_toArray, List.set_cons_zero, List.set_cons_succ]
        refine WH.take 8 _ ?_ rfl (by kernel_rfl) (fun _ _ _ h => h) rfl (by assumption) ?_ ?_; rotate_left; (focus (intro w hSw; (try dsimp only at hSw); (first | (go_simp; done) | (go_simp; with_reducible rfl)))); simp only [Act.put, List.setIfInBounds_toArray, List.set_cons_zero, List.set_cons_succ]
        refine WH.take 9 _ ?_ rfl (by kernel_rfl) (fun _ _ _ h => h) rfl (by assumption) ?_ ?_; rotate_left; (focus (intro w hSw; (try dsimp only at hSw); (first | (go_simp; done) | (go_simp; with_reducible rfl)))); simp only [Act.put, List.setIfInBounds_toArray, List.set_cons_zero, List.set_cons_succ]
        refine WH.take 10 _ _ rfl (by kernel_rfl) (fun _ _ _ h => h) rfl (by assumption) (fun w' hSw => exec_load_cell _ _ rfl (ad) rfl (.int .i64 c.id) ((hSw.cell (block_lt_of_cell K0.out)).trans K0.out) _ Try.underlying3 rfl) ?_; simp only [Act.put, List.setIfInBounds_toArray, List.set_cons_zero, List.set_cons_succ]
        refine WH.take 11 _ ?_ rfl (by kernel_rfl) (fun _ _ _ h => h) rfl (by assumption) ?_ ?_; rotate_left; (focus (intro w hSw; (try dsimp only at hSw); (first | (go_simp; done) | (go_simp; with_reducible rfl)))); simp only [Act.put, List.setIfInBounds_toArray, List.set_cons_zero, List.set_cons_succ]
        refine WH.take 12 _ ?_ rfl (by kernel_rfl) (fun _ _ _ h => h) rfl (by assumption) ?_ ?_; rotate_left; (focus (intro w hSw; (try dsimp only at hSw); (first | (go_simp; done) | (go_simp; with_reducible rfl)))); simp only [Act.put, List.setIfInBounds_toArray, List.set_cons_zero, List.set_cons_succ]
        refine WH.take 13 _ ?_ rfl (by kernel_rfl) (fun _ _ _ h => h) rfl (by assumption) ?_ ?_; rotate_left; (focus (intro w hSw; (try dsimp only at hSw); (first | (go_simp; done) | (go_simp; with_reducible rfl)))); simp only [Act.put, List.setIfInBounds_toArray, List.set_cons_zero, List.set_cons_succ]
        refine WH.take 14 _ ?_ rfl (by kernel_rfl) (fun _ _ _ h => h) rfl (by assumption) ?_ ?_; rotate_left; (focus (intro w hSw; (try dsimp only at hSw); (first | (go_simp; done) | (go_simp; with_reducible rfl)))); simp only [Act.put, List.setIfInBounds_toArray, List.set_cons_zero, List.set_cons_succ]
        refine WH.take 15 _ ?_ rfl (by kernel_rfl) (fun _ _ _ h => h) rfl (by assumption) ?_ ?_; rotate_left; (focus (intro w hSw; (try dsimp only at hSw); (first | (go_simp; done) | (go_simp; with_reducible rfl)))); simp only [Act.put, List.setIfInBounds_toArray, List.set_cons_zero, List.set_cons_succ]
        refine WH.take 16 _ ?_ rfl (by kernel_rfl) (fun _ _ _ h => h) rfl (by assumption) ?_ ?_; rotate_left; (focus (intro w hSw; (try dsimp only at hSw); (first | (go_simp; done) | (go_simp; with_reducible rfl)))); simp only [Act.put, List.setIfInBounds_toArray, List.set_cons_zero, List.set_cons_succ]
        refine WH.take 17 _ ?_ rfl (by kernel_rfl) (fun _ _ _ h => h) rfl (by assumption) ?_ ?_; rotate_left; (focus (intro w hSw; (try dsimp only at hSw); (first | (go_simp; done) | (go_simp; with_reducible rfl)))); simp only [Act.put, List.setIfInBounds_toArray, List.set_cons_zero, List.set_cons_succ]
        refine WH.take 18 _ _ rfl (by kernel_rfl) (fun _ _ _ h => h) rfl (by assumption) (fun w' hSw => exec_load_cell _ _ rfl (ad) rfl (.int .i64 c.id) ((hSw.cell (block_lt_of_cell K0.out)).trans K0.out) _ Try.underlying3 rfl) ?_; simp only [Act.put, List.setIfInBounds_toArray, List.set_cons_zero, List.set_cons_succ]
        refine WH.only 19 _ rfl (by kernel_rfl) rfl (fun K hK => ?_); go_simp; refine (pwaits_any A3 n3 c3 (c :: l) HX.out.1 HX.out.2.1 (by have := HX.out.2.2; omega) HN.out c.id _ (Hx5.out.below hSn)).mono ?_; rintro e w6 ⟨A6, n6, c6, rfl, e6, -, -, -, hb6⟩; go_simp
        rw [HW.out] at e6
        obtain rfl : n6 = 0 := e6.symm
        have hSn := bt hSn hb6; refine hK _ _ hSn ?_; clear hK; clear K; simp only [List.set_cons_zero, List.set_cons_succ]
        refine WH.take 20 _ ?_ rfl (by kernel_rfl) (fun _ _ _ h => h) rfl (by assumption) ?_ ?_; rotate_left; (focus (intro w hSw; (try dsimp only at hSw); (first | (go_simp; done) | (go_simp; with_reducible rfl)))); simp only [Act.put, List.setIfInBounds_toArray, List.set_cons_zero, List.set_cons_succ]
        refine WH.take 21 _ ?_ rfl (by kernel_rfl) (fun _ _ _ h => h) rfl (by assumption) ?_ ?_; rotate_left; (focus (intro w hSw; (try dsimp only at hSw); (first | (go_simp; done) | (go_simp; with_reducible rfl)))); simp only [Act.put, List.setIfInBounds_toArray, List.set_cons_zero, List.set_cons_succ]
        refine WH.take 22 _ ?_ rfl (by kernel_rfl) (fun _ _ _ h => h) rfl (by assumption) ?_ ?_; rotate_left; (focus (intro w hSw; (try dsimp only at hSw); (first | (go_simp; done) | (go_simp; with_reducible rfl)))); simp only [Act.put, List.setIfInBounds_toArray, List.set_cons_zero, List.set_cons_succ]
        refine WH.take 23 _ ?_ rfl (by kernel_rfl) (fun _ _ _ h => h) rfl (by assumption) ?_ ?_; rotate_left; (focus (intro w hSw; (try dsimp only at hSw); (first | (go_simp; done) | (go_simp; with_reducible rfl)))); simp only [Act.put, List.setIfInBounds_toArray, List.set_cons_zero, List.set_cons_succ]
        refine WH.only 24 _ rfl (by kernel_rfl) rfl (fun K hK => ?_); go_simp; refine (works09_any _).mono ?_; rintro e w7 ⟨rfl, hb7⟩; go_simp
        have hSn := bt hSn hb7; refine hK _ _ hSn ?_; clear hK; clear K; simp only [List.set_cons_zero, List.set_cons_succ]
        refine WH.take 25 _ ?_ rfl (by kernel_rfl) (fun _ _ _ h => h) rfl (by assumption) ?_ ?_; rotate_left; (focus (intro w hSw; (try dsimp only at hSw); (first | (go_simp; done) | (go_simp; with_reducible rfl)))); simp only [Act.put, List.setIfInBounds_toArray, List.set_cons_zero, List.set_cons_succ]
        refine WH.take 26 _ ?_ rfl (by kernel_rfl) (fun _ _ _ h => h) rfl (by assumption) ?_ ?_; rotate_left; (focus (intro w hSw; (try dsimp only at hSw); (first | (go_simp; done) | (go_simp; with_reducible rfl)))); simp only [Act.put, List.setIfInBounds_toArray, List.set_cons_zero, List.set_cons_succ]
        refine WH.done (by kernel_rfl) ?_
        have Hfin := Lib.hid (bt Hb5.out hSn)
        clear hSn
        go_wp2_with fail
        go_ret
        exact ⟨rfl, Hfin.out⟩

end Go.Proofs.Ytkhgoblmfcaapaa
