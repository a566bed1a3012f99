/-
  The walk of ReadyLists.
-/
import Derived.Test.YtkhgoblmfcaapaaLw9b
import Derived.Test.YtkhgoblmfcaapaaLw9w
import Derived.Test.YtkhgoblmfcaapaaR09f
import Derived.Test.YtkhgoblmfcaapaaR09g
import Derived.Test.YtkhgoblmfcaapaaCg12
import Derived.Test.YtkhgoblmfcaapaaCg13
namespace Go.Proofs.Ytkhgoblmfcaapaa
open Go.RowKit

theorem RdL.one {w : World} {g : Nat} {e : TypeId} {c : Cg} {Ad : Option Addr} {nd cd : Nat} {An : Option Addr} {nn cn : Nat} (hb : Blk w g e #[.int .i64 c.id, .int .i64 c.block, .int .i64 c.p.at_, .slice Ad nd cd, .slice An nn cn]) (hc : CV w c Ad nd cd An nn cn) : RdL RdC w (some ⟨g, 0, none⟩) 5 [c] := by
  refine ⟨_, fun r hr => ?_, RN.one hb rfl, rfl, fun k hk hk' => ?_⟩
  · rw [List.mem_singleton] at hr
    subst hr
    rfl
  · obtain rfl : k = 0 := by simp at hk'; omega
    exact hc.rd

set_option maxRecDepth 100000 in
set_option maxHeartbeats 16000000 in
theorem readyLists_any (A : Option Addr) (n cap : Nat) (l : List Cg) (hn : l.length = n) (hcap : n ≤ cap) (hm : cap ≤ maxLen) (Ab : Option Addr) (nb cb : Nat) (ids : List Int) (hnb : ids.length = nb) (hib : ∀ z ∈ ids, -9223372036854775808 ≤ z ∧ z < 9223372036854775808) (x : Int) (w : World) (hr : RdL RdC w A 5 l) (hri : RC w Ab (ivals ids)) :
    Calls Try.prog 4 #[.slice A n cap, .slice Ab nb cb, .int .i64 x] w fun e w' => e = .returned (.bool true) ∧ Below w.heap.size w w' := by
  have Hn := Lib.hid hn
  have Hr := Lib.hid hr
  have Hnb := Lib.hid hnb
  have Hri0 := Lib.hid hri
  have Hib := Lib.hid hib
  clear hn hr hnb hri hib
  have HM := Lib.hid (rmuchc_any 30 (by decide) A n cap l Hn.out (Nat.le_trans hcap hm) w Hr.out)
  cases hmu : muchC l 30
  rotate_left
  · rw [hmu] at HM
    clear hmu
    go_enter Try.func4, Try.ntmps4
    go_wp2_with fail
    refine (HM.out).mono ?_; rintro e w1 ⟨rfl, rfl⟩
    go_wp2_with fail
    refine (works09_any _).mono ?_; rintro e w2 ⟨rfl, hb2⟩
    have Hb2 := Lib.hid hb2
    clear hb2
    go_wp2_with fail
    go_ret
    exact ⟨rfl, Hb2.out⟩
  · obtain ⟨hl, hd⟩ := muchC_no hmu
    rw [hmu] at HM
    clear hmu
    by_cases h40 : 40 < nb
    · have d0 : decide ((40 : Int) < nb) = true := decide_eq_true (by omega)
      clear hl hd
      go_enter Try.func4, Try.ntmps4
      go_wp2_with fail
      refine (HM.out).mono ?_; rintro e w1 ⟨rfl, rfl⟩
      go_wp2_with fail
      refine (works09_any _).mono ?_; rintro e w2 ⟨rfl, hb2⟩
      have Hb2 := Lib.hid hb2
      clear hb2
      go_wp2_with fail
      go_ret
      exact ⟨rfl, Hb2.out⟩
    · have d0 : decide ((40 : Int) < nb) = false := decide_eq_false (by omega)
      have Hl := Lib.hid (show n ≤ 4096 by have := Hn.out; omega)
      have HD := Lib.hid hd
      have HD4 := Lib.hid (show ∀ c ∈ l, c.p.data.length ≤ 4096 ∧ c.needs.length ≤ 4096 from fun c hc => by have := HD.out c hc; omega)
      have Hnb2 := Lib.hid (show nb ≤ 4096 by omega)
      have HOl := Lib.hid (show (ofC l x).length ≤ 4096 by have : (ofC l x).length ≤ l.length := List.length_filter_le _ _; have := Hn.out; have := Hl.out; omega)
      have HWl := Lib.hid (show (withoutC l ids).length ≤ 4096 by have : (withoutC l ids).length ≤ l.length := List.length_filter_le _ _; have := Hn.out; have := Hl.out; omega)
      clear hl hd
      go_enter Try.func4, Try.ntmps4
      go_wp2_with fail
      refine (HM.out).mono ?_; rintro e w1 ⟨rfl, rfl⟩
      go_wp2_with fail
      refine (to9_any A n cap l Hn.out Hl.out HD.out _ Hr.out).mono ?_; rintro e w3 ⟨A3, n3, c3, rfl, e3, q3, r3, hr3, hb3⟩
      have HX := Lib.hid (show l.length = n3 ∧ n3 ≤ 4096 from ⟨e3, by rw [← e3, Hn.out]; exact Hl.out⟩)
      have Hx3 := Lib.hid hr3
      have Hb3 := Lib.hid hb3
      clear hr3 hb3 e3 q3 r3
      go_wp2_with fail
      refine (pfind_any A3 n3 c3 l HX.out.1 HX.out.2 HD4.out x _ Hx3.out).mono ?_; rintro e w4 ⟨C, Ad, nd, cd, An, nn, cn, hC, rfl, hcv, -, -, hb4⟩
      have HC := Lib.hid hC
      have Hcv4 := Lib.hid hcv
      have Hx4 := Lib.hid (Hx3.out.below hb4)
      have Hb4 := Lib.hid (bt Hb3.out hb4)
      clear hC hcv hb4
      generalize hF : findC l x = F at *
      have HF := Lib.hid hF
      clear hF
      go_wp2_with (refine wpList_alloc_row rfl _ rfl _ Try.chgZero ?_)
      apply Stop.go; intro w5 Hg5 Hb5
      go_wp2_with (refine wpList_store_arr rfl _ _ _ rfl _ #[.int .i64 C.id, .int .i64 C.block, .int .i64 C.p.at_, .slice Ad nd cd, .slice An nn cn] rfl rfl _ _ Hb5.out Try.chgSize rfl (by simp [Value.oneCell']) ?_)
      apply Stop.go; intro w6 Ho6 HbC6
      have D6 := Lib.hid (bonly Hg5.out.1 Ho6.out (Nat.le_refl _))
      have Hcv6 := Lib.hid (Hcv4.out.below D6.out)
      have Hx6 := Lib.hid (Hx4.out.below D6.out)
      have Hb6 := Lib.hid (bt Hb4.out D6.out)
      have Hr6 := Lib.hid (Hr.out.below Hb6.out)
      generalize w4.heap.size = gc at *
      clear Hcv4 Hx4 Hb4 D6 Ho6 Hb5 Hg5 Hx3 Hb3
      go_wp2_with fail
      refine (rplace_any A n cap l Hn.out (Nat.le_trans hcap hm) x _ Hr6.out).mono ?_; rintro e wx ⟨rfl, hpl⟩
      rcases hpl with ⟨k, hk, rfl, hid, hno⟩ | ⟨rfl, hno⟩
      · have hFk := HF.out.symm.trans (findC_at hk hid hno)
        have hCk : C = l[k] := by rw [HC.out, hFk]; rfl
        subst hFk
        clear HF HC
        obtain ⟨ad, Ae, ne, ce, Am, nm, cm, rfl, hdv, h0, h1, h2, h3, h4⟩ := Hr6.out.cg hk
        rw [← hCk] at hdv h0 h1 h2
        have C0 := Lib.hid h0
        have C1 := Lib.hid h1
        have C2 := Lib.hid h2
        have C3 := Lib.hid h3
        have C4 := Lib.hid h4
        have Hdv := Lib.hid hdv
        have z1 : (k : Int) < n := by have := Hn.out; omega
        have dk : decide ((0 : Int) ≤ (k : Int)) = true := decide_eq_true (by omega)
        rw [show (some l[k]).isSome = true from rfl]
        clear h0 h1 h2 h3 h4 hdv hid hno hCk hk
        go_wp2_with (refine wpList_alloc_row rfl _ rfl _ Try.rchgZero ?_)
        apply Stop.go; intro w7 Hg7 Hb7a
        go_wp2_with (refine wpList_store_arr rfl _ _ _ rfl _ #[.int .i64 0, .int .i64 0, .int .i64 0, .slice none 0 0, .slice none 0 0] rfl rfl _ _ Hb7a.out Try.rchgSize rfl (by simp [Value.oneCell']) ?_)
        apply Stop.go; intro w7b Ho7 Hb7b
        have D7 := Lib.hid (bonly Hg7.out.1 Ho7.out (Nat.le_refl _))
        have E0 := Lib.hid ((D7.out.cell (block_lt_of_cell C0.out)).trans C0.out)
        have E1 := Lib.hid ((D7.out.cell (block_lt_of_cell C1.out)).trans C1.out)
        have E2 := Lib.hid ((D7.out.cell (block_lt_of_cell C2.out)).trans C2.out)
        have E3 := Lib.hid ((D7.out.cell (block_lt_of_cell C3.out)).trans C3.out)
        have E4 := Lib.hid ((D7.out.cell (block_lt_of_cell C4.out)).trans C4.out)
        go_wp2_with (first | refine wpList_load_five rfl _ _ rfl (ad.add (k * 5)) rfl _ _ _ _ _ E0.out E1.out E2.out E3.out E4.out _ Try.underlying45 Try.rchgSize ?_ | refine wpList_store_arr rfl _ _ _ rfl _ #[.int .i64 C.id, .int .i64 C.block, .int .i64 C.p.at_, .slice Ae ne ce, .slice Am nm cm] rfl rfl _ _ Hb7b.out Try.rchgSize rfl (by simp [Value.oneCell']) ?_)
        apply Stop.go; intro w7c Ho7c HbW
        have D7c := Lib.hid (bonly D7.out Ho7c.out (Nat.le_refl _))
        have HcW := Lib.hid (Hdv.out.below D7c.out)
        have HbC := Lib.hid (HbC6.out.ext D7c.out)
        have HcC := Lib.hid (Hcv6.out.below D7c.out)
        have Hx := Lib.hid (Hx6.out.below D7c.out)
        have Hb7 := Lib.hid (bt Hb6.out D7c.out)
        clear Hb7a Hb7b Ho7 Hg7 D7 E0 E1 E2 E3 E4 C0 C1 C2 C3 C4 Hdv D7c Ho7c HbC6 Hcv6 Hx6 Hr6 Hb6
        generalize w6.heap.size = gw at *
        go_wp2_with (first | refine wpList_load_blk rfl _ _ rfl _ rfl _ _ HbC.out _ Try.underlying39 rfl Try.chgSize ?_ | refine wpList_build_row rfl _ _ _ rfl Try.underlying25 5 72 _ Try.chgInfo (by decide) (by decide) #[.int .i64 C.id, .int .i64 C.block, .int .i64 C.p.at_, .slice Ad nd cd, .slice An nn cn] rfl rfl ?_)
        apply Stop.go; intro w8 Hg8 Hb8
        have HO := Lib.hid (RdL.one Hb8.out (HcC.out.below Hg8.out.1))
        go_wp2_with fail
        refine (of9_any _ 1 1 [C] rfl (by decide) _ HO.out).mono ?_; rintro e w9 ⟨A9, n9, c9, rfl, e9, q9, r9, hr9, hb9⟩
        obtain rfl : n9 = 1 := e9.symm
        obtain ⟨ag, Ag, ng, cg, Ah, nh, ch, rfl, hcg, g0, g1, g2, g3, g4⟩ := hr9.cg (k := 0) (Nat.succ_pos _)
        have HcG := Lib.hid (show CV w9 C Ag ng cg Ah nh ch from hcg)
        have G0 := Lib.hid (show w9.cell? ag = some (.int .i64 C.id) from g0)
        have G1 := Lib.hid (show w9.cell? (ag.add 1) = some (.int .i64 C.block) from g1)
        have G2 := Lib.hid (show w9.cell? (ag.add 2) = some (.int .i64 C.p.at_) from g2)
        have G3 := Lib.hid (show w9.cell? (ag.add 3) = some (.slice Ag ng cg) from g3)
        have G4 := Lib.hid (show w9.cell? (ag.add 4) = some (.slice Ah nh ch) from g4)
        have D9 := Lib.hid (bt Hg8.out.1 hb9)
        have HbW := Lib.hid (HbW.out.ext D9.out)
        have HcW := Lib.hid (HcW.out.below D9.out)
        have Hx := Lib.hid (Hx.out.below D9.out)
        have Hb9 := Lib.hid (bt Hb7.out D9.out)
        have Hr0 := Lib.hid (Hr.out.below Hb9.out)
        have Hri := Lib.hid (Hri0.out.below Hb9.out)
        have zg : 0 < 1 := by decide
        clear hr9 e9 q9 r9 hcg g0 g1 g2 g3 g4 hb9 Hb8 HO Hg8
        go_wp2_with fail
        refine WH.start (S := fun w' : World => Below w9.heap.size w9 w') (List.replicate 42 false) 42 rfl rfl (by kernel_rfl) (bdrew w9 1) (fun hSn => ?_)
        simp only [List.replicate]
        refine WH.take 0 _ ?_ rfl (by kernel_rfl) (fun _ _ _ h => h) rfl (by assumption) ?_ ?_; rotate_left; (focus (intro w hSw; (try dsimp only at hSw); (first | (go_simp; done) | (go_simp; with_reducible rfl)))); simp only [Act.put, List.setIfInBounds_toArray, List.set_cons_zero, List.set_cons_succ]
        refine WH.take 1 _ ?_ rfl (by kernel_rfl) (fun _ _ _ h => h) rfl (by assumption) ?_ ?_; rotate_left; (focus (intro w hSw; (try dsimp only at hSw); (first | (go_simp; done) | (go_simp; with_reducible rfl)))); simp only [Act.put, List.setIfInBounds_toArray, List.set_cons_zero, List.set_cons_succ]
        refine WH.take 2 _ ?_ rfl (by kernel_rfl) (fun _ _ _ h => h) rfl (by assumption) ?_ ?_; rotate_left; (focus (intro w hSw; (try dsimp only at hSw); (first | (go_simp; done) | (go_simp; with_reducible rfl)))); simp only [Act.put, List.setIfInBounds_toArray, List.set_cons_zero, List.set_cons_succ]
        refine WH.take 3 _ ?_ rfl (by kernel_rfl) (fun _ _ _ h => h) rfl (by assumption) ?_ ?_; rotate_left; (focus (intro w hSw; (try dsimp only at hSw); (first | (go_simp; done) | (go_simp; with_reducible rfl)))); simp only [Act.put, List.setIfInBounds_toArray, List.set_cons_zero, List.set_cons_succ]
        refine WH.take 4 _ ?_ rfl (by kernel_rfl) (fun _ _ _ h => h) rfl (by assumption) ?_ ?_; rotate_left; (focus (intro w hSw; (try dsimp only at hSw); (first | (go_simp; done) | (go_simp; with_reducible rfl)))); simp only [Act.put, List.setIfInBounds_toArray, List.set_cons_zero, List.set_cons_succ]
        refine WH.take 5 _ ?_ rfl (by kernel_rfl) (fun _ _ _ h => h) rfl (by assumption) ?_ ?_; rotate_left; (focus (intro w hSw; (try dsimp only at hSw); (first | (go_simp; done) | (go_simp; with_reducible rfl)))); simp only [Act.put, List.setIfInBounds_toArray, List.set_cons_zero, List.set_cons_succ]
        refine WH.take 6 _ ?_ rfl (by kernel_rfl) (fun _ _ _ h => h) rfl (by assumption) ?_ ?_; rotate_left; (focus (intro w hSw; (try dsimp only at hSw); (first | (go_simp; done) | (go_simp; with_reducible rfl)))); simp only [Act.put, List.setIfInBounds_toArray, List.set_cons_zero, List.set_cons_succ]
        refine WH.take 7 _ _ rfl (by kernel_rfl) (fun _ _ _ h => h) rfl (by assumption) (fun w' hSw => exec_load_five _ _ rfl ag rfl _ _ _ _ _ ((hSw.cell (block_lt_of_cell G0.out)).trans G0.out) ((hSw.cell (block_lt_of_cell G1.out)).trans G1.out) ((hSw.cell (block_lt_of_cell G2.out)).trans G2.out) ((hSw.cell (block_lt_of_cell G3.out)).trans G3.out) ((hSw.cell (block_lt_of_cell G4.out)).trans G4.out) _ Try.underlying45 Try.rchgSize) ?_; simp only [Act.put, List.setIfInBounds_toArray, List.set_cons_zero, List.set_cons_succ]
        refine WH.take 8 _ _ rfl (by kernel_rfl) (fun _ _ _ h => h) rfl (by assumption) (fun w' hSw => exec_load_blk _ _ rfl _ rfl _ _ (HbW.out.ext hSw) _ (Try.underlying45) rfl (Try.rchgSize)) ?_; simp only [Act.put, List.setIfInBounds_toArray, List.set_cons_zero, List.set_cons_succ]
        refine WH.only 9 _ rfl (by kernel_rfl) rfl (fun K hK => ?_); go_simp; refine (rsame9_any C Ag ng cg Ah nh ch Ae ne ce Am nm cm _ (HcG.out.below hSn) (HcW.out.below hSn)).mono ?_; rintro e wa ⟨rfl, hba⟩; go_simp
        have hSn := bt hSn hba; refine hK _ _ hSn ?_; clear hK; clear K; simp only [List.set_cons_zero, List.set_cons_succ]
        refine WH.take 10 _ ?_ rfl (by kernel_rfl) (fun _ _ _ h => h) rfl (by assumption) ?_ ?_; rotate_left; (focus (intro w hSw; (try dsimp only at hSw); (first | (go_simp; done) | (go_simp; with_reducible rfl)))); simp only [Act.put, List.setIfInBounds_toArray, List.set_cons_zero, List.set_cons_succ]
        refine WH.take 11 _ ?_ rfl (by kernel_rfl) (fun _ _ _ h => h) rfl (by assumption) ?_ ?_; rotate_left; (focus (intro w hSw; (try dsimp only at hSw); (first | (go_simp; done) | (go_simp; with_reducible rfl)))); simp only [Act.put, List.setIfInBounds_toArray, List.set_cons_zero, List.set_cons_succ]
        refine WH.take 12 _ ?_ rfl (by kernel_rfl) (fun _ _ _ h => h) rfl (by assumption) ?_ ?_; rotate_left; (focus (intro w hSw; (try dsimp only at hSw); (first | (go_simp; done) | (go_simp; with_reducible rfl)))); simp only [Act.put, List.setIfInBounds_toArray, List.set_cons_zero, List.set_cons_succ]
        refine WH.take 13 _ ?_ rfl (by kernel_rfl) (fun _ _ _ h => h) rfl (by assumption) ?_ ?_; rotate_left; (focus (intro w hSw; (try dsimp only at hSw); (first | (go_simp; done) | (go_simp; with_reducible rfl)))); simp only [Act.put, List.setIfInBounds_toArray, List.set_cons_zero, List.set_cons_succ]
        refine WH.take 16 _ ?_ rfl (by kernel_rfl) (fun _ _ _ h => h) rfl (by assumption) ?_ ?_; rotate_left; (focus (intro w hSw; (try dsimp only at hSw); (first | (go_simp; done) | (go_simp; with_reducible rfl)))); simp only [Act.put, List.setIfInBounds_toArray, List.set_cons_zero, List.set_cons_succ]
        refine WH.take 17 _ ?_ rfl (by kernel_rfl) (fun _ _ _ h => h) rfl (by assumption) ?_ ?_; rotate_left; (focus (intro w hSw; (try dsimp only at hSw); (first | (go_simp; done) | (go_simp; with_reducible rfl)))); simp only [Act.put, List.setIfInBounds_toArray, List.set_cons_zero, List.set_cons_succ]
        refine WH.only 14 _ rfl (by kernel_rfl) rfl (fun K hK => ?_); go_simp; refine (pof_any A3 n3 c3 l HX.out.1 HX.out.2 HD4.out x _ (Hx.out.below hSn)).mono ?_; rintro e wb ⟨A14, n14, c14, rfl, e14, q14, r14, hr14, hb14⟩; go_simp
        have L14 := Lib.hid hr14
        have M14 := Lib.hid (And.intro e14 (And.intro q14 r14))
        clear e14 q14 r14 hr14
        have hSn := bt hSn hb14; refine hK _ _ hSn ?_; clear hK; clear K; simp only [List.set_cons_zero, List.set_cons_succ]
        refine WH.only 15 _ rfl (by kernel_rfl) rfl (fun K hK => ?_); go_simp; refine (of9_any A14 n14 c14 (ofC l x) M14.out.1 (by rw [← M14.out.1]; exact HOl.out) _ L14.out).mono ?_; rintro e wc ⟨A15, n15, c15, rfl, e15, q15, r15, hr15, hb15⟩; go_simp
        have L15 := Lib.hid hr15
        have M15 := Lib.hid (And.intro e15 (And.intro q15 r15))
        clear e15 q15 r15 hr15
        have hSn := bt hSn hb15; refine hK _ _ hSn ?_; clear hK; clear K; simp only [List.set_cons_zero, List.set_cons_succ]
        refine WH.only 18 _ rfl (by kernel_rfl) rfl (fun K hK => ?_); go_simp; refine (rof9_any _ n cap l Hn.out Hl.out x _ (Hr0.out.below hSn)).mono ?_; rintro e wd ⟨A18, n18, c18, rfl, e18, q18, r18, hr18, hb18⟩; go_simp
        have L18 := Lib.hid hr18
        have M18 := Lib.hid (And.intro e18 (And.intro q18 r18))
        have L15 := Lib.hid (L15.out.below hb18)
        clear e18 q18 r18 hr18
        have hSn := bt hSn hb18; refine hK _ _ hSn ?_; clear hK; clear K; simp only [List.set_cons_zero, List.set_cons_succ]
        obtain rfl : n15 = n18 := M15.out.1.symm.trans M18.out.1
        refine WH.only 19 _ rfl (by kernel_rfl) rfl (fun K hK => ?_); go_simp; refine (rsameAll9_any A15 n15 c15 A18 c18 (ofC l x) M15.out.1 (by rw [← M15.out.1]; exact HOl.out) _ L15.out L18.out).mono ?_; rintro e we ⟨rfl, hbe⟩; go_simp
        have hSn := bt hSn hbe; refine hK _ _ hSn ?_; clear hK; clear K; simp only [List.set_cons_zero, List.set_cons_succ]
        refine WH.take 20 _ ?_ rfl (by kernel_rfl) (fun _ _ _ h => h) rfl (by assumption) ?_ ?_; rotate_left; (focus (intro w hSw; (try dsimp only at hSw); (first | (go_simp; done) | (go_simp; with_reducible rfl)))); simp only [Act.put, List.setIfInBounds_toArray, List.set_cons_zero, List.set_cons_succ]
        refine WH.take 21 _ ?_ rfl (by kernel_rfl) (fun _ _ _ h => h) rfl (by assumption) ?_ ?_; rotate_left; (focus (intro w hSw; (try dsimp only at hSw); (first | (go_simp; done) | (go_simp; with_reducible rfl)))); simp only [Act.put, List.setIfInBounds_toArray, List.set_cons_zero, List.set_cons_succ]
        refine WH.take 22 _ ?_ rfl (by kernel_rfl) (fun _ _ _ h => h) rfl (by assumption) ?_ ?_; rotate_left; (focus (intro w hSw; (try dsimp only at hSw); (first | (go_simp; done) | (go_simp; with_reducible rfl)))); simp only [Act.put, List.setIfInBounds_toArray, List.set_cons_zero, List.set_cons_succ]
        refine WH.take 23 _ ?_ rfl (by kernel_rfl) (fun _ _ _ h => h) rfl (by assumption) ?_ ?_; rotate_left; (focus (intro w hSw; (try dsimp only at hSw); (first | (go_simp; done) | (go_simp; with_reducible rfl)))); simp only [Act.put, List.setIfInBounds_toArray, List.set_cons_zero, List.set_cons_succ]
        refine WH.take 26 _ ?_ rfl (by kernel_rfl) (fun _ _ _ h => h) rfl (by assumption) ?_ ?_; rotate_left; (focus (intro w hSw; (try dsimp only at hSw); (first | (go_simp; done) | (go_simp; with_reducible rfl)))); simp only [Act.put, List.setIfInBounds_toArray, List.set_cons_zero, List.set_cons_succ]
        refine WH.take 27 _ ?_ rfl (by kernel_rfl) (fun _ _ _ h => h) rfl (by assumption) ?_ ?_; rotate_left; (focus (intro w hSw; (try dsimp only at hSw); (first | (go_simp; done) | (go_simp; with_reducible rfl)))); simp only [Act.put, List.setIfInBounds_toArray, List.set_cons_zero, List.set_cons_succ]
        refine WH.only 24 _ rfl (by kernel_rfl) rfl (fun K hK => ?_); go_simp; refine (pwithout_any A3 n3 c3 l HX.out.1 HX.out.2 HD4.out Ab nb cb ids Hnb.out Hnb2.out Hib.out _ (Hx.out.below hSn) (Hri.out.below hSn)).mono ?_; rintro e wf ⟨A24, n24, c24, rfl, e24, q24, r24, hr24, hb24⟩; go_simp
        have L24 := Lib.hid hr24
        have M24 := Lib.hid (And.intro e24 (And.intro q24 r24))
        clear e24 q24 r24 hr24
        have hSn := bt hSn hb24; refine hK _ _ hSn ?_; clear hK; clear K; simp only [List.set_cons_zero, List.set_cons_succ]
        refine WH.only 25 _ rfl (by kernel_rfl) rfl (fun K hK => ?_); go_simp; refine (of9_any A24 n24 c24 (withoutC l ids) M24.out.1 (by rw [← M24.out.1]; exact HWl.out) _ L24.out).mono ?_; rintro e wg ⟨A25, n25, c25, rfl, e25, q25, r25, hr25, hb25⟩; go_simp
        have L25 := Lib.hid hr25
        have M25 := Lib.hid (And.intro e25 (And.intro q25 r25))
        clear e25 q25 r25 hr25
        have hSn := bt hSn hb25; refine hK _ _ hSn ?_; clear hK; clear K; simp only [List.set_cons_zero, List.set_cons_succ]
        refine WH.only 28 _ rfl (by kernel_rfl) rfl (fun K hK => ?_); go_simp; refine (rwithout9_any _ n cap l Hn.out Hl.out Ab nb cb ids Hnb.out Hnb2.out _ (Hr0.out.below hSn) (Hri.out.below hSn)).mono ?_; rintro e wh ⟨A28, n28, c28, rfl, e28, q28, r28, hr28, hb28⟩; go_simp
        have L28 := Lib.hid hr28
        have M28 := Lib.hid (And.intro e28 (And.intro q28 r28))
        have L25 := Lib.hid (L25.out.below hb28)
        clear e28 q28 r28 hr28
        have hSn := bt hSn hb28; refine hK _ _ hSn ?_; clear hK; clear K; simp only [List.set_cons_zero, List.set_cons_succ]
        obtain rfl : n25 = n28 := M25.out.1.symm.trans M28.out.1
        refine WH.only 29 _ rfl (by kernel_rfl) rfl (fun K hK => ?_); go_simp; refine (rsameAll9_any A25 n25 c25 A28 c28 (withoutC l ids) M25.out.1 (by rw [← M25.out.1]; exact HWl.out) _ L25.out L28.out).mono ?_; rintro e wi ⟨rfl, hbi⟩; go_simp
        have hSn := bt hSn hbi; refine hK _ _ hSn ?_; clear hK; clear K; simp only [List.set_cons_zero, List.set_cons_succ]
        refine WH.take 30 _ ?_ rfl (by kernel_rfl) (fun _ _ _ h => h) rfl (by assumption) ?_ ?_; rotate_left; (focus (intro w hSw; (try dsimp only at hSw); (first | (go_simp; done) | (go_simp; with_reducible rfl)))); simp only [Act.put, List.setIfInBounds_toArray, List.set_cons_zero, List.set_cons_succ]
        refine WH.take 31 _ ?_ rfl (by kernel_rfl) (fun _ _ _ h => h) rfl (by assumption) ?_ ?_; rotate_left; (focus (intro w hSw; (try dsimp only at hSw); (first | (go_simp; done) | (go_simp; with_reducible rfl)))); simp only [Act.put, List.setIfInBounds_toArray, List.set_cons_zero, List.set_cons_succ]
        refine WH.take 32 _ ?_ rfl (by kernel_rfl) (fun _ _ _ h => h) rfl (by assumption) ?_ ?_; rotate_left; (focus (intro w hSw; (try dsimp only at hSw); (first | (go_simp; done) | (go_simp; with_reducible rfl)))); simp only [Act.put, List.setIfInBounds_toArray, List.set_cons_zero, List.set_cons_succ]
        refine WH.take 34 _ ?_ rfl (by kernel_rfl) (fun _ _ _ h => h) rfl (by assumption) ?_ ?_; rotate_left; (focus (intro w hSw; (try dsimp only at hSw); (first | (go_simp; done) | (go_simp; with_reducible rfl)))); simp only [Act.put, List.setIfInBounds_toArray, List.set_cons_zero, List.set_cons_succ]
        refine WH.only 33 _ rfl (by kernel_rfl) rfl (fun K hK => ?_); go_simp; refine (pblocks_any A3 n3 c3 l HX.out.1 HX.out.2 _ (Hx.out.below hSn)).mono ?_; rintro e wj ⟨A33, n33, c33, rfl, e33, q33, r33, hr33, hb33⟩; go_simp
        have L33 := Lib.hid hr33
        have M33 := Lib.hid (And.intro e33 (And.intro q33 r33))
        clear e33 q33 r33 hr33
        have hSn := bt hSn hb33; refine hK _ _ hSn ?_; clear hK; clear K; simp only [List.set_cons_zero, List.set_cons_succ]
        refine WH.only 35 _ rfl (by kernel_rfl) rfl (fun K hK => ?_); go_simp; refine (rblocks9_any _ n cap l Hn.out Hl.out _ (Hr0.out.below hSn)).mono ?_; rintro e wk ⟨A35, n35, c35, rfl, e35, q35, r35, hr35, hb35⟩; go_simp
        have L35 := Lib.hid hr35
        have M35 := Lib.hid (And.intro e35 (And.intro q35 r35))
        have L33 := Lib.hid (L33.out.below hb35)
        clear e35 q35 r35 hr35
        have hSn := bt hSn hb35; refine hK _ _ hSn ?_; clear hK; clear K; simp only [List.set_cons_zero, List.set_cons_succ]
        refine WH.only 36 _ rfl (by kernel_rfl) rfl (fun K hK => ?_); go_simp; refine (ints_any A33 n33 c33 _ M33.out.1 A35 n35 c35 _ M35.out.1 (Nat.le_trans M33.out.2.1 M33.out.2.2) (Nat.le_trans M35.out.2.1 M35.out.2.2) _ L33.out L35.out).mono ?_; rintro e wl ⟨rfl, ql, rfl⟩; go_simp
        have hSn := bt hSn (bdrew _ ql); refine hK _ _ hSn ?_; clear hK; clear K; simp only [List.set_cons_zero, List.set_cons_succ]
        refine WH.take 37 _ ?_ rfl (by kernel_rfl) (fun _ _ _ h => h) rfl (by assumption) ?_ ?_; rotate_left; (focus (intro w hSw; (try dsimp only at hSw); (first | (go_simp; done) | (go_simp; with_reducible rfl)))); simp only [Act.put, List.setIfInBounds_toArray, List.set_cons_zero, List.set_cons_succ]
        refine WH.take 38 _ ?_ rfl (by kernel_rfl) (fun _ _ _ h => h) rfl (by assumption) ?_ ?_; rotate_left; (focus (intro w hSw; (try dsimp only at hSw); (first | (go_simp; done) | (go_simp; with_reducible rfl)))); simp only [Act.put, List.setIfInBounds_toArray, List.set_cons_zero, List.set_cons_succ]
        refine WH.only 39 _ rfl (by kernel_rfl) rfl (fun K hK => ?_); go_simp; refine (works09_any _).mono ?_; rintro e wm ⟨rfl, hbm⟩; go_simp
        have hSn := bt hSn hbm; refine hK _ _ hSn ?_; clear hK; clear K; simp only [List.set_cons_zero, List.set_cons_succ]
        refine WH.take 40 _ ?_ rfl (by kernel_rfl) (fun _ _ _ h => h) rfl (by assumption) ?_ ?_; rotate_left; (focus (intro w hSw; (try dsimp only at hSw); (first | (go_simp; done) | (go_simp; with_reducible rfl)))); simp only [Act.put, List.setIfInBounds_toArray, List.set_cons_zero, List.set_cons_succ]
        refine WH.take 41 _ ?_ rfl (by kernel_rfl) (fun _ _ _ h => h) rfl (by assumption) ?_ ?_; rotate_left; (focus (intro w hSw; (try dsimp only at hSw); (first | (go_simp; done) | (go_simp; with_reducible rfl)))); simp only [Act.put, List.setIfInBounds_toArray, List.set_cons_zero, List.set_cons_succ]
        refine WH.done (by kernel_rfl) ?_
        have Hfin := Lib.hid (bt Hb9.out hSn)
        clear hSn
        go_wp2_with fail
        go_ret
        exact ⟨rfl, Hfin.out⟩
      · have hFk := HF.out.symm.trans (findC_none hno)
        have hCk : C = default := by rw [HC.out, hFk]; rfl
        subst hFk
        clear HF HC hno
        have HCd := Lib.hid hCk
        clear hCk
        rw [show (none : Option Cg).isSome = false from rfl]
        go_wp2_with (refine wpList_alloc_row rfl _ rfl _ Try.rchgZero ?_)
        apply Stop.go; intro w7 Hg7 Hb7a
        go_wp2_with (refine wpList_store_arr rfl _ _ _ rfl _ #[.int .i64 0, .int .i64 0, .int .i64 0, .slice none 0 0, .slice none 0 0] rfl rfl _ _ Hb7a.out Try.rchgSize rfl (by simp [Value.oneCell']) ?_)
        apply Stop.go; intro w7b Ho7 HbW
        have D7c := Lib.hid (bonly Hg7.out.1 Ho7.out (Nat.le_refl _))
        have HbW := Lib.hid (show Blk w7b w6.heap.size 45 #[.int .i64 C.id, .int .i64 C.block, .int .i64 C.p.at_, .slice none 0 0, .slice none 0 0] by rw [HCd.out]; exact HbW.out)
        have HcW := Lib.hid (show CV w7b C none 0 0 none 0 0 by rw [HCd.out]; exact ⟨by decide, by decide, by decide, by decide, ⟨by decide, by decide, rfl, Nat.le_refl _, by unfold maxLen; omega, RB.nil_ _ _⟩, rfl, Nat.le_refl _, by unfold maxLen; omega, RC.nil_ _ _, fun z hz => by cases hz⟩)
        have HbC := Lib.hid (HbC6.out.ext D7c.out)
        have HcC := Lib.hid (Hcv6.out.below D7c.out)
        have Hx := Lib.hid (Hx6.out.below D7c.out)
        have Hb7 := Lib.hid (bt Hb6.out D7c.out)
        clear Hb7a Ho7 Hg7 D7c HbC6 Hcv6 Hx6 Hr6 Hb6
        generalize w6.heap.size = gw at *
        go_wp2_with (first | refine wpList_load_blk rfl _ _ rfl _ rfl _ _ HbC.out _ Try.underlying39 rfl Try.chgSize ?_ | refine wpList_build_row rfl _ _ _ rfl Try.underlying25 5 72 _ Try.chgInfo (by decide) (by decide) #[.int .i64 C.id, .int .i64 C.block, .int .i64 C.p.at_, .slice Ad nd cd, .slice An nn cn] rfl rfl ?_)
        apply Stop.go; intro w8 Hg8 Hb8
        have HO := Lib.hid (RdL.one Hb8.out (HcC.out.below Hg8.out.1))
        go_wp2_with fail
        refine (of9_any _ 1 1 [C] rfl (by decide) _ HO.out).mono ?_; rintro e w9 ⟨A9, n9, c9, rfl, e9, q9, r9, hr9, hb9⟩
        obtain rfl : n9 = 1 := e9.symm
        obtain ⟨ag, Ag, ng, cg, Ah, nh, ch, rfl, hcg, g0, g1, g2, g3, g4⟩ := hr9.cg (k := 0) (Nat.succ_pos _)
        have HcG := Lib.hid (show CV w9 C Ag ng cg Ah nh ch from hcg)
        have G0 := Lib.hid (show w9.cell? ag = some (.int .i64 C.id) from g0)
        have G1 := Lib.hid (show w9.cell? (ag.add 1) = some (.int .i64 C.block) from g1)
        have G2 := Lib.hid (show w9.cell? (ag.add 2) = some (.int .i64 C.p.at_) from g2)
        have G3 := Lib.hid (show w9.cell? (ag.add 3) = some (.slice Ag ng cg) from g3)
        have G4 := Lib.hid (show w9.cell? (ag.add 4) = some (.slice Ah nh ch) from g4)
        have D9 := Lib.hid (bt Hg8.out.1 hb9)
        have HbW := Lib.hid (HbW.out.ext D9.out)
        have HcW := Lib.hid (HcW.out.below D9.out)
        have Hx := Lib.hid (Hx.out.below D9.out)
        have Hb9 := Lib.hid (bt Hb7.out D9.out)
        have Hr0 := Lib.hid (Hr.out.below Hb9.out)
        have Hri := Lib.hid (Hri0.out.below Hb9.out)
        have zg : 0 < 1 := by decide
        clear hr9 e9 q9 r9 hcg g0 g1 g2 g3 g4 hb9 Hb8 HO Hg8
        go_wp2_with fail
        refine WH.start (S := fun w' : World => Below w9.heap.size w9 w') (List.replicate 42 false) 42 rfl rfl (by kernel_rfl) (bdrew w9 1) (fun hSn => ?_)
        simp only [List.replicate]
        refine WH.take 0 _ ?_ rfl (by kernel_rfl) (fun _ _ _ h => h) rfl (by assumption) ?_ ?_; rotate_left; (focus (intro w hSw; (try dsimp only at hSw); (first | (go_simp; done) | (go_simp; with_reducible rfl)))); simp only [Act.put, List.setIfInBounds_toArray, List.set_cons_zero, List.set_cons_succ]
        refine WH.take 1 _ ?_ rfl (by kernel_rfl) (fun _ _ _ h => h) rfl (by assumption) ?_ ?_; rotate_left; (focus (intro w hSw; (try dsimp only at hSw); (first | (go_simp; done) | (go_simp; with_reducible rfl)))); simp only [Act.put, List.setIfInBounds_toArray, List.set_cons_zero, List.set_cons_succ]
        refine WH.take 2 _ ?_ rfl (by kernel_rfl) (fun _ _ _ h => h) rfl (by assumption) ?_ ?_; rotate_left; (focus (intro w hSw; (try dsimp only at hSw); (first | (go_simp; done) | (go_simp; with_reducible rfl)))); simp only [Act.put, List.setIfInBounds_toArray, List.set_cons_zero, List.set_cons_succ]
        refine WH.take 3 _ ?_ rfl (by kernel_rfl) (fun _ _ _ h => h) rfl (by assumption) ?_ ?_; rotate_left; (focus (intro w hSw; (try dsimp only at hSw); (first | (go_simp; done) | (go_simp; with_reducible rfl)))); simp only [Act.put, List.setIfInBounds_toArray, List.set_cons_zero, List.set_cons_succ]
        refine WH.take 4 _ ?_ rfl (by kernel_rfl) (fun _ _ _ h => h) rfl (by assumption) ?_ ?_; rotate_left; (focus (intro w hSw; (try dsimp only at hSw); (first | (go_simp; done) | (go_simp; with_reducible rfl)))); simp only [Act.put, List.setIfInBounds_toArray, List.set_cons_zero, List.set_cons_succ]
        refine WH.take 5 _ ?_ rfl (by kernel_rfl) (fun _ _ _ h => h) rfl (by assumption) ?_ ?_; rotate_left; (focus (intro w hSw; (try dsimp only at hSw); (first | (go_simp; done) | (go_simp; with_reducible rfl)))); simp only [Act.put, List.setIfInBounds_toArray, List.set_cons_zero, List.set_cons_succ]
        refine WH.take 6 _ ?_ rfl (by kernel_rfl) (fun _ _ _ h => h) rfl (by assumption) ?_ ?_; rotate_left; (focus (intro w hSw; (try dsimp only at hSw); (first | (go_simp; done) | (go_simp; with_reducible rfl)))); simp only [Act.put, List.setIfInBounds_toArray, List.set_cons_zero, List.set_cons_succ]
        refine WH.take 7 _ _ rfl (by kernel_rfl) (fun _ _ _ h => h) rfl (by assumption) (fun w' hSw => exec_load_five _ _ rfl ag rfl _ _ _ _ _ ((hSw.cell (block_lt_of_cell G0.out)).trans G0.out) ((hSw.cell (block_lt_of_cell G1.out)).trans G1.out) ((hSw.cell (block_lt_of_cell G2.out)).trans G2.out) ((hSw.cell (block_lt_of_cell G3.out)).trans G3.out) ((hSw.cell (block_lt_of_cell G4.out)).trans G4.out) _ Try.underlying45 Try.rchgSize) ?_; simp only [Act.put, List.setIfInBounds_toArray, List.set_cons_zero, List.set_cons_succ]
        refine WH.take 8 _ _ rfl (by kernel_rfl) (fun _ _ _ h => h) rfl (by assumption) (fun w' hSw => exec_load_blk _ _ rfl _ rfl _ _ (HbW.out.ext hSw) _ (Try.underlying45) rfl (Try.rchgSize)) ?_; simp only [Act.put, List.setIfInBounds_toArray, List.set_cons_zero, List.set_cons_succ]
        refine WH.only 9 _ rfl (by kernel_rfl) rfl (fun K hK => ?_); go_simp; refine (rsame9_any C Ag ng cg Ah nh ch none 0 0 none 0 0 _ (HcG.out.below hSn) (HcW.out.below hSn)).mono ?_; rintro e wa ⟨rfl, hba⟩; go_simp
        have hSn := bt hSn hba; refine hK _ _ hSn ?_; clear hK; clear K; simp only [List.set_cons_zero, List.set_cons_succ]
        refine WH.take 10 _ ?_ rfl (by kernel_rfl) (fun _ _ _ h => h) rfl (by assumption) ?_ ?_; rotate_left; (focus (intro w hSw; (try dsimp only at hSw); (first | (go_simp; done) | (go_simp; with_reducible rfl)))); simp only [Act.put, List.setIfInBounds_toArray, List.set_cons_zero, List.set_cons_succ]
        refine WH.take 11 _ ?_ rfl (by kernel_rfl) (fun _ _ _ h => h) rfl (by assumption) ?_ ?_; rotate_left; (focus (intro w hSw; (try dsimp only at hSw); (first | (go_simp; done) | (go_simp; with_reducible rfl)))); simp only [Act.put, List.setIfInBounds_toArray, List.set_cons_zero, List.set_cons_succ]
        refine WH.take 12 _ ?_ rfl (by kernel_rfl) (fun _ _ _ h => h) rfl (by assumption) ?_ ?_; rotate_left; (focus (intro w hSw; (try dsimp only at hSw); (first | (go_simp; done) | (go_simp; with_reducible rfl)))); simp only [Act.put, List.setIfInBounds_toArray, List.set_cons_zero, List.set_cons_succ]
        refine WH.take 13 _ ?_ rfl (by kernel_rfl) (fun _ _ _ h => h) rfl (by assumption) ?_ ?_; rotate_left; (focus (intro w hSw; (try dsimp only at hSw); (first | (go_simp; done) | (go_simp; with_reducible rfl)))); simp only [Act.put, List.setIfInBounds_toArray, List.set_cons_zero, List.set_cons_succ]
        refine WH.take 16 _ ?_ rfl (by kernel_rfl) (fun _ _ _ h => h) rfl (by assumption) ?_ ?_; rotate_left; (focus (intro w hSw; (try dsimp only at hSw); (first | (go_simp; done) | (go_simp; with_reducible rfl)))); simp only [Act.put, List.setIfInBounds_toArray, List.set_cons_zero, List.set_cons_succ]
        refine WH.take 17 _ ?_ rfl (by kernel_rfl) (fun _ _ _ h => h) rfl (by assumption) ?_ ?_; rotate_left; (focus (intro w hSw; (try dsimp only at hSw); (first | (go_simp; done) | (go_simp; with_reducible rfl)))); simp only [Act.put, List.setIfInBounds_toArray, List.set_cons_zero, List.set_cons_succ]
        refine WH.only 14 _ rfl (by kernel_rfl) rfl (fun K hK => ?_); go_simp; refine (pof_any A3 n3 c3 l HX.out.1 HX.out.2 HD4.out x _ (Hx.out.below hSn)).mono ?_; rintro e wb ⟨A14, n14, c14, rfl, e14, q14, r14, hr14, hb14⟩; go_simp
        have L14 := Lib.hid hr14
        have M14 := Lib.hid (And.intro e14 (And.intro q14 r14))
        clear e14 q14 r14 hr14
        have hSn := bt hSn hb14; refine hK _ _ hSn ?_; clear hK; clear K; simp only [List.set_cons_zero, List.set_cons_succ]
        refine WH.only 15 _ rfl (by kernel_rfl) rfl (fun K hK => ?_); go_simp; refine (of9_any A14 n14 c14 (ofC l x) M14.out.1 (by rw [← M14.out.1]; exact HOl.out) _ L14.out).mono ?_; rintro e wc ⟨A15, n15, c15, rfl, e15, q15, r15, hr15, hb15⟩; go_simp
        have L15 := Lib.hid hr15
        have M15 := Lib.hid (And.intro e15 (And.intro q15 r15))
        clear e15 q15 r15 hr15
        have hSn := bt hSn hb15; refine hK _ _ hSn ?_; clear hK; clear K; simp only [List.set_cons_zero, List.set_cons_succ]
        refine WH.only 18 _ rfl (by kernel_rfl) rfl (fun K hK => ?_); go_simp; refine (rof9_any _ n cap l Hn.out Hl.out x _ (Hr0.out.below hSn)).mono ?_; rintro e wd ⟨A18, n18, c18, rfl, e18, q18, r18, hr18, hb18⟩; go_simp
        have L18 := Lib.hid hr18
        have M18 := Lib.hid (And.intro e18 (And.intro q18 r18))
        have L15 := Lib.hid (L15.out.below hb18)
        clear e18 q18 r18 hr18
        have hSn := bt hSn hb18; refine hK _ _ hSn ?_; clear hK; clear K; simp only [List.set_cons_zero, List.set_cons_succ]
        obtain rfl : n15 = n18 := M15.out.1.symm.trans M18.out.1
        refine WH.only 19 _ rfl (by kernel_rfl) rfl (fun K hK => ?_); go_simp; refine (rsameAll9_any A15 n15 c15 A18 c18 (ofC l x) M15.out.1 (by rw [← M15.out.1]; exact HOl.out) _ L15.out L18.out).mono ?_; rintro e we ⟨rfl, hbe⟩; go_simp
        have hSn := bt hSn hbe; refine hK _ _ hSn ?_; clear hK; clear K; simp only [List.set_cons_zero, List.set_cons_succ]
        refine WH.take 20 _ ?_ rfl (by kernel_rfl) (fun _ _ _ h => h) rfl (by assumption) ?_ ?_; rotate_left; (focus (intro w hSw; (try dsimp only at hSw); (first | (go_simp; done) | (go_simp; with_reducible rfl)))); simp only [Act.put, List.setIfInBounds_toArray, List.set_cons_zero, List.set_cons_succ]
        refine WH.take 21 _ ?_ rfl (by kernel_rfl) (fun _ _ _ h => h) rfl (by assumption) ?_ ?_; rotate_left; (focus (intro w hSw; (try dsimp only at hSw); (first | (go_simp; done) | (go_simp; with_reducible rfl)))); simp only [Act.put, List.setIfInBounds_toArray, List.set_cons_zero, List.set_cons_succ]
        refine WH.take 22 _ ?_ rfl (by kernel_rfl) (fun _ _ _ h => h) rfl (by assumption) ?_ ?_; rotate_left; (focus (intro w hSw; (try dsimp only at hSw); (first | (go_simp; done) | (go_simp; with_reducible rfl)))); simp only [Act.put, List.setIfInBounds_toArray, List.set_cons_zero, List.set_cons_succ]
        refine WH.take 23 _ ?_ rfl (by kernel_rfl) (fun _ _ _ h => h) rfl (by assumption) ?_ ?_; rotate_left; (focus (intro w hSw; (try dsimp only at hSw); (first | (go_simp; done) | (go_simp; with_reducible rfl)))); simp only [Act.put, List.setIfInBounds_toArray, List.set_cons_zero, List.set_cons_succ]
        refine WH.take 26 _ ?_ rfl (by kernel_rfl) (fun _ _ _ h => h) rfl (by assumption) ?_ ?_; rotate_left; (focus (intro w hSw; (try dsimp only at hSw); (first | (go_simp; done) | (go_simp; with_reducible rfl)))); simp only [Act.put, List.setIfInBounds_toArray, List.set_cons_zero, List.set_cons_succ]
        refine WH.take 27 _ ?_ rfl (by kernel_rfl) (fun _ _ _ h => h) rfl (by assumption) ?_ ?_; rotate_left; (focus (intro w hSw; (try dsimp only at hSw); (first | (go_simp; done) | (go_simp; with_reducible rfl)))); simp only [Act.put, List.setIfInBounds_toArray, List.set_cons_zero, List.set_cons_succ]
        refine WH.only 24 _ rfl (by kernel_rfl) rfl (fun K hK => ?_); go_simp; refine (pwithout_any A3 n3 c3 l HX.out.1 HX.out.2 HD4.out Ab nb cb ids Hnb.out Hnb2.out Hib.out _ (Hx.out.below hSn) (Hri.out.below hSn)).mono ?_; rintro e wf ⟨A24, n24, c24, rfl, e24, q24, r24, hr24, hb24⟩; go_simp
        have L24 := Lib.hid hr24
        have M24 := Lib.hid (And.intro e24 (And.intro q24 r24))
        clear e24 q24 r24 hr24
        have hSn := bt hSn hb24; refine hK _ _ hSn ?_; clear hK; clear K; simp only [List.set_cons_zero, List.set_cons_succ]
        refine WH.only 25 _ rfl (by kernel_rfl) rfl (fun K hK => ?_); go_simp; refine (of9_any A24 n24 c24 (withoutC l ids) M24.out.1 (by rw [← M24.out.1]; exact HWl.out) _ L24.out).mono ?_; rintro e wg ⟨A25, n25, c25, rfl, e25, q25, r25, hr25, hb25⟩; go_simp
        have L25 := Lib.hid hr25
        have M25 := Lib.hid (And.intro e25 (And.intro q25 r25))
        clear e25 q25 r25 hr25
        have hSn := bt hSn hb25; refine hK _ _ hSn ?_; clear hK; clear K; simp only [List.set_cons_zero, List.set_cons_succ]
        refine WH.only 28 _ rfl (by kernel_rfl) rfl (fun K hK => ?_); go_simp; refine (rwithout9_any _ n cap l Hn.out Hl.out Ab nb cb ids Hnb.out Hnb2.out _ (Hr0.out.below hSn) (Hri.out.below hSn)).mono ?_; rintro e wh ⟨A28, n28, c28, rfl, e28, q28, r28, hr28, hb28⟩; go_simp
        have L28 := Lib.hid hr28
        have M28 := Lib.hid (And.intro e28 (And.intro q28 r28))
        have L25 := Lib.hid (L25.out.below hb28)
        clear e28 q28 r28 hr28
        have hSn := bt hSn hb28; refine hK _ _ hSn ?_; clear hK; clear K; simp only [List.set_cons_zero, List.set_cons_succ]
        obtain rfl : n25 = n28 := M25.out.1.symm.trans M28.out.1
        refine WH.only 29 _ rfl (by kernel_rfl) rfl (fun K hK => ?_); go_simp; refine (rsameAll9_any A25 n25 c25 A28 c28 (withoutC l ids) M25.out.1 (by rw [← M25.out.1]; exact HWl.out) _ L25.out L28.out).mono ?_; rintro e wi ⟨rfl, hbi⟩; go_simp
        have hSn := bt hSn hbi; refine hK _ _ hSn ?_; clear hK; clear K; simp only [List.set_cons_zero, List.set_cons_succ]
        refine WH.take 30 _ ?_ rfl (by kernel_rfl) (fun _ _ _ h => h) rfl (by assumption) ?_ ?_; rotate_left; (focus (intro w hSw; (try dsimp only at hSw); (first | (go_simp; done) | (go_simp; with_reducible rfl)))); simp only [Act.put, List.setIfInBounds_toArray, List.set_cons_zero, List.set_cons_succ]
        refine WH.take 31 _ ?_ rfl (by kernel_rfl) (fun _ _ _ h => h) rfl (by assumption) ?_ ?_; rotate_left; (focus (intro w hSw; (try dsimp only at hSw); (first | (go_simp; done) | (go_simp; with_reducible rfl)))); simp only [Act.put, List.setIfInBounds_toArray, List.set_cons_zero, List.set_cons_succ]
        refine WH.take 32 _ ?_ rfl (by kernel_rfl) (fun _ _ _ h => h) rfl (by assumption) ?_ ?_; rotate_left; (focus (intro w hSw; (try dsimp only at hSw); (first | (go_simp; done) | (go_simp; with_reducible rfl)))); simp only [Act.put, List.setIfInBounds_toArray, List.set_cons_zero, List.set_cons_succ]
        refine WH.take 34 _ ?_ rfl (by kernel_rfl) (fun _ _ _ h => h) rfl (by assumption) ?_ ?_; rotate_left; (focus (intro w hSw; (try dsimp only at hSw); (first | (go_simp; done) | (go_simp; with_reducible rfl)))); simp only [Act.put, List.setIfInBounds_toArray, List.set_cons_zero, List.set_cons_succ]
        refine WH.only 33 _ rfl (by kernel_rfl) rfl (fun K hK => ?_); go_simp; refine (pblocks_any A3 n3 c3 l HX.out.1 HX.out.2 _ (Hx.out.below hSn)).mono ?_; rintro e wj ⟨A33, n33, c33, rfl, e33, q33, r33, hr33, hb33⟩; go_simp
        have L33 := Lib.hid hr33
        have M33 := Lib.hid (And.intro e33 (And.intro q33 r33))
        clear e33 q33 r33 hr33
        have hSn := bt hSn hb33; refine hK _ _ hSn ?_; clear hK; clear K; simp only [List.set_cons_zero, List.set_cons_succ]
        refine WH.only 35 _ rfl (by kernel_rfl) rfl (fun K hK => ?_); go_simp; refine (rblocks9_any _ n cap l Hn.out Hl.out _ (Hr0.out.below hSn)).mono ?_; rintro e wk ⟨A35, n35, c35, rfl, e35, q35, r35, hr35, hb35⟩; go_simp
        have L35 := Lib.hid hr35
        have M35 := Lib.hid (And.intro e35 (And.intro q35 r35))
        have L33 := Lib.hid (L33.out.below hb35)
        clear e35 q35 r35 hr35
        have hSn := bt hSn hb35; refine hK _ _ hSn ?_; clear hK; clear K; simp only [List.set_cons_zero, List.set_cons_succ]
        refine WH.only 36 _ rfl (by kernel_rfl) rfl (fun K hK => ?_); go_simp; refine (ints_any A33 n33 c33 _ M33.out.1 A35 n35 c35 _ M35.out.1 (Nat.le_trans M33.out.2.1 M33.out.2.2) (Nat.le_trans M35.out.2.1 M35.out.2.2) _ L33.out L35.out).mono ?_; rintro e wl ⟨rfl, ql, rfl⟩; go_simp
        have hSn := bt hSn (bdrew _ ql); refine hK _ _ hSn ?_; clear hK; clear K; simp only [List.set_cons_zero, List.set_cons_succ]
        refine WH.take 37 _ ?_ rfl (by kernel_rfl) (fun _ _ _ h => h) rfl (by assumption) ?_ ?_; rotate_left; (focus (intro w hSw; (try dsimp only at hSw); (first | (go_simp; done) | (go_simp; with_reducible rfl)))); simp only [Act.put, List.setIfInBounds_toArray, List.set_cons_zero, List.set_cons_succ]
        refine WH.take 38 _ ?_ rfl (by kernel_rfl) (fun _ _ _ h => h) rfl (by assumption) ?_ ?_; rotate_left; (focus (intro w hSw; (try dsimp only at hSw); (first | (go_simp; done) | (go_simp; with_reducible rfl)))); simp only [Act.put, List.setIfInBounds_toArray, List.set_cons_zero, List.set_cons_succ]
        refine WH.only 39 _ rfl (by kernel_rfl) rfl (fun K hK => ?_); go_simp; refine (works09_any _).mono ?_; rintro e wm ⟨rfl, hbm⟩; go_simp
        have hSn := bt hSn hbm; refine hK _ _ hSn ?_; clear hK; clear K; simp only [List.set_cons_zero, List.set_cons_succ]
        refine WH.take 40 _ ?_ rfl (by kernel_rfl) (fun _ _ _ h => h) rfl (by assumption) ?_ ?_; rotate_left; (focus (intro w hSw; (try dsimp only at hSw); (first | (go_simp; done) | (go_simp; with_reducible rfl)))); simp only [Act.put, List.setIfInBounds_toArray, List.set_cons_zero, List.set_cons_succ]
        refine WH.take 41 _ ?_ rfl (by kernel_rfl) (fun _ _ _ h => h) rfl (by assumption) ?_ ?_; rotate_left; (focus (intro w hSw; (try dsimp only at hSw); (first | (go_simp; done) | (go_simp; with_reducible rfl)))); simp only [Act.put, List.setIfInBounds_toArray, List.set_cons_zero, List.set_cons_succ]
        refine WH.done (by kernel_rfl) ?_
        have Hfin := Lib.hid (bt Hb9.out hSn)
        clear hSn
        go_wp2_with fail
        go_ret
        exact ⟨rfl, Hfin.out⟩

end Go.Proofs.Ytkhgoblmfcaapaa
