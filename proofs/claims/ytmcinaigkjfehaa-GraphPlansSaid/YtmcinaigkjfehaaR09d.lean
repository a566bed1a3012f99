/-
  The contract of the document's Waits.
-/
import Derived.Test.YtmcinaigkjfehaaR09c
import Derived.Test.YtmcinaigkjfehaaRef07
import Derived.Test.YtmcinaigkjfehaaCg5
namespace Go.Proofs.Ytmcinaigkjfehaa
open Go.RowKit

theorem rin9_is (A : Option Addr) (n cap : Nat) (l : List Int) (hn : l.length = n) (hm : n ≤ maxLen) (x : Int) (b : Bool) (hb : l.contains x = b) (w : World) (hr : RC w A (ivals l)) :
    Calls Try.prog 29 #[.slice A n cap, .int .i64 x] w fun e w' => e = .returned (.bool b) ∧ w = w' := by
  subst hb
  exact rin9_any A n cap l hn hm x w hr
set_option maxRecDepth 100000 in
set_option maxHeartbeats 8000000 in
theorem rwaits9_any (A : Option Addr) (n cap : Nat) (l : List Cg) (hn : l.length = n) (hm : n ≤ 4096) (hN : ∀ c ∈ l, c.needs.length ≤ 4096) (id : Int) (w : World) (hr : RdL RdC w A 5 l) :
    Calls Try.prog 33 #[.slice A n cap, .int .i64 id] w (RetI w (waitsC l id)) := by
  have Hn := Lib.hid hn
  have Hr := Lib.hid hr
  have HNN := Lib.hid hN
  obtain ⟨W, hW⟩ : ∃ W, waitsC l id = W := ⟨_, rfl⟩
  rw [hW]
  have HW := Lib.hid hW
  clear hn hr hN hW
  go_enter Try.func33, Try.ntmps33
  go_wp2_with fail
  refine (rplace_any A n cap l Hn.out (by unfold maxLen; omega) id _ Hr.out).mono ?_; rintro e w1 ⟨rfl, hpl⟩
  have HMay := Lib.hid (rmay_any A n cap l Hn.out hm HNN.out w Hr.out)
  cases hmay : mayC l
  · have HE : Hid (W = []) := Lib.hid (HW.out.symm.trans (waitsC_not id hmay))
    rw [hmay] at HMay
    clear hmay
    rcases hpl with ⟨p, hp, rfl, -, -⟩ | ⟨rfl, -⟩
    all_goals
      go_wp2_with fail
      refine (HMay.out).mono ?_; rintro e w2 ⟨rfl, hb2⟩
      have Hb2 := Lib.hid hb2
      clear hb2
      go_wp2_with fail
      go_ret
      rw [HE.out]
      exact RetI.nil_ Hb2.out
  · have Hmay := Lib.hid hmay
    rw [hmay] at HMay
    clear hmay
    rcases hpl with ⟨p, hp, rfl, hid, -⟩ | ⟨rfl, hno⟩
    rotate_left
    focus (
      have HE : Hid (W = []) := Lib.hid (HW.out.symm.trans (waitsC_none hno))
      clear hno
      go_wp2_with fail
      refine (HMay.out).mono ?_; rintro e w2 ⟨rfl, hb2⟩
      have Hb2 := Lib.hid hb2
      clear hb2
      go_wp2_with fail
      go_ret
      rw [HE.out]
      exact RetI.nil_ Hb2.out)
    have HWp := Lib.hid (HW.out.symm.trans (waitsC_at Hmay.out hp hid))
    have hN' := HNN.out l[p] (List.getElem_mem hp)
    obtain ⟨ad, Ad, nd, cd, An, nn, cn, rfl, hcv, h0, h1, h2, h3, h4⟩ := Hr.out.cg hp
    have hpn : p < n := by have := Hn.out; omega
    have P1 := Lib.hid (cell_fld h0 h1)
    have P2 := Lib.hid (cell_fld h0 h2)
    have P3 := Lib.hid (cell_fld1 (i := 2) h0 h3)
    have P4 := Lib.hid (cell_fld h0 h4)
    have Hcv0 := Lib.hid hcv
    clear h0 h1 h2 h3 h4 hcv hid hN'
    generalize l[p] = c at *
    have z0 : (p : Int) < n := by omega
    have dp : decide ((p : Int) < 0) = false := decide_eq_false (by omega)
    go_wp2_with fail
    refine (HMay.out).mono ?_; rintro e w2 ⟨rfl, hb2⟩
    have Hw2 := Lib.hid hb2
    clear hb2
    go_wp2_with fail
    go_loopw [5, 7] (fun v i wr => ∃ k : Nat, k ≤ p ∧ i = .int .i64 k ∧ OwnC wr w.heap.size 3 v (ivals (preW l c k)) ∧ Below w.heap.size w wr) (fun _ i _ => p - (intOf i).toNat)
    case atStart => exact ⟨0, Nat.zero_le _, rfl, OwnC.nil_ _ _ _, Hw2.out⟩
    case round =>
      obtain ⟨k, hk, rfl, hu, hbw⟩ := hrel
      have Hu := Lib.hid hu
      have Hbw := Lib.hid hbw
      clear hu hbw
      by_cases hlt : k < p
      · have d0 : decide ((k : Int) < p) = true := by simpa using hlt
        have hkl : k < l.length := by have := Hn.out; omega
        have z1 : (k : Int) < n := by omega
        have Hoff := Lib.hid (preW_off (c := c) hkl)
        have Hon := Lib.hid (preW_on (c := c) hkl)
        have hl0 := preW_len l c k
        have hl1 : (ivals (preW l c k)).length + 1 ≤ maxLen := by rw [ivals_len]; unfold maxLen; omega
        have hl2 : ((ivals (preW l c k)).length + 1) * 8 ≤ 140737488355328 := by rw [ivals_len]; omega
        obtain ⟨ad', Ae, ne, ce, Am, nm, cm, e', hdv, h0, h1, h2, h3, h4⟩ := (Hr.out.below Hbw.out).cg hkl
        injection e' with e'
        subst e'
        have D0 := Lib.hid h0
        have D1 := Lib.hid (cell_fld h0 h1)
        have D2 := Lib.hid (cell_fld h0 h2)
        have D3 := Lib.hid (cell_fld1 (i := 2) h0 h3)
        have Hdv := Lib.hid hdv
        have Q1 := Lib.hid ((Hbw.out.cell (block_lt_of_cell P1.out)).trans P1.out)
        have Q2 := Lib.hid ((Hbw.out.cell (block_lt_of_cell P2.out)).trans P2.out)
        have Q3 := Lib.hid ((Hbw.out.cell (block_lt_of_cell P3.out)).trans P3.out)
        have Q4 := Lib.hid ((Hbw.out.cell (block_lt_of_cell P4.out)).trans P4.out)
        have Hcv := Lib.hid (Hcv0.out.below Hbw.out)
        clear h0 h1 h2 h3 h4 hdv
        have Hk := Lib.hid (show keepsB l[k] c = ((decide (l[k].block = c.block) && meetP l[k].p c.p) || c.needs.contains l[k].id) from rfl)
        generalize l[k] = d at *
        generalize preW l c k = L at *
        clear hkl
        by_cases hbl : d.block = c.block
        · have e1 : (d.block == c.block) = true := by simpa using hbl
          have HBL := Lib.hid hbl
          clear hbl
          cases hm : meetP d.p c.p
          focus (
              have Hm := Lib.hid hm
              clear hm
              go_wp2_with fail
              refine WH.start (S := fun w' : World => Below wr.heap.size wr w') (List.replicate 25 false) 25 rfl rfl (by kernel_rfl) (bdrew wr 1) (fun hSn => ?_)
              simp only [List.replicate]
              refine WH.take 0 _ ?_ rfl (by kernel_rfl) (fun _ _ _ h => h) rfl (by assumption) ?_ ?_; rotate_left; (focus (intro w hSw; (try dsimp only at hSw); (first | (go_simp; done) | (go_simp; with_reducible rfl)))); simp only [Act.put, List.setIfInBounds_toArray, List.set_cons_zero, List.set_cons_succ]
              refine WH.take 1 _ ?_ rfl (by kernel_rfl) (fun _ _ _ h => h) rfl (by assumption) ?_ ?_; rotate_left; (focus (intro w hSw; (try dsimp only at hSw); (first | (go_simp; done) | (go_simp; with_reducible rfl)))); simp only [Act.put, List.setIfInBounds_toArray, List.set_cons_zero, List.set_cons_succ]
              refine WH.take 2 _ ?_ rfl (by kernel_rfl) (fun _ _ _ h => h) rfl (by assumption) ?_ ?_; rotate_left; (focus (intro w hSw; (try dsimp only at hSw); (first | (go_simp; done) | (go_simp; with_reducible rfl)))); simp only [Act.put, List.setIfInBounds_toArray, List.set_cons_zero, List.set_cons_succ]
              refine WH.take 3 _ ?_ rfl (by kernel_rfl) (fun _ _ _ h => h) rfl (by assumption) ?_ ?_; rotate_left; (focus (intro w hSw; (try dsimp only at hSw); (first | (go_simp; done) | (go_simp; with_reducible rfl)))); simp only [Act.put, List.setIfInBounds_toArray, List.set_cons_zero, List.set_cons_succ]
              refine WH.take 4 _ _ rfl (by kernel_rfl) (fun _ _ _ h => h) rfl (by assumption) (fun w' hSw => exec_load_cell _ _ rfl (⟨(ad.add (k * 5)).block, (ad.add (k * 5)).off + 1, none⟩) rfl (.int .i64 d.block) ((hSw.cell (block_lt_of_cell D1.out)).trans D1.out) _ Try.underlying3 rfl) ?_; simp only [Act.put, List.setIfInBounds_toArray, List.set_cons_zero, List.set_cons_succ]
              refine WH.take 5 _ ?_ rfl (by kernel_rfl) (fun _ _ _ h => h) rfl (by assumption) ?_ ?_; rotate_left; (focus (intro w hSw; (try dsimp only at hSw); (first | (go_simp; done) | (go_simp; with_reducible rfl)))); simp only [Act.put, List.setIfInBounds_toArray, List.set_cons_zero, List.set_cons_succ]
              refine WH.take 6 _ ?_ rfl (by kernel_rfl) (fun _ _ _ h => h) rfl (by assumption) ?_ ?_; rotate_left; (focus (intro w hSw; (try dsimp only at hSw); (first | (go_simp; done) | (go_simp; with_reducible rfl)))); simp only [Act.put, List.setIfInBounds_toArray, List.set_cons_zero, List.set_cons_succ]
              refine WH.take 7 _ ?_ rfl (by kernel_rfl) (fun _ _ _ h => h) rfl (by assumption) ?_ ?_; rotate_left; (focus (intro w hSw; (try dsimp only at hSw); (first | (go_simp; done) | (go_simp; with_reducible rfl)))); simp only [Act.put, List.setIfInBounds_toArray, List.set_cons_zero, List.set_cons_succ]
              refine WH.take 8 _ ?_ rfl (by kernel_rfl) (fun _ _ _ h => h) rfl (by assumption) ?_ ?_; rotate_left; (focus (intro w hSw; (try dsimp only at hSw); (first | (go_simp; done) | (go_simp; with_reducible rfl)))); simp only [Act.put, List.setIfInBounds_toArray, List.set_cons_zero, List.set_cons_succ]
              refine WH.take 9 _ _ rfl (by kernel_rfl) (fun _ _ _ h => h) rfl (by assumption) (fun w' hSw => exec_load_cell _ _ rfl (⟨(ad.add (p * 5)).block, (ad.add (p * 5)).off + 1, none⟩) rfl (.int .i64 c.block) ((hSw.cell (block_lt_of_cell Q1.out)).trans Q1.out) _ Try.underlying3 rfl) ?_; simp only [Act.put, List.setIfInBounds_toArray, List.set_cons_zero, List.set_cons_succ]
              refine WH.take 10 _ ?_ rfl (by kernel_rfl) (fun _ _ _ h => h) rfl (by assumption) ?_ ?_; rotate_left; (focus (intro w hSw; (try dsimp only at hSw); (first | (go_simp; done) | (go_simp; with_reducible rfl)))); simp only [Act.put, List.setIfInBounds_toArray, List.set_cons_zero, List.set_cons_succ]
              refine WH.take 11 _ ?_ rfl (by kernel_rfl) (fun _ _ _ h => h) rfl (by assumption) ?_ ?_; rotate_left; (focus (intro w hSw; (try dsimp only at hSw); (first | (go_simp; done) | (go_simp; with_reducible rfl)))); simp only [Act.put, List.setIfInBounds_toArray, List.set_cons_zero, List.set_cons_succ]
              refine WH.take 12 _ ?_ rfl (by kernel_rfl) (fun _ _ _ h => h) rfl (by assumption) ?_ ?_; rotate_left; (focus (intro w hSw; (try dsimp only at hSw); (first | (go_simp; done) | (go_simp; with_reducible rfl)))); simp only [Act.put, List.setIfInBounds_toArray, List.set_cons_zero, List.set_cons_succ]
              refine WH.take 13 _ ?_ rfl (by kernel_rfl) (fun _ _ _ h => h) rfl (by assumption) ?_ ?_; rotate_left; (focus (intro w hSw; (try dsimp only at hSw); (first | (go_simp; done) | (go_simp; with_reducible rfl)))); simp only [Act.put, List.setIfInBounds_toArray, List.set_cons_zero, List.set_cons_succ]
              refine WH.take 14 _ ?_ rfl (by kernel_rfl) (fun _ _ _ h => h) rfl (by assumption) ?_ ?_; rotate_left; (focus (intro w hSw; (try dsimp only at hSw); (first | (go_simp; done) | (go_simp; with_reducible rfl)))); simp only [Act.put, List.setIfInBounds_toArray, List.set_cons_zero, List.set_cons_succ]
              refine WH.take 15 _ ?_ rfl (by kernel_rfl) (fun _ _ _ h => h) rfl (by assumption) ?_ ?_; rotate_left; (focus (intro w hSw; (try dsimp only at hSw); (first | (go_simp; done) | (go_simp; with_reducible rfl)))); simp only [Act.put, List.setIfInBounds_toArray, List.set_cons_zero, List.set_cons_succ]
              refine WH.take 16 _ _ rfl (by kernel_rfl) (fun _ _ _ h => h) rfl (by assumption) (fun w' hSw => exec_load_pair _ _ rfl ⟨(ad.add (k * 5)).block, (ad.add (k * 5)).off + 2, none⟩ rfl (.int .i64 d.p.at_) (.slice Ae ne ce) ((hSw.cell (block_lt_of_cell D2.out)).trans D2.out) ((hSw.cell (block_lt_of_cell D3.out)).trans D3.out) _ Try.underlying38 Try.rpatchSize) ?_; simp only [Act.put, List.setIfInBounds_toArray, List.set_cons_zero, List.set_cons_succ]
              refine WH.take 17 _ ?_ rfl (by kernel_rfl) (fun _ _ _ h => h) rfl (by assumption) ?_ ?_; rotate_left; (focus (intro w hSw; (try dsimp only at hSw); (first | (go_simp; done) | (go_simp; with_reducible rfl)))); simp only [Act.put, List.setIfInBounds_toArray, List.set_cons_zero, List.set_cons_succ]
              refine WH.take 18 _ ?_ rfl (by kernel_rfl) (fun _ _ _ h => h) rfl (by assumption) ?_ ?_; rotate_left; (focus (intro w hSw; (try dsimp only at hSw); (first | (go_simp; done) | (go_simp; with_reducible rfl)))); simp only [Act.put, List.setIfInBounds_toArray, List.set_cons_zero, List.set_cons_succ]
              refine WH.take 19 _ ?_ rfl (by kernel_rfl) (fun _ _ _ h => h) rfl (by assumption) ?_ ?_; rotate_left; (focus (intro w hSw; (try dsimp only at hSw); (first | (go_simp; done) | (go_simp; with_reducible rfl)))); simp only [Act.put, List.setIfInBounds_toArray, List.set_cons_zero, List.set_cons_succ]
              refine WH.take 20 _ ?_ rfl (by kernel_rfl) (fun _ _ _ h => h) rfl (by assumption) ?_ ?_; rotate_left; (focus (intro w hSw; (try dsimp only at hSw); (first | (go_simp; done) | (go_simp; with_reducible rfl)))); simp only [Act.put, List.setIfInBounds_toArray, List.set_cons_zero, List.set_cons_succ]
              refine WH.take 21 _ _ rfl (by kernel_rfl) (fun _ _ _ h => h) rfl (by assumption) (fun w' hSw => exec_load_pair _ _ rfl ⟨(ad.add (p * 5)).block, (ad.add (p * 5)).off + 2, none⟩ rfl (.int .i64 c.p.at_) (.slice Ad nd cd) ((hSw.cell (block_lt_of_cell Q2.out)).trans Q2.out) ((hSw.cell (block_lt_of_cell Q3.out)).trans Q3.out) _ Try.underlying38 Try.rpatchSize) ?_; simp only [Act.put, List.setIfInBounds_toArray, List.set_cons_zero, List.set_cons_succ]
              refine WH.only 22 _ rfl (by kernel_rfl) rfl (fun K hK => ?_); go_simp; refine (rmeet_any d.p Ae ne ce c.p Ad nd cd _ (Hdv.out.p.below hSn) (Hcv.out.p.below hSn)).mono ?_; rintro e w3 ⟨rfl, hb3⟩; go_simp
              rw [Hm.out]
              have hSn := bt hSn hb3; refine hK _ _ hSn ?_; clear hK; clear K; simp only [List.set_cons_zero, List.set_cons_succ]
              refine WH.take 23 _ ?_ rfl (by kernel_rfl) (fun _ _ _ h => h) rfl (by assumption) ?_ ?_; rotate_left; (focus (intro w hSw; (try dsimp only at hSw); (first | (go_simp; done) | (go_simp; with_reducible rfl)))); simp only [Act.put, List.setIfInBounds_toArray, List.set_cons_zero, List.set_cons_succ]
              refine WH.take 24 _ ?_ rfl (by kernel_rfl) (fun _ _ _ h => h) rfl (by assumption) ?_ ?_; rotate_left; (focus (intro w hSw; (try dsimp only at hSw); (first | (go_simp; done) | (go_simp; with_reducible rfl)))); simp only [Act.put, List.setIfInBounds_toArray, List.set_cons_zero, List.set_cons_succ]
              refine WH.done (by kernel_rfl) ?_
              have HB := Lib.hid hSn
              clear hSn
              have Hu := Lib.hid (Hu.out.ext HB.out)
              have Hbw := Lib.hid (bt Hbw.out HB.out)
              have Hcv := Lib.hid (Hcv.out.below HB.out)
              have Hdv := Lib.hid (Hdv.out.below HB.out)
              have Q1 := Lib.hid ((HB.out.cell (block_lt_of_cell Q1.out)).trans Q1.out)
              have Q2 := Lib.hid ((HB.out.cell (block_lt_of_cell Q2.out)).trans Q2.out)
              have Q3 := Lib.hid ((HB.out.cell (block_lt_of_cell Q3.out)).trans Q3.out)
              have Q4 := Lib.hid ((HB.out.cell (block_lt_of_cell Q4.out)).trans Q4.out)
              have D0 := Lib.hid ((HB.out.cell (block_lt_of_cell D0.out)).trans D0.out)
              have D1 := Lib.hid ((HB.out.cell (block_lt_of_cell D1.out)).trans D1.out)
              have D2 := Lib.hid ((HB.out.cell (block_lt_of_cell D2.out)).trans D2.out)
              have D3 := Lib.hid ((HB.out.cell (block_lt_of_cell D3.out)).trans D3.out)
              clear HB
              cases hin : c.needs.contains d.id
              focus (
                have Hin := Lib.hid hin
                clear hin
                go_wp2_with fail
                refine WH.start (S := fun w' : World => Below w3.heap.size w3 w') (List.replicate 14 false) 14 rfl rfl (by kernel_rfl) (bdrew w3 1) (fun hSn => ?_)
                simp only [List.replicate]
                refine WH.take 0 _ ?_ rfl (by kernel_rfl) (fun _ _ _ h => h) rfl (by assumption) ?_ ?_; rotate_left; (focus (intro w hSw; (try dsimp only at hSw); (first | (go_simp; done) | (go_simp; with_reducible rfl)))); simp only [Act.put, List.setIfInBounds_toArray, List.set_cons_zero, List.set_cons_succ]
                refine WH.take 1 _ ?_ rfl (by kernel_rfl) (fun _ _ _ h => h) rfl (by assumption) ?_ ?_; rotate_left; (focus (intro w hSw; (try dsimp only at hSw); (first | (go_simp; done) | (go_simp; with_reducible rfl)))); simp only [Act.put, List.setIfInBounds_toArray, List.set_cons_zero, List.set_cons_succ]
                refine WH.take 2 _ ?_ rfl (by kernel_rfl) (fun _ _ _ h => h) rfl (by assumption) ?_ ?_; rotate_left; (focus (intro w hSw; (try dsimp only at hSw); (first | (go_simp; done) | (go_simp; with_reducible rfl)))); simp only [Act.put, List.setIfInBounds_toArray, List.set_cons_zero, List.set_cons_succ]
                refine WH.take 3 _ ?_ rfl (by kernel_rfl) (fun _ _ _ h => h) rfl (by assumption) ?_ ?_; rotate_left; (focus (intro w hSw; (try dsimp only at hSw); (first | (go_simp; done) | (go_simp; with_reducible rfl)))); simp only [Act.put, List.setIfInBounds_toArray, List.set_cons_zero, List.set_cons_succ]
                refine WH.take 4 _ ?_ rfl (by kernel_rfl) (fun _ _ _ h => h) rfl (by assumption) ?_ ?_; rotate_left; (focus (intro w hSw; (try dsimp only at hSw); (first | (go_simp; done) | (go_simp; with_reducible rfl)))); simp only [Act.put, List.setIfInBounds_toArray, List.set_cons_zero, List.set_cons_succ]
                refine WH.take 5 _ ?_ rfl (by kernel_rfl) (fun _ _ _ h => h) rfl (by assumption) ?_ ?_; rotate_left; (focus (intro w hSw; (try dsimp only at hSw); (first | (go_simp; done) | (go_simp; with_reducible rfl)))); simp only [Act.put, List.setIfInBounds_toArray, List.set_cons_zero, List.set_cons_succ]
                refine WH.take 6 _ _ rfl (by kernel_rfl) (fun _ _ _ h => h) rfl (by assumption) (fun w' hSw => exec_load_cell _ _ rfl (⟨(ad.add (p * 5)).block, (ad.add (p * 5)).off + 4, none⟩) rfl (.slice An nn cn) ((hSw.cell (block_lt_of_cell Q4.out)).trans Q4.out) _ Try.underlying28 rfl) ?_; simp only [Act.put, List.setIfInBounds_toArray, List.set_cons_zero, List.set_cons_succ]
                refine WH.take 7 _ ?_ rfl (by kernel_rfl) (fun _ _ _ h => h) rfl (by assumption) ?_ ?_; rotate_left; (focus (intro w hSw; (try dsimp only at hSw); (first | (go_simp; done) | (go_simp; with_reducible rfl)))); simp only [Act.put, List.setIfInBounds_toArray, List.set_cons_zero, List.set_cons_succ]
                refine WH.take 8 _ ?_ rfl (by kernel_rfl) (fun _ _ _ h => h) rfl (by assumption) ?_ ?_; rotate_left; (focus (intro w hSw; (try dsimp only at hSw); (first | (go_simp; done) | (go_simp; with_reducible rfl)))); simp only [Act.put, List.setIfInBounds_toArray, List.set_cons_zero, List.set_cons_succ]
                refine WH.take 9 _ ?_ rfl (by kernel_rfl) (fun _ _ _ h => h) rfl (by assumption) ?_ ?_; rotate_left; (focus (intro w hSw; (try dsimp only at hSw); (first | (go_simp; done) | (go_simp; with_reducible rfl)))); simp only [Act.put, List.setIfInBounds_toArray, List.set_cons_zero, List.set_cons_succ]
                refine WH.take 10 _ ?_ rfl (by kernel_rfl) (fun _ _ _ h => h) rfl (by assumption) ?_ ?_; rotate_left; (focus (intro w hSw; (try dsimp only at hSw); (first | (go_simp; done) | (go_simp; with_reducible rfl)))); simp only [Act.put, List.setIfInBounds_toArray, List.set_cons_zero, List.set_cons_succ]
                refine WH.take 11 _ _ rfl (by kernel_rfl) (fun _ _ _ h => h) rfl (by assumption) (fun w' hSw => exec_load_cell _ _ rfl (ad.add (k * 5)) rfl (.int .i64 d.id) ((hSw.cell (block_lt_of_cell D0.out)).trans D0.out) _ Try.underlying3 rfl) ?_; simp only [Act.put, List.setIfInBounds_toArray, List.set_cons_zero, List.set_cons_succ]
                refine WH.only 12 _ rfl (by kernel_rfl) rfl (fun K hK => ?_); go_simp; refine (rin9_is An nn cn c.needs Hcv.out.len (Nat.le_trans Hcv.out.cap Hcv.out.max) d.id _ Hin.out _ (Hcv.out.read.below hSn)).mono ?_; rintro e w4 ⟨rfl, rfl⟩; go_simp
                have hSn := hSn; refine hK _ _ hSn ?_; clear hK; clear K; simp only [List.set_cons_zero, List.set_cons_succ]
                refine WH.take 13 _ ?_ rfl (by kernel_rfl) (fun _ _ _ h => h) rfl (by assumption) ?_ ?_; rotate_left; (focus (intro w hSw; (try dsimp only at hSw); (first | (go_simp; done) | (go_simp; with_reducible rfl)))); simp only [Act.put, List.setIfInBounds_toArray, List.set_cons_zero, List.set_cons_succ]
                refine WH.done (by kernel_rfl) ?_
                have HB := Lib.hid hSn
                clear hSn
                have Hu := Lib.hid (Hu.out.ext HB.out)
                have Hbw := Lib.hid (bt Hbw.out HB.out)
                have Hcv := Lib.hid (Hcv.out.below HB.out)
                have Hdv := Lib.hid (Hdv.out.below HB.out)
                have Q1 := Lib.hid ((HB.out.cell (block_lt_of_cell Q1.out)).trans Q1.out)
                have Q2 := Lib.hid ((HB.out.cell (block_lt_of_cell Q2.out)).trans Q2.out)
                have Q3 := Lib.hid ((HB.out.cell (block_lt_of_cell Q3.out)).trans Q3.out)
                have Q4 := Lib.hid ((HB.out.cell (block_lt_of_cell Q4.out)).trans Q4.out)
                have D0 := Lib.hid ((HB.out.cell (block_lt_of_cell D0.out)).trans D0.out)
                have D1 := Lib.hid ((HB.out.cell (block_lt_of_cell D1.out)).trans D1.out)
                have D2 := Lib.hid ((HB.out.cell (block_lt_of_cell D2.out)).trans D2.out)
                have D3 := Lib.hid ((HB.out.cell (block_lt_of_cell D3.out)).trans D3.out)
                clear HB
                generalize hgw : w3.drew = w9 at *
                clear hgw
                have HX := Lib.hid (Hoff.out (by rw [Hk.out, Hin.out, decide_eq_true HBL.out, Hm.out]; rfl))
                go_wp2_with fail
                go_roundw
                case rel => exact ⟨k + 1, by omega, by go_num, by rw [HX.out]; exact Hu.out, Hbw.out⟩
                case measure => simp [intOf]; omega)
              focus (
                have Hin := Lib.hid hin
                clear hin
                go_wp2_with fail
                refine WH.start (S := fun w' : World => Below w3.heap.size w3 w') (List.replicate 14 false) 14 rfl rfl (by kernel_rfl) (bdrew w3 1) (fun hSn => ?_)
                simp only [List.replicate]
                refine WH.take 0 _ ?_ rfl (by kernel_rfl) (fun _ _ _ h => h) rfl (by assumption) ?_ ?_; rotate_left; (focus (intro w hSw; (try dsimp only at hSw); (first | (go_simp; done) | (go_simp; with_reducible rfl)))); simp only [Act.put, List.setIfInBounds_toArray, List.set_cons_zero, List.set_cons_succ]
                refine WH.take 1 _ ?_ rfl (by kernel_rfl) (fun _ _ _ h => h) rfl (by assumption) ?_ ?_; rotate_left; (focus (intro w hSw; (try dsimp only at hSw); (first | (go_simp; done) | (go_simp; with_reducible rfl)))); simp only [Act.put, List.setIfInBounds_toArray, List.set_cons_zero, List.set_cons_succ]
                refine WH.take 2 _ ?_ rfl (by kernel_rfl) (fun _ _ _ h => h) rfl (by assumption) ?_ ?_; rotate_left; (focus (intro w hSw; (try dsimp only at hSw); (first | (go_simp; done) | (go_simp; with_reducible rfl)))); simp only [Act.put, List.setIfInBounds_toArray, List.set_cons_zero, List.set_cons_succ]
                refine WH.take 3 _ ?_ rfl (by kernel_rfl) (fun _ _ _ h => h) rfl (by assumption) ?_ ?_; rotate_left; (focus (intro w hSw; (try dsimp only at hSw); (first | (go_simp; done) | (go_simp; with_reducible rfl)))); simp only [Act.put, List.setIfInBounds_toArray, List.set_cons_zero, List.set_cons_succ]
                refine WH.take 4 _ ?_ rfl (by kernel_rfl) (fun _ _ _ h => h) rfl (by assumption) ?_ ?_; rotate_left; (focus (intro w hSw; (try dsimp only at hSw); (first | (go_simp; done) | (go_simp; with_reducible rfl)))); simp only [Act.put, List.setIfInBounds_toArray, List.set_cons_zero, List.set_cons_succ]
                refine WH.take 5 _ ?_ rfl (by kernel_rfl) (fun _ _ _ h => h) rfl (by assumption) ?_ ?_; rotate_left; (focus (intro w hSw; (try dsimp only at hSw); (first | (go_simp; done) | (go_simp; with_reducible rfl)))); simp only [Act.put, List.setIfInBounds_toArray, List.set_cons_zero, List.set_cons_succ]
                refine WH.take 6 _ _ rfl (by kernel_rfl) (fun _ _ _ h => h) rfl (by assumption) (fun w' hSw => exec_load_cell _ _ rfl (⟨(ad.add (p * 5)).block, (ad.add (p * 5)).off + 4, none⟩) rfl (.slice An nn cn) ((hSw.cell (block_lt_of_cell Q4.out)).trans Q4.out) _ Try.underlying28 rfl) ?_; simp only [Act.put, List.setIfInBounds_toArray, List.set_cons_zero, List.set_cons_succ]
                refine WH.take 7 _ ?_ rfl (by kernel_rfl) (fun _ _ _ h => h) rfl (by assumption) ?_ ?_; rotate_left; (focus (intro w hSw; (try dsimp only at hSw); (first | (go_simp; done) | (go_simp; with_reducible rfl)))); simp only [Act.put, List.setIfInBounds_toArray, List.set_cons_zero, List.set_cons_succ]
                refine WH.take 8 _ ?_ rfl (by kernel_rfl) (fun _ _ _ h => h) rfl (by assumption) ?_ ?_; rotate_left; (focus (intro w hSw; (try dsimp only at hSw); (first | (go_simp; done) | (go_simp; with_reducible rfl)))); simp only [Act.put, List.setIfInBounds_toArray, List.set_cons_zero, List.set_cons_succ]
                refine WH.take 9 _ ?_ rfl (by kernel_rfl) (fun _ _ _ h => h) rfl (by assumption) ?_ ?_; rotate_left; (focus (intro w hSw; (try dsimp only at hSw); (first | (go_simp; done) | (go_simp; with_reducible rfl)))); simp only [Act.put, List.setIfInBounds_toArray, List.set_cons_zero, List.set_cons_succ]
                refine WH.take 10 _ ?_ rfl (by kernel_rfl) (fun _ _ _ h => h) rfl (by assumption) ?_ ?_; rotate_left; (focus (intro w hSw; (try dsimp only at hSw); (first | (go_simp; done) | (go_simp; with_reducible rfl)))); simp only [Act.put, List.setIfInBounds_toArray, List.set_cons_zero, List.set_cons_succ]
                refine WH.take 11 _ _ rfl (by kernel_rfl) (fun _ _ _ h => h) rfl (by assumption) (fun w' hSw => exec_load_cell _ _ rfl (ad.add (k * 5)) rfl (.int .i64 d.id) ((hSw.cell (block_lt_of_cell D0.out)).trans D0.out) _ Try.underlying3 rfl) ?_; simp only [Act.put, List.setIfInBounds_toArray, List.set_cons_zero, List.set_cons_succ]
                refine WH.only 12 _ rfl (by kernel_rfl) rfl (fun K hK => ?_); go_simp; refine (rin9_is An nn cn c.needs Hcv.out.len (Nat.le_trans Hcv.out.cap Hcv.out.max) d.id _ Hin.out _ (Hcv.out.read.below hSn)).mono ?_; rintro e w4 ⟨rfl, rfl⟩; go_simp
                have hSn := hSn; refine hK _ _ hSn ?_; clear hK; clear K; simp only [List.set_cons_zero, List.set_cons_succ]
                refine WH.take 13 _ ?_ rfl (by kernel_rfl) (fun _ _ _ h => h) rfl (by assumption) ?_ ?_; rotate_left; (focus (intro w hSw; (try dsimp only at hSw); (first | (go_simp; done) | (go_simp; with_reducible rfl)))); simp only [Act.put, List.setIfInBounds_toArray, List.set_cons_zero, List.set_cons_succ]
                refine WH.done (by kernel_rfl) ?_
                have HB := Lib.hid hSn
                clear hSn
                have Hu := Lib.hid (Hu.out.ext HB.out)
                have Hbw := Lib.hid (bt Hbw.out HB.out)
                have Hcv := Lib.hid (Hcv.out.below HB.out)
                have Hdv := Lib.hid (Hdv.out.below HB.out)
                have Q1 := Lib.hid ((HB.out.cell (block_lt_of_cell Q1.out)).trans Q1.out)
                have Q2 := Lib.hid ((HB.out.cell (block_lt_of_cell Q2.out)).trans Q2.out)
                have Q3 := Lib.hid ((HB.out.cell (block_lt_of_cell Q3.out)).trans Q3.out)
                have Q4 := Lib.hid ((HB.out.cell (block_lt_of_cell Q4.out)).trans Q4.out)
                have D0 := Lib.hid ((HB.out.cell (block_lt_of_cell D0.out)).trans D0.out)
                have D1 := Lib.hid ((HB.out.cell (block_lt_of_cell D1.out)).trans D1.out)
                have D2 := Lib.hid ((HB.out.cell (block_lt_of_cell D2.out)).trans D2.out)
                have D3 := Lib.hid ((HB.out.cell (block_lt_of_cell D3.out)).trans D3.out)
                clear HB
                generalize hgw : w3.drew = w9 at *
                clear hgw
                have HX := Lib.hid (Hon.out (by rw [Hk.out, Hin.out, decide_eq_true HBL.out, Hm.out]; rfl))
                have c0 := D0.out
                go_wp2_with (at_builtin; refine wpList_append_one rfl _ _ _ _ rfl Try.underlying28 (.int .i64 0) 8 Try.infoInt rfl w.heap.size _ _ rfl Hu.out (.int .i64 d.id) rfl rfl Hbw.out.size hl1 hl2 ?_)
                apply Stop.go
                intro v' w6 Hv' Ha'
                have D6 := Lib.hid (Hbw.out.trans Ha'.out.below)
                go_wp2_with fail
                go_roundw
                case rel => exact ⟨k + 1, by omega, by go_num, by rw [HX.out, ← ivals_snoc]; exact Hv'.out, D6.out⟩
                case measure => simp [intOf]; omega))
          focus (
              have Hm := Lib.hid hm
              clear hm
              go_wp2_with fail
              refine WH.start (S := fun w' : World => Below wr.heap.size wr w') (List.replicate 25 false) 25 rfl rfl (by kernel_rfl) (bdrew wr 1) (fun hSn => ?_)
              simp only [List.replicate]
              refine WH.take 0 _ ?_ rfl (by kernel_rfl) (fun _ _ _ h => h) rfl (by assumption) ?_ ?_; rotate_left; (focus (intro w hSw; (try dsimp only at hSw); (first | (go_simp; done) | (go_simp; with_reducible rfl)))); simp only [Act.put, List.setIfInBounds_toArray, List.set_cons_zero, List.set_cons_succ]
              refine WH.take 1 _ ?_ rfl (by kernel_rfl) (fun _ _ _ h => h) rfl (by assumption) ?_ ?_; rotate_left; (focus (intro w hSw; (try dsimp only at hSw); (first | (go_simp; done) | (go_simp; with_reducible rfl)))); simp only [Act.put, List.setIfInBounds_toArray, List.set_cons_zero, List.set_cons_succ]
              refine WH.take 2 _ ?_ rfl (by kernel_rfl) (fun _ _ _ h => h) rfl (by assumption) ?_ ?_; rotate_left; (focus (intro w hSw; (try dsimp only at hSw); (first | (go_simp; done) | (go_simp; with_reducible rfl)))); simp only [Act.put, List.setIfInBounds_toArray, List.set_cons_zero, List.set_cons_succ]
              refine WH.take 3 _ ?_ rfl (by kernel_rfl) (fun _ _ _ h => h) rfl (by assumption) ?_ ?_; rotate_left; (focus (intro w hSw; (try dsimp only at hSw); (first | (go_simp; done) | (go_simp; with_reducible rfl)))); simp only [Act.put, List.setIfInBounds_toArray, List.set_cons_zero, List.set_cons_succ]
              refine WH.take 4 _ _ rfl (by kernel_rfl) (fun _ _ _ h => h) rfl (by assumption) (fun w' hSw => exec_load_cell _ _ rfl (⟨(ad.add (k * 5)).block, (ad.add (k * 5)).off + 1, none⟩) rfl (.int .i64 d.block) ((hSw.cell (block_lt_of_cell D1.out)).trans D1.out) _ Try.underlying3 rfl) ?_; simp only [Act.put, List.setIfInBounds_toArray, List.set_cons_zero, List.set_cons_succ]
              refine WH.take 5 _ ?_ rfl (by kernel_rfl) (fun _ _ _ h => h) rfl (by assumption) ?_ ?_; rotate_left; (focus (intro w hSw; (try dsimp only at hSw); (first | (go_simp; done) | (go_simp; with_reducible rfl)))); simp only [Act.put, List.setIfInBounds_toArray, List.set_cons_zero, List.set_cons_succ]
              refine WH.take 6 _ ?_ rfl (by kernel_rfl) (fun _ _ _ h => h) rfl (by assumption) ?_ ?_; rotate_left; (focus (intro w hSw; (try dsimp only at hSw); (first | (go_simp; done) | (go_simp; with_reducible rfl)))); simp only [Act.put, List.setIfInBounds_toArray, List.set_cons_zero, List.set_cons_succ]
              refine WH.take 7 _ ?_ rfl (by kernel_rfl) (fun _ _ _ h => h) rfl (by assumption) ?_ ?_; rotate_left; (focus (intro w hSw; (try dsimp only at hSw); (first | (go_simp; done) | (go_simp; with_reducible rfl)))); simp only [Act.put, List.setIfInBounds_toArray, List.set_cons_zero, List.set_cons_succ]
              refine WH.take 8 _ ?_ rfl (by kernel_rfl) (fun _ _ _ h => h) rfl (by assumption) ?_ ?_; rotate_left; (focus (intro w hSw; (try dsimp only at hSw); (first | (go_simp; done) | (go_simp; with_reducible rfl)))); simp only [Act.put, List.setIfInBounds_toArray, List.set_cons_zero, List.set_cons_succ]
              refine WH.take 9 _ _ rfl (by kernel_rfl) (fun _ _ _ h => h) rfl (by assumption) (fun w' hSw => exec_load_cell _ _ rfl (⟨(ad.add (p * 5)).block, (ad.add (p * 5)).off + 1, none⟩) rfl (.int .i64 c.block) ((hSw.cell (block_lt_of_cell Q1.out)).trans Q1.out) _ Try.underlying3 rfl) ?_; simp only [Act.put, List.setIfInBounds_toArray, List.set_cons_zero, List.set_cons_succ]
              refine WH.take 10 _ ?_ rfl (by kernel_rfl) (fun _ _ _ h => h) rfl (by assumption) ?_ ?_; rotate_left; (focus (intro w hSw; (try dsimp only at hSw); (first | (go_simp; done) | (go_simp; with_reducible rfl)))); simp only [Act.put, List.setIfInBounds_toArray, List.set_cons_zero, List.set_cons_succ]
              refine WH.take 11 _ ?_ rfl (by kernel_rfl) (fun _ _ _ h => h) rfl (by assumption) ?_ ?_; rotate_left; (focus (intro w hSw; (try dsimp only at hSw); (first | (go_simp; done) | (go_simp; with_reducible rfl)))); simp only [Act.put, List.setIfInBounds_toArray, List.set_cons_zero, List.set_cons_succ]
              refine WH.take 12 _ ?_ rfl (by kernel_rfl) (fun _ _ _ h => h) rfl (by assumption) ?_ ?_; rotate_left; (focus (intro w hSw; (try dsimp only at hSw); (first | (go_simp; done) | (go_simp; with_reducible rfl)))); simp only [Act.put, List.setIfInBounds_toArray, List.set_cons_zero, List.set_cons_succ]
              refine WH.take 13 _ ?_ rfl (by kernel_rfl) (fun _ _ _ h => h) rfl (by assumption) ?_ ?_; rotate_left; (focus (intro w hSw; (try dsimp only at hSw); (first | (go_simp; done) | (go_simp; with_reducible rfl)))); simp only [Act.put, List.setIfInBounds_toArray, List.set_cons_zero, List.set_cons_succ]
              refine WH.take 14 _ ?_ rfl (by kernel_rfl) (fun _ _ _ h => h) rfl (by assumption) ?_ ?_; rotate_left; (focus (intro w hSw; (try dsimp only at hSw); (first | (go_simp; done) | (go_simp; with_reducible rfl)))); simp only [Act.put, List.setIfInBounds_toArray, List.set_cons_zero, List.set_cons_succ]
              refine WH.take 15 _ ?_ rfl (by kernel_rfl) (fun _ _ _ h => h) rfl (by assumption) ?_ ?_; rotate_left; (focus (intro w hSw; (try dsimp only at hSw); (first | (go_simp; done) | (go_simp; with_reducible rfl)))); simp only [Act.put, List.setIfInBounds_toArray, List.set_cons_zero, List.set_cons_succ]
              refine WH.take 16 _ _ rfl (by kernel_rfl) (fun _ _ _ h => h) rfl (by assumption) (fun w' hSw => exec_load_pair _ _ rfl ⟨(ad.add (k * 5)).block, (ad.add (k * 5)).off + 2, none⟩ rfl (.int .i64 d.p.at_) (.slice Ae ne ce) ((hSw.cell (block_lt_of_cell D2.out)).trans D2.out) ((hSw.cell (block_lt_of_cell D3.out)).trans D3.out) _ Try.underlying38 Try.rpatchSize) ?_; simp only [Act.put, List.setIfInBounds_toArray, List.set_cons_zero, List.set_cons_succ]
              refine WH.take 17 _ ?_ rfl (by kernel_rfl) (fun _ _ _ h => h) rfl (by assumption) ?_ ?_; rotate_left; (focus (intro w hSw; (try dsimp only at hSw); (first | (go_simp; done) | (go_simp; with_reducible rfl)))); simp only [Act.put, List.setIfInBounds_toArray, List.set_cons_zero, List.set_cons_succ]
              refine WH.take 18 _ ?_ rfl (by kernel_rfl) (fun _ _ _ h => h) rfl (by assumption) ?_ ?_; rotate_left; (focus (intro w hSw; (try dsimp only at hSw); (first | (go_simp; done) | (go_simp; with_reducible rfl)))); simp only [Act.put, List.setIfInBounds_toArray, List.set_cons_zero, List.set_cons_succ]
              refine WH.take 19 _ ?_ rfl (by kernel_rfl) (fun _ _ _ h => h) rfl (by assumption) ?_ ?_; rotate_left; (focus (intro w hSw; (try dsimp only at hSw); (first | (go_simp; done) | (go_simp; with_reducible rfl)))); simp only [Act.put, List.setIfInBounds_toArray, List.set_cons_zero, List.set_cons_succ]
              refine WH.take 20 _ ?_ rfl (by kernel_rfl) (fun _ _ _ h => h) rfl (by assumption) ?_ ?_; rotate_left; (focus (intro w hSw; (try dsimp only at hSw); (first | (go_simp; done) | (go_simp; with_reducible rfl)))); simp only [Act.put, List.setIfInBounds_toArray, List.set_cons_zero, List.set_cons_succ]
              refine WH.take 21 _ _ rfl (by kernel_rfl) (fun _ _ _ h => h) rfl (by assumption) (fun w' hSw => exec_load_pair _ _ rfl ⟨(ad.add (p * 5)).block, (ad.add (p * 5)).off + 2, none⟩ rfl (.int .i64 c.p.at_) (.slice Ad nd cd) ((hSw.cell (block_lt_of_cell Q2.out)).trans Q2.out) ((hSw.cell (block_lt_of_cell Q3.out)).trans Q3.out) _ Try.underlying38 Try.rpatchSize) ?_; simp only [Act.put, List.setIfInBounds_toArray, List.set_cons_zero, List.set_cons_succ]
              refine WH.only 22 _ rfl (by kernel_rfl) rfl (fun K hK => ?_); go_simp; refine (rmeet_any d.p Ae ne ce c.p Ad nd cd _ (Hdv.out.p.below hSn) (Hcv.out.p.below hSn)).mono ?_; rintro e w3 ⟨rfl, hb3⟩; go_simp
              rw [Hm.out]
              have hSn := bt hSn hb3; refine hK _ _ hSn ?_; clear hK; clear K; simp only [List.set_cons_zero, List.set_cons_succ]
              refine WH.take 23 _ ?_ rfl (by kernel_rfl) (fun _ _ _ h => h) rfl (by assumption) ?_ ?_; rotate_left; (focus (intro w hSw; (try dsimp only at hSw); (first | (go_simp; done) | (go_simp; with_reducible rfl)))); simp only [Act.put, List.setIfInBounds_toArray, List.set_cons_zero, List.set_cons_succ]
              refine WH.take 24 _ ?_ rfl (by kernel_rfl) (fun _ _ _ h => h) rfl (by assumption) ?_ ?_; rotate_left; (focus (intro w hSw; (try dsimp only at hSw); (first | (go_simp; done) | (go_simp; with_reducible rfl)))); simp only [Act.put, List.setIfInBounds_toArray, List.set_cons_zero, List.set_cons_succ]
              refine WH.done (by kernel_rfl) ?_
              have HB := Lib.hid hSn
              clear hSn
              have Hu := Lib.hid (Hu.out.ext HB.out)
              have Hbw := Lib.hid (bt Hbw.out HB.out)
              have Hcv := Lib.hid (Hcv.out.below HB.out)
              have Hdv := Lib.hid (Hdv.out.below HB.out)
              have Q1 := Lib.hid ((HB.out.cell (block_lt_of_cell Q1.out)).trans Q1.out)
              have Q2 := Lib.hid ((HB.out.cell (block_lt_of_cell Q2.out)).trans Q2.out)
              have Q3 := Lib.hid ((HB.out.cell (block_lt_of_cell Q3.out)).trans Q3.out)
              have Q4 := Lib.hid ((HB.out.cell (block_lt_of_cell Q4.out)).trans Q4.out)
              have D0 := Lib.hid ((HB.out.cell (block_lt_of_cell D0.out)).trans D0.out)
              have D1 := Lib.hid ((HB.out.cell (block_lt_of_cell D1.out)).trans D1.out)
              have D2 := Lib.hid ((HB.out.cell (block_lt_of_cell D2.out)).trans D2.out)
              have D3 := Lib.hid ((HB.out.cell (block_lt_of_cell D3.out)).trans D3.out)
              clear HB
              go_wp2_with fail
              refine WH.start (S := fun w' : World => Below w3.heap.size w3 w') (List.replicate 14 false) 14 rfl rfl (by kernel_rfl) (bdrew w3 1) (fun hSn => ?_)
              simp only [List.replicate]
              refine WH.take 0 _ ?_ rfl (by kernel_rfl) (fun _ _ _ h => h) rfl (by assumption) ?_ ?_; rotate_left; (focus (intro w hSw; (try dsimp only at hSw); (first | (go_simp; done) | (go_simp; with_reducible rfl)))); simp only [Act.put, List.setIfInBounds_toArray, List.set_cons_zero, List.set_cons_succ]
              refine WH.take 1 _ ?_ rfl (by kernel_rfl) (fun _ _ _ h => h) rfl (by assumption) ?_ ?_; rotate_left; (focus (intro w hSw; (try dsimp only at hSw); (first | (go_simp; done) | (go_simp; with_reducible rfl)))); simp only [Act.put, List.setIfInBounds_toArray, List.set_cons_zero, List.set_cons_succ]
              refine WH.skip 2 _ rfl (by kernel_rfl) (fun _ _ _ h => h) rfl (by assumption) ?_; simp only [Act.put, List.setIfInBounds_toArray, List.set_cons_zero, List.set_cons_succ]
              refine WH.skip 3 _ rfl (by kernel_rfl) (fun _ _ _ h => h) rfl (by assumption) ?_; simp only [Act.put, List.setIfInBounds_toArray, List.set_cons_zero, List.set_cons_succ]
              refine WH.skip 4 _ rfl (by kernel_rfl) (fun _ _ _ h => h) rfl (by assumption) ?_; simp only [Act.put, List.setIfInBounds_toArray, List.set_cons_zero, List.set_cons_succ]
              refine WH.skip 5 _ rfl (by kernel_rfl) (fun _ _ _ h => h) rfl (by assumption) ?_; simp only [Act.put, List.setIfInBounds_toArray, List.set_cons_zero, List.set_cons_succ]
              refine WH.skip 6 _ rfl (by kernel_rfl) (fun _ _ _ h => h) rfl (by assumption) ?_; simp only [Act.put, List.setIfInBounds_toArray, List.set_cons_zero, List.set_cons_succ]
              refine WH.skip 7 _ rfl (by kernel_rfl) (fun _ _ _ h => h) rfl (by assumption) ?_; simp only [Act.put, List.setIfInBounds_toArray, List.set_cons_zero, List.set_cons_succ]
              refine WH.skip 8 _ rfl (by kernel_rfl) (fun _ _ _ h => h) rfl (by assumption) ?_; simp only [Act.put, List.setIfInBounds_toArray, List.set_cons_zero, List.set_cons_succ]
              refine WH.skip 9 _ rfl (by kernel_rfl) (fun _ _ _ h => h) rfl (by assumption) ?_; simp only [Act.put, List.setIfInBounds_toArray, List.set_cons_zero, List.set_cons_succ]
              refine WH.skip 10 _ rfl (by kernel_rfl) (fun _ _ _ h => h) rfl (by assumption) ?_; simp only [Act.put, List.setIfInBounds_toArray, List.set_cons_zero, List.set_cons_succ]
              refine WH.skip 11 _ rfl (by kernel_rfl) (fun _ _ _ h => h) rfl (by assumption) ?_; simp only [Act.put, List.setIfInBounds_toArray, List.set_cons_zero, List.set_cons_succ]
              refine WH.onlySkip 12 _ rfl (by kernel_rfl) rfl (by assumption) ?_; simp only [Act.put, List.setIfInBounds_toArray, List.set_cons_zero, List.set_cons_succ]
              refine WH.take 13 _ ?_ rfl (by kernel_rfl) (fun _ _ _ h => h) rfl (by assumption) ?_ ?_; rotate_left; (focus (intro w hSw; (try dsimp only at hSw); (first | (go_simp; done) | (go_simp; with_reducible rfl)))); simp only [Act.put, List.setIfInBounds_toArray, List.set_cons_zero, List.set_cons_succ]
              refine WH.done (by kernel_rfl) ?_
              have HB := Lib.hid hSn
              clear hSn
              have Hu := Lib.hid (Hu.out.ext HB.out)
              have Hbw := Lib.hid (bt Hbw.out HB.out)
              have Hcv := Lib.hid (Hcv.out.below HB.out)
              have Hdv := Lib.hid (Hdv.out.below HB.out)
              have Q1 := Lib.hid ((HB.out.cell (block_lt_of_cell Q1.out)).trans Q1.out)
              have Q2 := Lib.hid ((HB.out.cell (block_lt_of_cell Q2.out)).trans Q2.out)
              have Q3 := Lib.hid ((HB.out.cell (block_lt_of_cell Q3.out)).trans Q3.out)
              have Q4 := Lib.hid ((HB.out.cell (block_lt_of_cell Q4.out)).trans Q4.out)
              have D0 := Lib.hid ((HB.out.cell (block_lt_of_cell D0.out)).trans D0.out)
              have D1 := Lib.hid ((HB.out.cell (block_lt_of_cell D1.out)).trans D1.out)
              have D2 := Lib.hid ((HB.out.cell (block_lt_of_cell D2.out)).trans D2.out)
              have D3 := Lib.hid ((HB.out.cell (block_lt_of_cell D3.out)).trans D3.out)
              clear HB
              generalize hgw : w3.drew = w9 at *
              clear hgw
              have HX := Lib.hid (Hon.out (by rw [Hk.out, decide_eq_true HBL.out, Hm.out]; rfl))
              have c0 := D0.out
              go_wp2_with (at_builtin; refine wpList_append_one rfl _ _ _ _ rfl Try.underlying28 (.int .i64 0) 8 Try.infoInt rfl w.heap.size _ _ rfl Hu.out (.int .i64 d.id) rfl rfl Hbw.out.size hl1 hl2 ?_)
              apply Stop.go
              intro v' w6 Hv' Ha'
              have D6 := Lib.hid (Hbw.out.trans Ha'.out.below)
              go_wp2_with fail
              go_roundw
              case rel => exact ⟨k + 1, by omega, by go_num, by rw [HX.out, ← ivals_snoc]; exact Hv'.out, D6.out⟩
              case measure => simp [intOf]; omega)
        · have e1 : (d.block == c.block) = false := by simpa using hbl
          have HBL := Lib.hid hbl
          clear hbl
          focus (
            go_wp2_with fail
            refine WH.start (S := fun w' : World => Below wr.heap.size wr w') (List.replicate 25 false) 25 rfl rfl (by kernel_rfl) (bdrew wr 1) (fun hSn => ?_)
            simp only [List.replicate]
            refine WH.take 0 _ ?_ rfl (by kernel_rfl) (fun _ _ _ h => h) rfl (by assumption) ?_ ?_; rotate_left; (focus (intro w hSw; (try dsimp only at hSw); (first | (go_simp; done) | (go_simp; with_reducible rfl)))); simp only [Act.put, List.setIfInBounds_toArray, List.set_cons_zero, List.set_cons_succ]
            refine WH.take 1 _ ?_ rfl (by kernel_rfl) (fun _ _ _ h => h) rfl (by assumption) ?_ ?_; rotate_left; (focus (intro w hSw; (try dsimp only at hSw); (first | (go_simp; done) | (go_simp; with_reducible rfl)))); simp only [Act.put, List.setIfInBounds_toArray, List.set_cons_zero, List.set_cons_succ]
            refine WH.take 2 _ ?_ rfl (by kernel_rfl) (fun _ _ _ h => h) rfl (by assumption) ?_ ?_; rotate_left; (focus (intro w hSw; (try dsimp only at hSw); (first | (go_simp; done) | (go_simp; with_reducible rfl)))); simp only [Act.put, List.setIfInBounds_toArray, List.set_cons_zero, List.set_cons_succ]
            refine WH.take 3 _ ?_ rfl (by kernel_rfl) (fun _ _ _ h => h) rfl (by assumption) ?_ ?_; rotate_left; (focus (intro w hSw; (try dsimp only at hSw); (first | (go_simp; done) | (go_simp; with_reducible rfl)))); simp only [Act.put, List.setIfInBounds_toArray, List.set_cons_zero, List.set_cons_succ]
            refine WH.take 4 _ _ rfl (by kernel_rfl) (fun _ _ _ h => h) rfl (by assumption) (fun w' hSw => exec_load_cell _ _ rfl (⟨(ad.add (k * 5)).block, (ad.add (k * 5)).off + 1, none⟩) rfl (.int .i64 d.block) ((hSw.cell (block_lt_of_cell D1.out)).trans D1.out) _ Try.underlying3 rfl) ?_; simp only [Act.put, List.setIfInBounds_toArray, List.set_cons_zero, List.set_cons_succ]
            refine WH.take 5 _ ?_ rfl (by kernel_rfl) (fun _ _ _ h => h) rfl (by assumption) ?_ ?_; rotate_left; (focus (intro w hSw; (try dsimp only at hSw); (first | (go_simp; done) | (go_simp; with_reducible rfl)))); simp only [Act.put, List.setIfInBounds_toArray, List.set_cons_zero, List.set_cons_succ]
            refine WH.take 6 _ ?_ rfl (by kernel_rfl) (fun _ _ _ h => h) rfl (by assumption) ?_ ?_; rotate_left; (focus (intro w hSw; (try dsimp only at hSw); (first | (go_simp; done) | (go_simp; with_reducible rfl)))); simp only [Act.put, List.setIfInBounds_toArray, List.set_cons_zero, List.set_cons_succ]
            refine WH.take 7 _ ?_ rfl (by kernel_rfl) (fun _ _ _ h => h) rfl (by assumption) ?_ ?_; rotate_left; (focus (intro w hSw; (try dsimp only at hSw); (first | (go_simp; done) | (go_simp; with_reducible rfl)))); simp only [Act.put, List.setIfInBounds_toArray, List.set_cons_zero, List.set_cons_succ]
            refine WH.take 8 _ ?_ rfl (by kernel_rfl) (fun _ _ _ h => h) rfl (by assumption) ?_ ?_; rotate_left; (focus (intro w hSw; (try dsimp only at hSw); (first | (go_simp; done) | (go_simp; with_reducible rfl)))); simp only [Act.put, List.setIfInBounds_toArray, List.set_cons_zero, List.set_cons_succ]
            refine WH.take 9 _ _ rfl (by kernel_rfl) (fun _ _ _ h => h) rfl (by assumption) (fun w' hSw => exec_load_cell _ _ rfl (⟨(ad.add (p * 5)).block, (ad.add (p * 5)).off + 1, none⟩) rfl (.int .i64 c.block) ((hSw.cell (block_lt_of_cell Q1.out)).trans Q1.out) _ Try.underlying3 rfl) ?_; simp only [Act.put, List.setIfInBounds_toArray, List.set_cons_zero, List.set_cons_succ]
            refine WH.take 10 _ ?_ rfl (by kernel_rfl) (fun _ _ _ h => h) rfl (by assumption) ?_ ?_; rotate_left; (focus (intro w hSw; (try dsimp only at hSw); (first | (go_simp; done) | (go_simp; with_reducible rfl)))); simp only [Act.put, List.setIfInBounds_toArray, List.set_cons_zero, List.set_cons_succ]
            refine WH.take 11 _ ?_ rfl (by kernel_rfl) (fun _ _ _ h => h) rfl (by assumption) ?_ ?_; rotate_left; (focus (intro w hSw; (try dsimp only at hSw); (first | (go_simp; done) | (go_simp; with_reducible rfl)))); simp only [Act.put, List.setIfInBounds_toArray, List.set_cons_zero, List.set_cons_succ]
            refine WH.skip 12 _ rfl (by kernel_rfl) (fun _ _ _ h => h) rfl (by assumption) ?_; simp only [Act.put, List.setIfInBounds_toArray, List.set_cons_zero, List.set_cons_succ]
            refine WH.skip 13 _ rfl (by kernel_rfl) (fun _ _ _ h => h) rfl (by assumption) ?_; simp only [Act.put, List.setIfInBounds_toArray, List.set_cons_zero, List.set_cons_succ]
            refine WH.skip 14 _ rfl (by kernel_rfl) (fun _ _ _ h => h) rfl (by assumption) ?_; simp only [Act.put, List.setIfInBounds_toArray, List.set_cons_zero, List.set_cons_succ]
            refine WH.skip 15 _ rfl (by kernel_rfl) (fun _ _ _ h => h) rfl (by assumption) ?_; simp only [Act.put, List.setIfInBounds_toArray, List.set_cons_zero, List.set_cons_succ]
            refine WH.skip 16 _ rfl (by kernel_rfl) (fun _ _ _ h => h) rfl (by assumption) ?_; simp only [Act.put, List.setIfInBounds_toArray, List.set_cons_zero, List.set_cons_succ]
            refine WH.skip 17 _ rfl (by kernel_rfl) (fun _ _ _ h => h) rfl (by assumption) ?_; simp only [Act.put, List.setIfInBounds_toArray, List.set_cons_zero, List.set_cons_succ]
            refine WH.skip 18 _ rfl (by kernel_rfl) (fun _ _ _ h => h) rfl (by assumption) ?_; simp only [Act.put, List.setIfInBounds_toArray, List.set_cons_zero, List.set_cons_succ]
            refine WH.skip 19 _ rfl (by kernel_rfl) (fun _ _ _ h => h) rfl (by assumption) ?_; simp only [Act.put, List.setIfInBounds_toArray, List.set_cons_zero, List.set_cons_succ]
            refine WH.skip 20 _ rfl (by kernel_rfl) (fun _ _ _ h => h) rfl (by assumption) ?_; simp only [Act.put, List.setIfInBounds_toArray, List.set_cons_zero, List.set_cons_succ]
            refine WH.skip 21 _ rfl (by kernel_rfl) (fun _ _ _ h => h) rfl (by assumption) ?_; simp only [Act.put, List.setIfInBounds_toArray, List.set_cons_zero, List.set_cons_succ]
            refine WH.onlySkip 22 _ rfl (by kernel_rfl) rfl (by assumption) ?_; simp only [Act.put, List.setIfInBounds_toArray, List.set_cons_zero, List.set_cons_succ]
            refine WH.take 23 _ ?_ rfl (by kernel_rfl) (fun _ _ _ h => h) rfl (by assumption) ?_ ?_; rotate_left; (focus (intro w hSw; (try dsimp only at hSw); (first | (go_simp; done) | (go_simp; with_reducible rfl)))); simp only [Act.put, List.setIfInBounds_toArray, List.set_cons_zero, List.set_cons_succ]
            refine WH.take 24 _ ?_ rfl (by kernel_rfl) (fun _ _ _ h => h) rfl (by assumption) ?_ ?_; rotate_left; (focus (intro w hSw; (try dsimp only at hSw); (first | (go_simp; done) | (go_simp; with_reducible rfl)))); simp only [Act.put, List.setIfInBounds_toArray, List.set_cons_zero, List.set_cons_succ]
            refine WH.done (by kernel_rfl) ?_
            have HB := Lib.hid hSn
            clear hSn
            have Hu := Lib.hid (Hu.out.ext HB.out)
            have Hbw := Lib.hid (bt Hbw.out HB.out)
            have Hcv := Lib.hid (Hcv.out.below HB.out)
            have Hdv := Lib.hid (Hdv.out.below HB.out)
            have Q1 := Lib.hid ((HB.out.cell (block_lt_of_cell Q1.out)).trans Q1.out)
            have Q2 := Lib.hid ((HB.out.cell (block_lt_of_cell Q2.out)).trans Q2.out)
            have Q3 := Lib.hid ((HB.out.cell (block_lt_of_cell Q3.out)).trans Q3.out)
            have Q4 := Lib.hid ((HB.out.cell (block_lt_of_cell Q4.out)).trans Q4.out)
            have D0 := Lib.hid ((HB.out.cell (block_lt_of_cell D0.out)).trans D0.out)
            have D1 := Lib.hid ((HB.out.cell (block_lt_of_cell D1.out)).trans D1.out)
            have D2 := Lib.hid ((HB.out.cell (block_lt_of_cell D2.out)).trans D2.out)
            have D3 := Lib.hid ((HB.out.cell (block_lt_of_cell D3.out)).trans D3.out)
            clear HB
            generalize hgw : wr.drew = w8 at *
            clear hgw
            cases hin : c.needs.contains d.id
            focus (
              have Hin := Lib.hid hin
              clear hin
              go_wp2_with fail
              refine WH.start (S := fun w' : World => Below w8.heap.size w8 w') (List.replicate 14 false) 14 rfl rfl (by kernel_rfl) (bdrew w8 1) (fun hSn => ?_)
              simp only [List.replicate]
              refine WH.take 0 _ ?_ rfl (by kernel_rfl) (fun _ _ _ h => h) rfl (by assumption) ?_ ?_; rotate_left; (focus (intro w hSw; (try dsimp only at hSw); (first | (go_simp; done) | (go_simp; with_reducible rfl)))); simp only [Act.put, List.setIfInBounds_toArray, List.set_cons_zero, List.set_cons_succ]
              refine WH.take 1 _ ?_ rfl (by kernel_rfl) (fun _ _ _ h => h) rfl (by assumption) ?_ ?_; rotate_left; (focus (intro w hSw; (try dsimp only at hSw); (first | (go_simp; done) | (go_simp; with_reducible rfl)))); simp only [Act.put, List.setIfInBounds_toArray, List.set_cons_zero, List.set_cons_succ]
              refine WH.take 2 _ ?_ rfl (by kernel_rfl) (fun _ _ _ h => h) rfl (by assumption) ?_ ?_; rotate_left; (focus (intro w hSw; (try dsimp only at hSw); (first | (go_simp; done) | (go_simp; with_reducible rfl)))); simp only [Act.put, List.setIfInBounds_toArray, List.set_cons_zero, List.set_cons_succ]
              refine WH.take 3 _ ?_ rfl (by kernel_rfl) (fun _ _ _ h => h) rfl (by assumption) ?_ ?_; rotate_left; (focus (intro w hSw; (try dsimp only at hSw); (first | (go_simp; done) | (go_simp; with_reducible rfl)))); simp only [Act.put, List.setIfInBounds_toArray, List.set_cons_zero, List.set_cons_succ]
              refine WH.take 4 _ ?_ rfl (by kernel_rfl) (fun _ _ _ h => h) rfl (by assumption) ?_ ?_; rotate_left; (focus (intro w hSw; (try dsimp only at hSw); (first | (go_simp; done) | (go_simp; with_reducible rfl)))); simp only [Act.put, List.setIfInBounds_toArray, List.set_cons_zero, List.set_cons_succ]
              refine WH.take 5 _ ?_ rfl (by kernel_rfl) (fun _ _ _ h => h) rfl (by assumption) ?_ ?_; rotate_left; (focus (intro w hSw; (try dsimp only at hSw); (first | (go_simp; done) | (go_simp; with_reducible rfl)))); simp only [Act.put, List.setIfInBounds_toArray, List.set_cons_zero, List.set_cons_succ]
              refine WH.take 6 _ _ rfl (by kernel_rfl) (fun _ _ _ h => h) rfl (by assumption) (fun w' hSw => exec_load_cell _ _ rfl (⟨(ad.add (p * 5)).block, (ad.add (p * 5)).off + 4, none⟩) rfl (.slice An nn cn) ((hSw.cell (block_lt_of_cell Q4.out)).trans Q4.out) _ Try.underlying28 rfl) ?_; simp only [Act.put, List.setIfInBounds_toArray, List.set_cons_zero, List.set_cons_succ]
              refine WH.take 7 _ ?_ rfl (by kernel_rfl) (fun _ _ _ h => h) rfl (by assumption) ?_ ?_; rotate_left; (focus (intro w hSw; (try dsimp only at hSw); (first | (go_simp; done) | (go_simp; with_reducible rfl)))); simp only [Act.put, List.setIfInBounds_toArray, List.set_cons_zero, List.set_cons_succ]
              refine WH.take 8 _ ?_ rfl (by kernel_rfl) (fun _ _ _ h => h) rfl (by assumption) ?_ ?_; rotate_left; (focus (intro w hSw; (try dsimp only at hSw); (first | (go_simp; done) | (go_simp; with_reducible rfl)))); simp only [Act.put, List.setIfInBounds_toArray, List.set_cons_zero, List.set_cons_succ]
              refine WH.take 9 _ ?_ rfl (by kernel_rfl) (fun _ _ _ h => h) rfl (by assumption) ?_ ?_; rotate_left; (focus (intro w hSw; (try dsimp only at hSw); (first | (go_simp; done) | (go_simp; with_reducible rfl)))); simp only [Act.put, List.setIfInBounds_toArray, List.set_cons_zero, List.set_cons_succ]
              refine WH.take 10 _ ?_ rfl (by kernel_rfl) (fun _ _ _ h => h) rfl (by assumption) ?_ ?_; rotate_left; (focus (intro w hSw; (try dsimp only at hSw); (first | (go_simp; done) | (go_simp; with_reducible rfl)))); simp only [Act.put, List.setIfInBounds_toArray, List.set_cons_zero, List.set_cons_succ]
              refine WH.take 11 _ _ rfl (by kernel_rfl) (fun _ _ _ h => h) rfl (by assumption) (fun w' hSw => exec_load_cell _ _ rfl (ad.add (k * 5)) rfl (.int .i64 d.id) ((hSw.cell (block_lt_of_cell D0.out)).trans D0.out) _ Try.underlying3 rfl) ?_; simp only [Act.put, List.setIfInBounds_toArray, List.set_cons_zero, List.set_cons_succ]
              refine WH.only 12 _ rfl (by kernel_rfl) rfl (fun K hK => ?_); go_simp; refine (rin9_is An nn cn c.needs Hcv.out.len (Nat.le_trans Hcv.out.cap Hcv.out.max) d.id _ Hin.out _ (Hcv.out.read.below hSn)).mono ?_; rintro e w4 ⟨rfl, rfl⟩; go_simp
              have hSn := hSn; refine hK _ _ hSn ?_; clear hK; clear K; simp only [List.set_cons_zero, List.set_cons_succ]
              refine WH.take 13 _ ?_ rfl (by kernel_rfl) (fun _ _ _ h => h) rfl (by assumption) ?_ ?_; rotate_left; (focus (intro w hSw; (try dsimp only at hSw); (first | (go_simp; done) | (go_simp; with_reducible rfl)))); simp only [Act.put, List.setIfInBounds_toArray, List.set_cons_zero, List.set_cons_succ]
              refine WH.done (by kernel_rfl) ?_
              have HB := Lib.hid hSn
              clear hSn
              have Hu := Lib.hid (Hu.out.ext HB.out)
              have Hbw := Lib.hid (bt Hbw.out HB.out)
              have Hcv := Lib.hid (Hcv.out.below HB.out)
              have Hdv := Lib.hid (Hdv.out.below HB.out)
              have Q1 := Lib.hid ((HB.out.cell (block_lt_of_cell Q1.out)).trans Q1.out)
              have Q2 := Lib.hid ((HB.out.cell (block_lt_of_cell Q2.out)).trans Q2.out)
              have Q3 := Lib.hid ((HB.out.cell (block_lt_of_cell Q3.out)).trans Q3.out)
              have Q4 := Lib.hid ((HB.out.cell (block_lt_of_cell Q4.out)).trans Q4.out)
              have D0 := Lib.hid ((HB.out.cell (block_lt_of_cell D0.out)).trans D0.out)
              have D1 := Lib.hid ((HB.out.cell (block_lt_of_cell D1.out)).trans D1.out)
              have D2 := Lib.hid ((HB.out.cell (block_lt_of_cell D2.out)).trans D2.out)
              have D3 := Lib.hid ((HB.out.cell (block_lt_of_cell D3.out)).trans D3.out)
              clear HB
              generalize hgw : w8.drew = w9 at *
              clear hgw
              have HX := Lib.hid (Hoff.out (by rw [Hk.out, Hin.out, decide_eq_false HBL.out]; rfl))
              go_wp2_with fail
              go_roundw
              case rel => exact ⟨k + 1, by omega, by go_num, by rw [HX.out]; exact Hu.out, Hbw.out⟩
              case measure => simp [intOf]; omega)
            focus (
              have Hin := Lib.hid hin
              clear hin
              go_wp2_with fail
              refine WH.start (S := fun w' : World => Below w8.heap.size w8 w') (List.replicate 14 false) 14 rfl rfl (by kernel_rfl) (bdrew w8 1) (fun hSn => ?_)
              simp only [List.replicate]
              refine WH.take 0 _ ?_ rfl (by kernel_rfl) (fun _ _ _ h => h) rfl (by assumption) ?_ ?_; rotate_left; (focus (intro w hSw; (try dsimp only at hSw); (first | (go_simp; done) | (go_simp; with_reducible rfl)))); simp only [Act.put, List.setIfInBounds_toArray, List.set_cons_zero, List.set_cons_succ]
              refine WH.take 1 _ ?_ rfl (by kernel_rfl) (fun _ _ _ h => h) rfl (by assumption) ?_ ?_; rotate_left; (focus (intro w hSw; (try dsimp only at hSw); (first | (go_simp; done) | (go_simp; with_reducible rfl)))); simp only [Act.put, List.setIfInBounds_toArray, List.set_cons_zero, List.set_cons_succ]
              refine WH.take 2 _ ?_ rfl (by kernel_rfl) (fun _ _ _ h => h) rfl (by assumption) ?_ ?_; rotate_left; (focus (intro w hSw; (try dsimp only at hSw); (first | (go_simp; done) | (go_simp; with_reducible rfl)))); simp only [Act.put, List.setIfInBounds_toArray, List.set_cons_zero, List.set_cons_succ]
              refine WH.take 3 _ ?_ rfl (by kernel_rfl) (fun _ _ _ h => h) rfl (by assumption) ?_ ?_; rotate_left; (focus (intro w hSw; (try dsimp only at hSw); (first | (go_simp; done) | (go_simp; with_reducible rfl)))); simp only [Act.put, List.setIfInBounds_toArray, List.set_cons_zero, List.set_cons_succ]
              refine WH.take 4 _ ?_ rfl (by kernel_rfl) (fun _ _ _ h => h) rfl (by assumption) ?_ ?_; rotate_left; (focus (intro w hSw; (try dsimp only at hSw); (first | (go_simp; done) | (go_simp; with_reducible rfl)))); simp only [Act.put, List.setIfInBounds_toArray, List.set_cons_zero, List.set_cons_succ]
              refine WH.take 5 _ ?_ rfl (by kernel_rfl) (fun _ _ _ h => h) rfl (by assumption) ?_ ?_; rotate_left; (focus (intro w hSw; (try dsimp only at hSw); (first | (go_simp; done) | (go_simp; with_reducible rfl)))); simp only [Act.put, List.setIfInBounds_toArray, List.set_cons_zero, List.set_cons_succ]
              refine WH.take 6 _ _ rfl (by kernel_rfl) (fun _ _ _ h => h) rfl (by assumption) (fun w' hSw => exec_load_cell _ _ rfl (⟨(ad.add (p * 5)).block, (ad.add (p * 5)).off + 4, none⟩) rfl (.slice An nn cn) ((hSw.cell (block_lt_of_cell Q4.out)).trans Q4.out) _ Try.underlying28 rfl) ?_; simp only [Act.put, List.setIfInBounds_toArray, List.set_cons_zero, List.set_cons_succ]
              refine WH.take 7 _ ?_ rfl (by kernel_rfl) (fun _ _ _ h => h) rfl (by assumption) ?_ ?_; rotate_left; (focus (intro w hSw; (try dsimp only at hSw); (first | (go_simp; done) | (go_simp; with_reducible rfl)))); simp only [Act.put, List.setIfInBounds_toArray, List.set_cons_zero, List.set_cons_succ]
              refine WH.take 8 _ ?_ rfl (by kernel_rfl) (fun _ _ _ h => h) rfl (by assumption) ?_ ?_; rotate_left; (focus (intro w hSw; (try dsimp only at hSw); (first | (go_simp; done) | (go_simp; with_reducible rfl)))); simp only [Act.put, List.setIfInBounds_toArray, List.set_cons_zero, List.set_cons_succ]
              refine WH.take 9 _ ?_ rfl (by kernel_rfl) (fun _ _ _ h => h) rfl (by assumption) ?_ ?_; rotate_left; (focus (intro w hSw; (try dsimp only at hSw); (first | (go_simp; done) | (go_simp; with_reducible rfl)))); simp only [Act.put, List.setIfInBounds_toArray, List.set_cons_zero, List.set_cons_succ]
              refine WH.take 10 _ ?_ rfl (by kernel_rfl) (fun _ _ _ h => h) rfl (by assumption) ?_ ?_; rotate_left; (focus (intro w hSw; (try dsimp only at hSw); (first | (go_simp; done) | (go_simp; with_reducible rfl)))); simp only [Act.put, List.setIfInBounds_toArray, List.set_cons_zero, List.set_cons_succ]
              refine WH.take 11 _ _ rfl (by kernel_rfl) (fun _ _ _ h => h) rfl (by assumption) (fun w' hSw => exec_load_cell _ _ rfl (ad.add (k * 5)) rfl (.int .i64 d.id) ((hSw.cell (block_lt_of_cell D0.out)).trans D0.out) _ Try.underlying3 rfl) ?_; simp only [Act.put, List.setIfInBounds_toArray, List.set_cons_zero, List.set_cons_succ]
              refine WH.only 12 _ rfl (by kernel_rfl) rfl (fun K hK => ?_); go_simp; refine (rin9_is An nn cn c.needs Hcv.out.len (Nat.le_trans Hcv.out.cap Hcv.out.max) d.id _ Hin.out _ (Hcv.out.read.below hSn)).mono ?_; rintro e w4 ⟨rfl, rfl⟩; go_simp
              have hSn := hSn; refine hK _ _ hSn ?_; clear hK; clear K; simp only [List.set_cons_zero, List.set_cons_succ]
              refine WH.take 13 _ ?_ rfl (by kernel_rfl) (fun _ _ _ h => h) rfl (by assumption) ?_ ?_; rotate_left; (focus (intro w hSw; (try dsimp only at hSw); (first | (go_simp; done) | (go_simp; with_reducible rfl)))); simp only [Act.put, List.setIfInBounds_toArray, List.set_cons_zero, List.set_cons_succ]
              refine WH.done (by kernel_rfl) ?_
              have HB := Lib.hid hSn
              clear hSn
              have Hu := Lib.hid (Hu.out.ext HB.out)
              have Hbw := Lib.hid (bt Hbw.out HB.out)
              have Hcv := Lib.hid (Hcv.out.below HB.out)
              have Hdv := Lib.hid (Hdv.out.below HB.out)
              have Q1 := Lib.hid ((HB.out.cell (block_lt_of_cell Q1.out)).trans Q1.out)
              have Q2 := Lib.hid ((HB.out.cell (block_lt_of_cell Q2.out)).trans Q2.out)
              have Q3 := Lib.hid ((HB.out.cell (block_lt_of_cell Q3.out)).trans Q3.out)
              have Q4 := Lib.hid ((HB.out.cell (block_lt_of_cell Q4.out)).trans Q4.out)
              have D0 := Lib.hid ((HB.out.cell (block_lt_of_cell D0.out)).trans D0.out)
              have D1 := Lib.hid ((HB.out.cell (block_lt_of_cell D1.out)).trans D1.out)
              have D2 := Lib.hid ((HB.out.cell (block_lt_of_cell D2.out)).trans D2.out)
              have D3 := Lib.hid ((HB.out.cell (block_lt_of_cell D3.out)).trans D3.out)
              clear HB
              generalize hgw : w8.drew = w9 at *
              clear hgw
              have HX := Lib.hid (Hon.out (by rw [Hk.out, Hin.out, decide_eq_false HBL.out]; rfl))
              have c0 := D0.out
              go_wp2_with (at_builtin; refine wpList_append_one rfl _ _ _ _ rfl Try.underlying28 (.int .i64 0) 8 Try.infoInt rfl w.heap.size _ _ rfl Hu.out (.int .i64 d.id) rfl rfl Hbw.out.size hl1 hl2 ?_)
              apply Stop.go
              intro v' w6 Hv' Ha'
              have D6 := Lib.hid (Hbw.out.trans Ha'.out.below)
              go_wp2_with fail
              go_roundw
              case rel => exact ⟨k + 1, by omega, by go_num, by rw [HX.out, ← ivals_snoc]; exact Hv'.out, D6.out⟩
              case measure => simp [intOf]; omega))
      · have d0 : decide ((k : Int) < p) = false := by simpa using hlt
        have HX : Hid (W = preW l c k) := Lib.hid (by rw [HWp.out, show k = p by omega])
        go_wp2_with fail
        go_ret
        rw [HX.out]
        exact Hu.out.retI Hbw.out

end Go.Proofs.Ytmcinaigkjfehaa
