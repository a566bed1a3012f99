/-
  Texts of this claim joined: Lw9b, Law10r, Law10b.
-/
import Derived.Test.YtckkdfpmibipfaaLw9a
import Derived.Test.YtckkdfpmibipfaaCg11
import Derived.Test.YtckkdfpmibipfaaGr1
import Derived.Test.YtckkdfpmibipfaaGr2
import Derived.Test.YtckkdfpmibipfaaOpenC
import Derived.ChangeMaps5

/-
  The contract of the law's Of.
-/
namespace Go.Proofs.Ytckkdfpmibipfaa
open Go.RowKit

set_option maxRecDepth 100000 in
set_option maxHeartbeats 8000000 in
theorem of9_any (A : Option Addr) (n cap : Nat) (l : List Cg) (hn : l.length = n) (hm : n ≤ 4096) (w : World) (hr : RdL RdC w A 5 l) :
    Calls Try.prog 25 #[.slice A n cap] w (RetC w l) := by
  have Hn := Lib.hid hn
  have Hr := Lib.hid hr
  clear hn hr
  go_enter Try.func25, Try.ntmps25
  go_wp2_with fail
  go_loopw [3, 4] (fun o i wr => ∃ k : Nat, k ≤ n ∧ i = .int .i64 k ∧ OwnL RdC wr w.heap.size 56 5 o (l.take k) ∧ Below w.heap.size w wr) (fun _ i _ => n - (intOf i).toNat)
  case atStart => exact ⟨0, Nat.zero_le _, rfl, OwnL.nil_ _ _ _ _ _, Below.refl _ _⟩
  case round =>
    obtain ⟨k, hk, rfl, hu, hbw⟩ := hrel
    have Hu := Lib.hid hu
    have Hbw := Lib.hid hbw
    clear hu hbw
    by_cases hlt : k < n
    · have d0 : decide ((k : Int) < n) = true := by simpa using hlt
      have hkl : k < l.length := by rw [Hn.out]; exact hlt
      have z1 : (k : Int) < n := by omega
      obtain ⟨ad, Ad, nd, cd, An, nn, cn, rfl, hcv, h0, h1, h2, h3, h4⟩ := Hr.out.cg hkl
      have Ht := Lib.hid (show l.take (k + 1) = l.take k ++ [l[k]] from List.take_succ_eq_append_getElem hkl)
      have Hlk := Lib.hid (show (l.take k).length = k by rw [List.length_take, Hn.out]; omega)
      have C0 := Lib.hid h0
      have F1 := Lib.hid (cell_fld h0 h1)
      have F2 := Lib.hid (cell_fld h0 h2)
      have F3 := Lib.hid (cell_fld1 (i := 2) h0 h3)
      have F4 := Lib.hid (cell_fld h0 h4)
      have Hcv := Lib.hid hcv
      clear h0 h1 h2 h3 h4 hcv
      generalize l[k] = c at *
      go_wp2_with fail
      refine WH.start (S := fun w' : World => Below w.heap.size w w') (List.replicate 26 false) 26 rfl rfl (by kernel_rfl) (bt Hbw.out (bdrew wr 1)) (fun hSn => ?_)
      simp only [List.replicate]
      have Hex := Lib.hid (bdrew wr 1)
      obtain ⟨wS, hwS⟩ : ∃ x, wr.drew = x := ⟨_, rfl⟩
      rw [show wr.drewN 1 = wS from hwS] at Hex
      rw [hwS] at hSn ⊢
      clear hwS
      refine WH.take 0 _ ?_ rfl (by kernel_rfl) (fun _ _ _ h => h) rfl (by assumption) ?_ ?_; rotate_left; (focus (intro w hSw; (try dsimp only at hSw); (first | (go_simp; done) | (go_simp; with_reducible rfl)))); simp only [Act.put, List.setIfInBounds_toArray, List.set_cons_zero, List.set_cons_succ]
      refine WH.take 1 _ ?_ rfl (by kernel_rfl) (fun _ _ _ h => h) rfl (by assumption) ?_ ?_; rotate_left; (focus (intro w hSw; (try dsimp only at hSw); (first | (go_simp; done) | (go_simp; with_reducible rfl)))); simp only [Act.put, List.setIfInBounds_toArray, List.set_cons_zero, List.set_cons_succ]
      refine WH.take 2 _ ?_ rfl (by kernel_rfl) (fun _ _ _ h => h) rfl (by assumption) ?_ ?_; rotate_left; (focus (intro w hSw; (try dsimp only at hSw); (first | (go_simp; done) | (go_simp; with_reducible rfl)))); simp only [Act.put, List.setIfInBounds_toArray, List.set_cons_zero, List.set_cons_succ]
      refine WH.take 3 _ ?_ rfl (by kernel_rfl) (fun _ _ _ h => h) rfl (by assumption) ?_ ?_; rotate_left; (focus (intro w hSw; (try dsimp only at hSw); (first | (go_simp; done) | (go_simp; with_reducible rfl)))); simp only [Act.put, List.setIfInBounds_toArray, List.set_cons_zero, List.set_cons_succ]
      refine WH.take 4 _ ?_ rfl (by kernel_rfl) (fun _ _ _ h => h) rfl (by assumption) ?_ ?_; rotate_left; (focus (intro w hSw; (try dsimp only at hSw); (first | (go_simp; done) | (go_simp; with_reducible rfl)))); simp only [Act.put, List.setIfInBounds_toArray, List.set_cons_zero, List.set_cons_succ]
      refine WH.take 5 _ _ rfl (by kernel_rfl) (fun _ _ _ h => h) rfl (by assumption) (fun w' hSw => exec_load_cell _ _ rfl (ad.add (k * 5)) rfl (.int .i64 c.id) ((hSw.cell (block_lt_of_cell C0.out)).trans C0.out) _ Try.underlying3 rfl) ?_; simp only [Act.put, List.setIfInBounds_toArray, List.set_cons_zero, List.set_cons_succ]
      refine WH.take 6 _ ?_ rfl (by kernel_rfl) (fun _ _ _ h => h) rfl (by assumption) ?_ ?_; rotate_left; (focus (intro w hSw; (try dsimp only at hSw); (first | (go_simp; done) | (go_simp; with_reducible rfl)))); simp only [Act.put, List.setIfInBounds_toArray, List.set_cons_zero, List.set_cons_succ]
      refine WH.take 7 _ ?_ rfl (by kernel_rfl) (fun _ _ _ h => h) rfl (by assumption) ?_ ?_; rotate_left; (focus (intro w hSw; (try dsimp only at hSw); (first | (go_simp; done) | (go_simp; with_reducible rfl)))); simp only [Act.put, List.setIfInBounds_toArray, List.set_cons_zero, List.set_cons_succ]
      refine WH.take 8 _ ?_ rfl (by kernel_rfl) (fun _ _ _ h => h) rfl (by assumption) ?_ ?_; rotate_left; (focus (intro w hSw; (try dsimp only at hSw); (first | (go_simp; done) | (go_simp; with_reducible rfl)))); simp only [Act.put, List.setIfInBounds_toArray, List.set_cons_zero, List.set_cons_succ]
      refine WH.take 9 _ ?_ rfl (by kernel_rfl) (fun _ _ _ h => h) rfl (by assumption) ?_ ?_; rotate_left; (focus (intro w hSw; (try dsimp only at hSw); (first | (go_simp; done) | (go_simp; with_reducible rfl)))); simp only [Act.put, List.setIfInBounds_toArray, List.set_cons_zero, List.set_cons_succ]
      refine WH.take 10 _ _ rfl (by kernel_rfl) (fun _ _ _ h => h) rfl (by assumption) (fun w' hSw => exec_load_cell _ _ rfl (⟨(ad.add (k * 5)).block, (ad.add (k * 5)).off + 1, none⟩) rfl (.int .i64 c.block) ((hSw.cell (block_lt_of_cell F1.out)).trans F1.out) _ Try.underlying3 rfl) ?_; simp only [Act.put, List.setIfInBounds_toArray, List.set_cons_zero, List.set_cons_succ]
      refine WH.take 11 _ ?_ rfl (by kernel_rfl) (fun _ _ _ h => h) rfl (by assumption) ?_ ?_; rotate_left; (focus (intro w hSw; (try dsimp only at hSw); (first | (go_simp; done) | (go_simp; with_reducible rfl)))); simp only [Act.put, List.setIfInBounds_toArray, List.set_cons_zero, List.set_cons_succ]
      refine WH.take 12 _ ?_ rfl (by kernel_rfl) (fun _ _ _ h => h) rfl (by assumption) ?_ ?_; rotate_left; (focus (intro w hSw; (try dsimp only at hSw); (first | (go_simp; done) | (go_simp; with_reducible rfl)))); simp only [Act.put, List.setIfInBounds_toArray, List.set_cons_zero, List.set_cons_succ]
      refine WH.take 13 _ ?_ rfl (by kernel_rfl) (fun _ _ _ h => h) rfl (by assumption) ?_ ?_; rotate_left; (focus (intro w hSw; (try dsimp only at hSw); (first | (go_simp; done) | (go_simp; with_reducible rfl)))); simp only [Act.put, List.setIfInBounds_toArray, List.set_cons_zero, List.set_cons_succ]
      refine WH.take 14 _ ?_ rfl (by kernel_rfl) (fun _ _ _ h => h) rfl (by assumption) ?_ ?_; rotate_left; (focus (intro w hSw; (try dsimp only at hSw); (first | (go_simp; done) | (go_simp; with_reducible rfl)))); simp only [Act.put, List.setIfInBounds_toArray, List.set_cons_zero, List.set_cons_succ]
      refine WH.take 15 _ _ rfl (by kernel_rfl) (fun _ _ _ h => h) rfl (by assumption) (fun w' hSw => exec_load_pair _ _ rfl ⟨(ad.add (k * 5)).block, (ad.add (k * 5)).off + 2, none⟩ rfl (.int .i64 c.p.at_) (.slice Ad nd cd) ((hSw.cell (block_lt_of_cell F2.out)).trans F2.out) ((hSw.cell (block_lt_of_cell F3.out)).trans F3.out) _ Try.underlying57 Try.patchSize) ?_; simp only [Act.put, List.setIfInBounds_toArray, List.set_cons_zero, List.set_cons_succ]
      refine WH.take 17 _ ?_ rfl (by kernel_rfl) (fun _ _ _ h => h) rfl (by assumption) ?_ ?_; rotate_left; (focus (intro w hSw; (try dsimp only at hSw); (first | (go_simp; done) | (go_simp; with_reducible rfl)))); simp only [Act.put, List.setIfInBounds_toArray, List.set_cons_zero, List.set_cons_succ]
      refine WH.take 18 _ ?_ rfl (by kernel_rfl) (fun _ _ _ h => h) rfl (by assumption) ?_ ?_; rotate_left; (focus (intro w hSw; (try dsimp only at hSw); (first | (go_simp; done) | (go_simp; with_reducible rfl)))); simp only [Act.put, List.setIfInBounds_toArray, List.set_cons_zero, List.set_cons_succ]
      refine WH.take 19 _ ?_ rfl (by kernel_rfl) (fun _ _ _ h => h) rfl (by assumption) ?_ ?_; rotate_left; (focus (intro w hSw; (try dsimp only at hSw); (first | (go_simp; done) | (go_simp; with_reducible rfl)))); simp only [Act.put, List.setIfInBounds_toArray, List.set_cons_zero, List.set_cons_succ]
      refine WH.take 20 _ ?_ rfl (by kernel_rfl) (fun _ _ _ h => h) rfl (by assumption) ?_ ?_; rotate_left; (focus (intro w hSw; (try dsimp only at hSw); (first | (go_simp; done) | (go_simp; with_reducible rfl)))); simp only [Act.put, List.setIfInBounds_toArray, List.set_cons_zero, List.set_cons_succ]
      refine WH.take 21 _ _ rfl (by kernel_rfl) (fun _ _ _ h => h) rfl (by assumption) (fun w' hSw => exec_load_cell _ _ rfl (⟨(ad.add (k * 5)).block, (ad.add (k * 5)).off + 4, none⟩) rfl (.slice An nn cn) ((hSw.cell (block_lt_of_cell F4.out)).trans F4.out) _ Try.underlying30 rfl) ?_; simp only [Act.put, List.setIfInBounds_toArray, List.set_cons_zero, List.set_cons_succ]
      refine WH.only 16 _ rfl (by kernel_rfl) rfl (fun K hK => ?_); go_simp; refine (of_any c.p Ad nd cd _ (Hcv.out.p.below hSn)).mono ?_; rintro e wa ⟨rfl, hpT, hbT⟩; go_simp
      have Hex := Lib.hid (bt Hex.out hbT)
      have hSn := bt hSn hbT; refine hK _ _ hSn ?_; clear hK; clear K; simp only [List.set_cons_zero, List.set_cons_succ]
      refine WH.take 22 _ ?_ rfl (by kernel_rfl) (fun _ _ _ h => h) rfl (by assumption) ?_ ?_; rotate_left; (focus (intro w hSw; (try dsimp only at hSw); (first | (go_simp; done) | (go_simp; with_reducible rfl)))); simp only [Act.put, List.setIfInBounds_toArray, List.set_cons_zero, List.set_cons_succ]
      refine WH.only 23 _ rfl (by kernel_rfl) rfl (fun K hK => ?_)
      refine ow_build_row _ _ _ rfl Try.underlying23 5 72 _ Try.rchgInfo (by decide) (by decide) #[.int .i64 c.id, .int .i64 c.block, .int .i64 c.p.at_, .slice Ad nd cd, .slice An nn cn] rfl rfl ?_
      apply Stop.go
      intro wB HgB HbB
      have HuZ := Lib.hid (Hu.out.ext (bt Hex.out HgB.out.1))
      have HcvZ := Lib.hid (Hcv.out.below (bt hSn HgB.out.1))
      have hSn := bt hSn HgB.out.1; refine hK _ _ hSn ?_; clear hK; clear K; simp only [Act.put, List.setIfInBounds_toArray, List.set_cons_zero, List.set_cons_succ]
      refine WH.only 24 _ rfl (by kernel_rfl) rfl (fun K hK => ?_)
      refine ow_append_L RdC _ _ _ _ rfl Try.underlying23 5 72 _ Try.rchgInfo rfl (by decide) w.heap.size _ (l.take k) rfl HuZ.out _ _ rfl HbB.out rfl (by simp [Value.oneCell']) c HcvZ.out.rd (fun g hg e => by have h1 := RdC.there Hcv.out.rd g hg; have h2 := (Hu.out.lt g e).1; omega) hSn.size (by rw [Hlk.out]; omega) (by rw [Hlk.out]; omega) ?_
      rw [Hlk.out]
      apply Stop.go
      intro gL capL wL HL HbL HgL HwL
      have HX := Lib.hid (hSn.trans HbL.out)
      have hSn := HX.out; refine hK _ _ hSn ?_; clear hK; clear K; simp only [Act.put, List.setIfInBounds_toArray, List.set_cons_zero, List.set_cons_succ]
      refine WH.take 25 _ ?_ rfl (by kernel_rfl) (fun _ _ _ h => h) rfl (by assumption) ?_ ?_; rotate_left; (focus (intro w hSw; (try dsimp only at hSw); (first | (go_simp; done) | (go_simp; with_reducible rfl)))); simp only [Act.put, List.setIfInBounds_toArray, List.set_cons_zero, List.set_cons_succ]
      refine WH.done (by kernel_rfl) ?_
      clear hSn
      go_wp2_with fail
      go_roundw
      case rel => exact ⟨k + 1, by omega, by go_num, by rw [Ht.out]; exact HL.out, HX.out⟩
      case measure => simp [intOf]; omega
    · have d0 : decide ((k : Int) < n) = false := by simpa using hlt
      obtain rfl : k = n := by omega
      have e1 : l.take k = l := List.take_of_length_le (by rw [Hn.out]; omega)
      rw [e1] at Hu
      clear e1
      obtain ⟨A', c', rfl, -⟩ := Hu.out.read
      go_wp2_with fail
      go_ret
      exact Hu.out.retC Hbw.out

end Go.Proofs.Ytckkdfpmibipfaa

/-
  The walk of RollWrites.
-/
namespace Go.Proofs.Ytckkdfpmibipfaa
open Go.RowKit

set_option maxRecDepth 100000 in
set_option maxHeartbeats 16000000 in
theorem rollWrites_any (L : List UInt8) (hL : L.length = 256) (A : Option Addr) (n cap : Nat) (l : List Cg) (hn : l.length = n) (hcap : n ≤ cap) (hm : cap ≤ maxLen) (block : Int) (w : World) (hr : RdL RdC w A 5 l) :
    Calls Try.prog 4 #[.agg (bcells L), .slice A n cap, .int .i64 block] w fun e w' => e = .returned (.bool true) ∧ Below w.heap.size w w' := by
  have HL := Lib.hid hL
  have Hn := Lib.hid hn
  have Hr := Lib.hid hr
  clear hL hn hr
  go_enter Try.func4, Try.ntmps4
  go_wp2_with (refine wpList_box_row rfl _ _ rfl _ rfl ?_)
  apply Stop.go; intro w2 Hg1 Hb1
  have Hw2 := Lib.hid Hg1.out.1
  have Hx2 := Lib.hid Hb1.out
  have Hr2 := Lib.hid (Hr.out.below Hw2.out)
  clear Hg1 Hb1
  have HM := Lib.hid (rmuchc_any 30 (by decide) A n cap l Hn.out (Nat.le_trans hcap hm) w2 Hr2.out)
  cases hmu : muchC l 30
  rotate_left
  · rw [hmu] at HM
    clear hmu
    go_wp2_with fail
    refine (HM.out).mono ?_; rintro e w2 ⟨rfl, rfl⟩
    go_wp2_with fail
    refine (works10_any _).mono ?_; rintro e w3 ⟨rfl, hb3⟩
    have Hb3 := Lib.hid (bt Hw2.out hb3)
    clear hb3
    go_wp2_with fail
    go_ret
    exact ⟨rfl, Hb3.out⟩
  · obtain ⟨hl, hd⟩ := muchC_no hmu
    rw [hmu] at HM
    clear hmu
    have Hl := Lib.hid (show n ≤ 4096 by have := Hn.out; omega)
    have HD := Lib.hid hd
    have HD4 := Lib.hid (show ∀ c ∈ l, c.p.data.length ≤ 4096 ∧ c.needs.length ≤ 4096 from fun c hc => by have := HD.out c hc; omega)
    have HN := Lib.hid (show ∀ c ∈ l, c.needs.length ≤ 4096 from fun c hc => (HD4.out c hc).2)
    have HV := Lib.hid (imageC_len HL.out l block)
    have HLen := Lib.hid (leftC_len l block)
    clear hl hd
    go_wp2_with fail
    refine (HM.out).mono ?_; rintro e w2 ⟨rfl, rfl⟩
    clear HM
    go_wp2_with fail
    refine WH.start (S := fun w' : World => Below w2.heap.size w2 w') (List.replicate 13 false) 13 rfl rfl (by kernel_rfl) (bdrew w2 1) (fun hSn => ?_)
    simp only [List.replicate]
    obtain ⟨wS, hwS⟩ : ∃ x, w2.drew = x := ⟨_, rfl⟩
    rw [hwS] at hSn ⊢
    clear hwS
    refine WH.take 0 _ _ rfl (by kernel_rfl) (fun _ _ _ h => h) rfl (by assumption) (fun w' hSw => run_load_arr _ _ rfl _ rfl _ _ (Hx2.out.ext hSw) _ _ (Try.underlying22) (Try.arrFits HL.out)) ?_; simp only [Act.put, List.setIfInBounds_toArray, List.set_cons_zero, List.set_cons_succ]
    refine WH.take 1 _ ?_ rfl (by kernel_rfl) (fun _ _ _ h => h) rfl (by assumption) ?_ ?_; rotate_left; (focus (intro w hSw; (try dsimp only at hSw); (first | (go_simp; done) | (go_simp; with_reducible rfl)))); simp only [Act.put, List.setIfInBounds_toArray, List.set_cons_zero, List.set_cons_succ]
    refine WH.take 3 _ ?_ rfl (by kernel_rfl) (fun _ _ _ h => h) rfl (by assumption) ?_ ?_; rotate_left; (focus (intro w hSw; (try dsimp only at hSw); (first | (go_simp; done) | (go_simp; with_reducible rfl)))); simp only [Act.put, List.setIfInBounds_toArray, List.set_cons_zero, List.set_cons_succ]
    refine WH.two 2 9 _ _ rfl rfl (by kernel_rfl) rfl rfl (fun K hK => ?_) (fun K hK => ?_)
    focus (
      go_simp; refine (to9_any A n cap l Hn.out Hl.out HD.out _ (Hr2.out.below hSn)).mono ?_; rintro e wa ⟨A3, n3, c3, rfl, e3, q3, r3, hr3, hb3⟩; go_simp
      have hm3 : n3 ≤ 4096 := by rw [← e3, Hn.out]; exact Hl.out
      have hSn := bt hSn hb3; refine hK _ _ hSn ?_; clear hK; clear K; simp only [List.set_cons_zero, List.set_cons_succ]
      refine WH.two 4 9 _ _ rfl rfl (by kernel_rfl) rfl rfl (fun K hK => ?_) (fun K hK => ?_)
      focus (
        go_simp; refine (pwrite_any L HL.out A3 n3 c3 l e3 hm3 HD4.out block _ hr3).mono ?_; rintro e wb ⟨AT, nT, cT, AI, nI, cI, rfl, ⟨e1, e2, e3', e4⟩, ⟨g1, g2, g3, g4⟩, h5⟩; go_simp
        have e4 := e4.plainHi
        have hle := (bt hSn h5).size
        have hbl := bt hSn h5
        have hSn := bt hSn h5; refine hK _ _ hSn ?_; clear hK; clear K; simp only [List.set_cons_zero, List.set_cons_succ]
        refine WH.take 5 _ ?_ rfl (by kernel_rfl) (fun _ _ _ h => h) rfl (by assumption) ?_ ?_; rotate_left; (focus (intro w hSw; (try dsimp only at hSw); (first | (go_simp; done) | (go_simp; with_reducible rfl)))); simp only [Act.put, List.setIfInBounds_toArray, List.set_cons_zero, List.set_cons_succ]
        refine WH.take 6 _ ?_ rfl (by kernel_rfl) (fun _ _ _ h => h) rfl (by assumption) ?_ ?_; rotate_left; (focus (intro w hSw; (try dsimp only at hSw); (first | (go_simp; done) | (go_simp; with_reducible rfl)))); simp only [Act.put, List.setIfInBounds_toArray, List.set_cons_zero, List.set_cons_succ]
        refine WH.take 7 _ ?_ rfl (by kernel_rfl) (fun _ _ _ h => h) rfl (by assumption) ?_ ?_; rotate_left; (focus (intro w hSw; (try dsimp only at hSw); (first | (go_simp; done) | (go_simp; with_reducible rfl)))); simp only [Act.put, List.setIfInBounds_toArray, List.set_cons_zero, List.set_cons_succ]
        refine WH.take 8 _ ?_ rfl (by kernel_rfl) (fun _ _ _ h => h) rfl (by assumption) ?_ ?_; rotate_left; (focus (intro w hSw; (try dsimp only at hSw); (first | (go_simp; done) | (go_simp; with_reducible rfl)))); simp only [Act.put, List.setIfInBounds_toArray, List.set_cons_zero, List.set_cons_succ]
        refine WH.only 9 _ rfl (by kernel_rfl) rfl (fun K hK => ?_)
        refine ow_alloc _ rfl _ Try.blockZero ?_
        apply Stop.go
        intro wN HgN HBa
        have hSn := bt hbl HgN.out.1; refine hK _ _ hSn ?_; clear hK; clear K; simp only [Act.put, List.setIfInBounds_toArray, List.set_cons_zero, List.set_cons_succ]
        refine WH.only 10 _ rfl (by kernel_rfl) rfl (fun K hK => ?_)
        refine ow_store _ _ _ rfl _ (bcells (imageC L l block)) rfl rfl _ _ HBa.out (Try.blockFits HV.out) (by rw [bcells_size, bcells_size, HV.out, zeros_len]) (oneCell_bcells _) ?_
        apply Stop.go
        intro w9 Ho9 HxG
        have DN := bonly HgN.out.1 Ho9.out (Nat.le_refl _)
        have HrT := Lib.hid (e4.below DN)
        have HrI := Lib.hid (g4.below DN)
        have hSn := bt hbl DN; refine hK _ _ hSn ?_; clear hK; clear K; simp only [Act.put, List.set_cons_zero, List.set_cons_succ]
        refine WH.take 11 _ ?_ rfl (by kernel_rfl) (fun _ _ _ h => h) rfl (by assumption) ?_ ?_; rotate_left; (focus (intro w hSw; (try dsimp only at hSw); (first | (go_simp; done) | (go_simp; with_reducible rfl)))); simp only [Act.put, List.setIfInBounds_toArray, List.set_cons_zero, List.set_cons_succ]
        refine WH.take 12 _ ?_ rfl (by kernel_rfl) (fun _ _ _ h => h) rfl (by assumption) ?_ ?_; rotate_left; (focus (intro w hSw; (try dsimp only at hSw); (first | (go_simp; done) | (go_simp; with_reducible rfl)))); simp only [Act.put, List.setIfInBounds_toArray, List.set_cons_zero, List.set_cons_succ]
        refine WH.done (by kernel_rfl) ?_
        have Hw9 := Lib.hid (bt Hw2.out hSn)
        have Dx := Lib.hid hSn
        have Hy9 := Lib.hid HxG.out
        have HT := Lib.hid e1
        have HI := Lib.hid (And.intro g1 (And.intro g2 g3))
        generalize wb.heap.size = G at *
        clear e1 e2 e3' e4 g1 g2 g3 g4 h5 HgN HBa Ho9 HxG DN hle hbl hSn)
      rotate_left 1
      focus (
        have hle := hSn.size
        have hbl := hSn
        refine ow_alloc _ rfl _ Try.blockZero ?_
        apply Stop.go
        intro wN HgN HBa
        have hr3 := hr3.below HgN.out.1
        have hSn := bt hbl HgN.out.1; refine hK _ _ hSn ?_; clear hK; clear K; simp only [Act.put, List.setIfInBounds_toArray, List.set_cons_zero, List.set_cons_succ]
        refine WH.only 4 _ rfl (by kernel_rfl) rfl (fun K hK => ?_); go_simp; refine (pwrite_any L HL.out A3 n3 c3 l e3 hm3 HD4.out block _ hr3).mono ?_; rintro e wb ⟨AT, nT, cT, AI, nI, cI, rfl, ⟨e1, e2, e3', e4⟩, ⟨g1, g2, g3, g4⟩, h5⟩; go_simp
        have HBb := HBa.out.ext h5
        have hSn := bt hSn h5; refine hK _ _ hSn ?_; clear hK; clear K; simp only [List.set_cons_zero, List.set_cons_succ]
        refine WH.take 5 _ ?_ rfl (by kernel_rfl) (fun _ _ _ h => h) rfl (by assumption) ?_ ?_; rotate_left; (focus (intro w hSw; (try dsimp only at hSw); (first | (go_simp; done) | (go_simp; with_reducible rfl)))); simp only [Act.put, List.setIfInBounds_toArray, List.set_cons_zero, List.set_cons_succ]
        refine WH.take 6 _ ?_ rfl (by kernel_rfl) (fun _ _ _ h => h) rfl (by assumption) ?_ ?_; rotate_left; (focus (intro w hSw; (try dsimp only at hSw); (first | (go_simp; done) | (go_simp; with_reducible rfl)))); simp only [Act.put, List.setIfInBounds_toArray, List.set_cons_zero, List.set_cons_succ]
        refine WH.take 7 _ ?_ rfl (by kernel_rfl) (fun _ _ _ h => h) rfl (by assumption) ?_ ?_; rotate_left; (focus (intro w hSw; (try dsimp only at hSw); (first | (go_simp; done) | (go_simp; with_reducible rfl)))); simp only [Act.put, List.setIfInBounds_toArray, List.set_cons_zero, List.set_cons_succ]
        refine WH.take 8 _ ?_ rfl (by kernel_rfl) (fun _ _ _ h => h) rfl (by assumption) ?_ ?_; rotate_left; (focus (intro w hSw; (try dsimp only at hSw); (first | (go_simp; done) | (go_simp; with_reducible rfl)))); simp only [Act.put, List.setIfInBounds_toArray, List.set_cons_zero, List.set_cons_succ]
        refine WH.only 10 _ rfl (by kernel_rfl) rfl (fun K hK => ?_)
        refine ow_store _ _ _ rfl _ (bcells (imageC L l block)) rfl rfl _ _ HBb (Try.blockFits HV.out) (by rw [bcells_size, bcells_size, HV.out, zeros_len]) (oneCell_bcells _) ?_
        apply Stop.go
        intro w9 Ho9 HxG
        have HrT := Lib.hid (e4.past HBb Ho9.out HBa.out.lt).plainHi
        have HrI := Lib.hid (g4.past HBb Ho9.out)
        have hSn := bonly hSn Ho9.out hle; refine hK _ _ hSn ?_; clear hK; clear K; simp only [Act.put, List.set_cons_zero, List.set_cons_succ]
        refine WH.take 11 _ ?_ rfl (by kernel_rfl) (fun _ _ _ h => h) rfl (by assumption) ?_ ?_; rotate_left; (focus (intro w hSw; (try dsimp only at hSw); (first | (go_simp; done) | (go_simp; with_reducible rfl)))); simp only [Act.put, List.setIfInBounds_toArray, List.set_cons_zero, List.set_cons_succ]
        refine WH.take 12 _ ?_ rfl (by kernel_rfl) (fun _ _ _ h => h) rfl (by assumption) ?_ ?_; rotate_left; (focus (intro w hSw; (try dsimp only at hSw); (first | (go_simp; done) | (go_simp; with_reducible rfl)))); simp only [Act.put, List.setIfInBounds_toArray, List.set_cons_zero, List.set_cons_succ]
        refine WH.done (by kernel_rfl) ?_
        have Hw9 := Lib.hid (bt Hw2.out hSn)
        have Dx := Lib.hid hSn
        have Hy9 := Lib.hid HxG.out
        have HT := Lib.hid e1
        have HI := Lib.hid (And.intro g1 (And.intro g2 g3))
        generalize wa.heap.size = G at *
        clear e1 e2 e3' e4 g1 g2 g3 g4 h5 HgN HBa HBb Ho9 HxG hle hbl hSn))
    rotate_left 2
    focus (
      have hle := hSn.size
      have hbl := hSn
      refine ow_alloc _ rfl _ Try.blockZero ?_
      apply Stop.go
      intro wN HgN HBa
      have hSn := bt hbl HgN.out.1; refine hK _ _ hSn ?_; clear hK; clear K; simp only [Act.put, List.setIfInBounds_toArray, List.set_cons_zero, List.set_cons_succ]
      refine WH.only 2 _ rfl (by kernel_rfl) rfl (fun K hK => ?_); go_simp; refine (to9_any A n cap l Hn.out Hl.out HD.out _ (Hr2.out.below hSn)).mono ?_; rintro e wa ⟨A3, n3, c3, rfl, e3, q3, r3, hr3, hb3⟩; go_simp
      have hm3 : n3 ≤ 4096 := by rw [← e3, Hn.out]; exact Hl.out
      have HBb := HBa.out.ext hb3
      have hlt := HBa.out.lt
      have hsz := hb3.size
      have hSn := bt hSn hb3; refine hK _ _ hSn ?_; clear hK; clear K; simp only [List.set_cons_zero, List.set_cons_succ]
      refine WH.only 4 _ rfl (by kernel_rfl) rfl (fun K hK => ?_); go_simp; refine (pwrite_any L HL.out A3 n3 c3 l e3 hm3 HD4.out block _ hr3).mono ?_; rintro e wb ⟨AT, nT, cT, AI, nI, cI, rfl, ⟨e1, e2, e3', e4⟩, ⟨g1, g2, g3, g4⟩, h5⟩; go_simp
      have HBb := HBb.ext h5
      have hSn := bt hSn h5; refine hK _ _ hSn ?_; clear hK; clear K; simp only [List.set_cons_zero, List.set_cons_succ]
      refine WH.take 5 _ ?_ rfl (by kernel_rfl) (fun _ _ _ h => h) rfl (by assumption) ?_ ?_; rotate_left; (focus (intro w hSw; (try dsimp only at hSw); (first | (go_simp; done) | (go_simp; with_reducible rfl)))); simp only [Act.put, List.setIfInBounds_toArray, List.set_cons_zero, List.set_cons_succ]
      refine WH.take 6 _ ?_ rfl (by kernel_rfl) (fun _ _ _ h => h) rfl (by assumption) ?_ ?_; rotate_left; (focus (intro w hSw; (try dsimp only at hSw); (first | (go_simp; done) | (go_simp; with_reducible rfl)))); simp only [Act.put, List.setIfInBounds_toArray, List.set_cons_zero, List.set_cons_succ]
      refine WH.take 7 _ ?_ rfl (by kernel_rfl) (fun _ _ _ h => h) rfl (by assumption) ?_ ?_; rotate_left; (focus (intro w hSw; (try dsimp only at hSw); (first | (go_simp; done) | (go_simp; with_reducible rfl)))); simp only [Act.put, List.setIfInBounds_toArray, List.set_cons_zero, List.set_cons_succ]
      refine WH.take 8 _ ?_ rfl (by kernel_rfl) (fun _ _ _ h => h) rfl (by assumption) ?_ ?_; rotate_left; (focus (intro w hSw; (try dsimp only at hSw); (first | (go_simp; done) | (go_simp; with_reducible rfl)))); simp only [Act.put, List.setIfInBounds_toArray, List.set_cons_zero, List.set_cons_succ]
      refine WH.only 10 _ rfl (by kernel_rfl) rfl (fun K hK => ?_)
      refine ow_store _ _ _ rfl _ (bcells (imageC L l block)) rfl rfl _ _ HBb (Try.blockFits HV.out) (by rw [bcells_size, bcells_size, HV.out, zeros_len]) (oneCell_bcells _) ?_
      apply Stop.go
      intro w9 Ho9 HxG
      have HrT := Lib.hid (e4.past HBb Ho9.out (by omega)).plainHi
      have HrI := Lib.hid (g4.past HBb Ho9.out)
      have hSn := bonly hSn Ho9.out hle; refine hK _ _ hSn ?_; clear hK; clear K; simp only [Act.put, List.set_cons_zero, List.set_cons_succ]
      refine WH.take 11 _ ?_ rfl (by kernel_rfl) (fun _ _ _ h => h) rfl (by assumption) ?_ ?_; rotate_left; (focus (intro w hSw; (try dsimp only at hSw); (first | (go_simp; done) | (go_simp; with_reducible rfl)))); simp only [Act.put, List.setIfInBounds_toArray, List.set_cons_zero, List.set_cons_succ]
      refine WH.take 12 _ ?_ rfl (by kernel_rfl) (fun _ _ _ h => h) rfl (by assumption) ?_ ?_; rotate_left; (focus (intro w hSw; (try dsimp only at hSw); (first | (go_simp; done) | (go_simp; with_reducible rfl)))); simp only [Act.put, List.setIfInBounds_toArray, List.set_cons_zero, List.set_cons_succ]
      refine WH.done (by kernel_rfl) ?_
      have Hw9 := Lib.hid (bt Hw2.out hSn)
      have Dx := Lib.hid hSn
      have Hy9 := Lib.hid HxG.out
      have HT := Lib.hid e1
      have HI := Lib.hid (And.intro g1 (And.intro g2 g3))
      generalize wS.heap.size = G at *
      clear e1 e2 e3' e4 g1 g2 g3 g4 h5 HgN HBa HBb Ho9 HxG hle hbl hlt hsz hSn)
    all_goals
      have Hx9 := Lib.hid (Hx2.out.ext Dx.out)
      have Hr9 := Lib.hid (Hr2.out.below Dx.out)
      have HTm := Lib.hid (show nT ≤ 4096 by have := HT.out; have := HLen.out; have := Hn.out; have := Hl.out; omega)
      clear hr3 hb3 e3 q3 r3 hm3
      go_wp2_with fail
      refine (rready9_any A n cap l Hn.out Hl.out HN.out block _ Hr9.out).mono ?_; rintro e wF ⟨AR, nR, cR, rfl, g1, g2, g3, g4, g5⟩
      have HR := Lib.hid (And.intro g1 (And.intro g2 g3))
      have HRm := Lib.hid (show nR ≤ 4096 by have := HLen.out; have := Hn.out; have := Hl.out; omega)
      have HwF := Lib.hid (bt Hw9.out g5)
      have HxF := Lib.hid (Hx9.out.ext g5)
      have HyF := Lib.hid (Hy9.out.ext g5)
      have HrF := Lib.hid (Hr9.out.below g5)
      have HrTF := Lib.hid (HrT.out.below g5)
      have HrIF := Lib.hid (HrI.out.below g5)
      have HrRF := Lib.hid g4
      clear g1 g2 g3 g4 g5 Hx9 Hy9 Hr9 HrT HrI Hw9 Dx
      go_wp2_with fail
      refine WH.start (S := fun w' : World => Below wF.heap.size wF w') (List.replicate 23 false) 23 rfl rfl (by kernel_rfl) (bdrew wF 1) (fun hSn => ?_)
      simp only [List.replicate]
      refine WH.take 0 _ _ rfl (by kernel_rfl) (fun _ _ _ h => h) rfl (by assumption) (fun w' hSw => exec_slice_all _ _ rfl _ _ Try.underlying28 Try.byteSize G rfl (by decide)) ?_; simp only [Act.put, List.setIfInBounds_toArray, List.set_cons_zero, List.set_cons_succ]
      refine WH.take 1 _ _ rfl (by kernel_rfl) (fun _ _ _ h => h) rfl (by assumption) (fun w' hSw => exec_slice_all _ _ rfl _ _ Try.underlying22 Try.byteSize w.heap.size rfl (by decide)) ?_; simp only [Act.put, List.setIfInBounds_toArray, List.set_cons_zero, List.set_cons_succ]
      refine WH.take 2 _ ?_ rfl (by kernel_rfl) (fun _ _ _ h => h) rfl (by assumption) ?_ ?_; rotate_left; (focus (intro w hSw; (try dsimp only at hSw); (first | (go_simp; done) | (go_simp; with_reducible rfl)))); simp only [Act.put, List.setIfInBounds_toArray, List.set_cons_zero, List.set_cons_succ]
      refine WH.take 3 _ ?_ rfl (by kernel_rfl) (fun _ _ _ h => h) rfl (by assumption) ?_ ?_; rotate_left; (focus (intro w hSw; (try dsimp only at hSw); (first | (go_simp; done) | (go_simp; with_reducible rfl)))); simp only [Act.put, List.setIfInBounds_toArray, List.set_cons_zero, List.set_cons_succ]
      refine WH.only 4 _ rfl (by kernel_rfl) rfl (fun K hK => ?_); go_simp; refine (rimage10_any (some ⟨w.heap.size, 0, none⟩) 256 256 L HL.out HL.out (Nat.le_refl _) (by decide) A n cap l Hn.out Hl.out HN.out block _ (RB.of_blk0 (HxF.out.ext hSn)) (HrF.out.below hSn)).mono ?_; rintro e wc ⟨A5, n5, c5, rfl, e5, q5, r5, hr5, hbc⟩; go_simp
      have hSn := bt hSn hbc; refine hK _ _ hSn ?_; clear hK; clear K; simp only [List.set_cons_zero, List.set_cons_succ]
      refine WH.only 5 _ rfl (by kernel_rfl) rfl (fun K hK => ?_); go_simp; refine (same_any (some ⟨G, 0, none⟩) 256 256 (imageC L l block) HV.out A5 n5 c5 (imageC L l block) e5 (by decide) (Nat.le_trans q5 r5) _ (RB.of_blk0 (HyF.out.ext hSn)) hr5).mono ?_; rintro e wd ⟨rfl, kq, rfl⟩; go_simp
      have hSn := bt hSn (bdrew _ kq); refine hK _ _ hSn ?_; clear hK; clear K; simp only [List.set_cons_zero, List.set_cons_succ]
      refine WH.take 6 _ ?_ rfl (by kernel_rfl) (fun _ _ _ h => h) rfl (by assumption) ?_ ?_; rotate_left; (focus (intro w hSw; (try dsimp only at hSw); (first | (go_simp; done) | (go_simp; with_reducible rfl)))); simp only [Act.put, List.setIfInBounds_toArray, List.set_cons_zero, List.set_cons_succ]
      refine WH.take 7 _ ?_ rfl (by kernel_rfl) (fun _ _ _ h => h) rfl (by assumption) ?_ ?_; rotate_left; (focus (intro w hSw; (try dsimp only at hSw); (first | (go_simp; done) | (go_simp; with_reducible rfl)))); simp only [Act.put, List.setIfInBounds_toArray, List.set_cons_zero, List.set_cons_succ]
      refine WH.take 9 _ ?_ rfl (by kernel_rfl) (fun _ _ _ h => h) rfl (by assumption) ?_ ?_; rotate_left; (focus (intro w hSw; (try dsimp only at hSw); (first | (go_simp; done) | (go_simp; with_reducible rfl)))); simp only [Act.put, List.setIfInBounds_toArray, List.set_cons_zero, List.set_cons_succ]
      refine WH.take 10 _ ?_ rfl (by kernel_rfl) (fun _ _ _ h => h) rfl (by assumption) ?_ ?_; rotate_left; (focus (intro w hSw; (try dsimp only at hSw); (first | (go_simp; done) | (go_simp; with_reducible rfl)))); simp only [Act.put, List.setIfInBounds_toArray, List.set_cons_zero, List.set_cons_succ]
      refine WH.only 8 _ rfl (by kernel_rfl) rfl (fun K hK => ?_); go_simp; refine (of9_any AT nT cT (leftC l block) HT.out HTm.out _ (HrTF.out.below hSn)).mono ?_; rintro e we ⟨A6, n6, c6, rfl, e6, q6, r6, hr6, hbe⟩; go_simp
      have L6 := Lib.hid hr6
      have E6 := Lib.hid e6
      clear hr6
      have hSn := bt hSn hbe; refine hK _ _ hSn ?_; clear hK; clear K; simp only [List.set_cons_zero, List.set_cons_succ]
      refine WH.only 11 _ rfl (by kernel_rfl) rfl (fun K hK => ?_); go_simp; refine (rwithout9_any A n cap l Hn.out Hl.out AR nR cR (readyC l block) HR.out.1 HRm.out _ (HrF.out.below hSn) (HrRF.out.below hSn)).mono ?_; rintro e wf ⟨A7, n7, c7, rfl, e7, q7, r7, hr7, hbf⟩; go_simp
      have L6 := Lib.hid (L6.out.below hbf)
      have hSn := bt hSn hbf; refine hK _ _ hSn ?_; clear hK; clear K; simp only [List.set_cons_zero, List.set_cons_succ]
      obtain rfl : n6 = n7 := E6.out.symm.trans e7
      refine WH.only 12 _ rfl (by kernel_rfl) rfl (fun K hK => ?_); go_simp; refine (rsameAll9_any A6 n6 c6 A7 c7 (leftC l block) E6.out (by rw [← E6.out, HT.out]; exact HTm.out) _ L6.out hr7).mono ?_; rintro e wg ⟨rfl, hbg⟩; go_simp
      have hSn := bt hSn hbg; refine hK _ _ hSn ?_; clear hK; clear K; simp only [List.set_cons_zero, List.set_cons_succ]
      refine WH.take 13 _ ?_ rfl (by kernel_rfl) (fun _ _ _ h => h) rfl (by assumption) ?_ ?_; rotate_left; (focus (intro w hSw; (try dsimp only at hSw); (first | (go_simp; done) | (go_simp; with_reducible rfl)))); simp only [Act.put, List.setIfInBounds_toArray, List.set_cons_zero, List.set_cons_succ]
      refine WH.take 14 _ ?_ rfl (by kernel_rfl) (fun _ _ _ h => h) rfl (by assumption) ?_ ?_; rotate_left; (focus (intro w hSw; (try dsimp only at hSw); (first | (go_simp; done) | (go_simp; with_reducible rfl)))); simp only [Act.put, List.setIfInBounds_toArray, List.set_cons_zero, List.set_cons_succ]
      refine WH.take 15 _ ?_ rfl (by kernel_rfl) (fun _ _ _ h => h) rfl (by assumption) ?_ ?_; rotate_left; (focus (intro w hSw; (try dsimp only at hSw); (first | (go_simp; done) | (go_simp; with_reducible rfl)))); simp only [Act.put, List.setIfInBounds_toArray, List.set_cons_zero, List.set_cons_succ]
      refine WH.take 16 _ ?_ rfl (by kernel_rfl) (fun _ _ _ h => h) rfl (by assumption) ?_ ?_; rotate_left; (focus (intro w hSw; (try dsimp only at hSw); (first | (go_simp; done) | (go_simp; with_reducible rfl)))); simp only [Act.put, List.setIfInBounds_toArray, List.set_cons_zero, List.set_cons_succ]
      refine WH.only 17 _ rfl (by kernel_rfl) rfl (fun K hK => ?_); go_simp; refine (ints_any AI nI cI (readyC l block) HI.out.1 AR nR cR (readyC l block) HR.out.1 (Nat.le_trans HI.out.2.1 HI.out.2.2) (Nat.le_trans HR.out.2.1 HR.out.2.2) _ (HrIF.out.below hSn) (HrRF.out.below hSn)).mono ?_; rintro e wh ⟨rfl, kr, rfl⟩; go_simp
      have hSn := bt hSn (bdrew _ kr); refine hK _ _ hSn ?_; clear hK; clear K; simp only [List.set_cons_zero, List.set_cons_succ]
      refine WH.take 18 _ ?_ rfl (by kernel_rfl) (fun _ _ _ h => h) rfl (by assumption) ?_ ?_; rotate_left; (focus (intro w hSw; (try dsimp only at hSw); (first | (go_simp; done) | (go_simp; with_reducible rfl)))); simp only [Act.put, List.setIfInBounds_toArray, List.set_cons_zero, List.set_cons_succ]
      refine WH.take 19 _ ?_ rfl (by kernel_rfl) (fun _ _ _ h => h) rfl (by assumption) ?_ ?_; rotate_left; (focus (intro w hSw; (try dsimp only at hSw); (first | (go_simp; done) | (go_simp; with_reducible rfl)))); simp only [Act.put, List.setIfInBounds_toArray, List.set_cons_zero, List.set_cons_succ]
      refine WH.only 20 _ rfl (by kernel_rfl) rfl (fun K hK => ?_); go_simp; refine (works10_any _).mono ?_; rintro e wi ⟨rfl, hbi⟩; go_simp
      have hSn := bt hSn hbi; refine hK _ _ hSn ?_; clear hK; clear K; simp only [List.set_cons_zero, List.set_cons_succ]
      refine WH.take 21 _ ?_ rfl (by kernel_rfl) (fun _ _ _ h => h) rfl (by assumption) ?_ ?_; rotate_left; (focus (intro w hSw; (try dsimp only at hSw); (first | (go_simp; done) | (go_simp; with_reducible rfl)))); simp only [Act.put, List.setIfInBounds_toArray, List.set_cons_zero, List.set_cons_succ]
      refine WH.take 22 _ ?_ rfl (by kernel_rfl) (fun _ _ _ h => h) rfl (by assumption) ?_ ?_; rotate_left; (focus (intro w hSw; (try dsimp only at hSw); (first | (go_simp; done) | (go_simp; with_reducible rfl)))); simp only [Act.put, List.setIfInBounds_toArray, List.set_cons_zero, List.set_cons_succ]
      refine WH.done (by kernel_rfl) ?_
      have Hfin := Lib.hid (bt HwF.out hSn)
      clear hSn
      go_wp2_with fail
      go_ret
      exact ⟨rfl, Hfin.out⟩

end Go.Proofs.Ytckkdfpmibipfaa

/-
  Whatever the arguments of RollWrites are, it answers true and leaves them. No condition.
-/
namespace Go.Proofs.Ytckkdfpmibipfaa
open Go.ChangeShapes Go.WideShapes Go.ChangeAt Go.RowKit Go.ChangeMaps

set_option maxRecDepth 100000 in
theorem rollWrites_lifted (os : Os) (started : os.Started) (H : Type) (enc : TypeId × Value → H) :
    ReturnsInHanded {} Try.checked os 4 .any (Rows.rollWritesSpec.pre6 enc Try.prog Try.f4 Rows.rollWritesRow.domain false) (Rows.rollWritesSpec.post enc Try.prog Try.f4 false true false false) := by
  refine returnsInHanded_of_change (C := Try.checked) Try.own started (by kernel_rfl) Try.func4 (ChangeSpec.witness6 (enc := enc) (C := Try.checked) false ⟨#[], #[.agg (bcells (zeros 256)), .slice none 0 0, .int .i64 0], []⟩ 8 (by kernel_rfl) (by kernel_rfl) (by kernel_rfl) (by kernel_rfl)) ?_; intro W base args ds gs before hval0 hW hcnd _; have hval : ∀ (j : Nat) t v, Try.f4.params[j]? = some t → args[j]? = some v → Value.okWide Try.prog W .any base t v := hval0; have hW' := hW; obtain ⟨p, q, hA0, hV, rfl, hfz, hnd⟩ := hW; have hA : DataW.TrodAll enc Try.prog W 0 (fun _ => true) true Try.f4.params.toList args.toList ds p := hA0; rw [Try.params4] at hA hval; obtain ⟨rfl, rfl⟩ := trodVars_none hV; clear hA0 hval0
  obtain ⟨v0, v1, v2, d0, d1, d2, p0, p1, p2, rfl, rfl, rfl, h0, h1, h2⟩ := trodAll_three hA
  obtain ⟨L, rfl, hL⟩ := open_byte_array Try.underlying22 Try.underlying5 (by kernel_rfl) (by kernel_rfl) (hval 0 _ v0 rfl rfl) h0
  obtain ⟨A, n, c, l, rfl, hn, hc, hm, hr⟩ := open_changes Try.underlying23 Try.underlying56 (by kernel_rfl) Try.underlying3 (by kernel_rfl) Try.underlying3 (by kernel_rfl) rfl (by kernel_rfl) Try.underlying30 (by kernel_rfl) Try.underlying3 (by kernel_rfl) Try.underlying54 Try.underlying3 (by kernel_rfl) Try.underlying33 (by kernel_rfl) Try.underlying5 (by kernel_rfl) rfl rfl rfl rfl rfl rfl (hval 1 _ v1 rfl rfl) h1
  obtain ⟨x, rfl, rfl, rfl, _⟩ := open_int Try.underlying3 (hval 2 _ v2 rfl rfl) h2
  refine (rollWrites_any L hL A n c l hn hc hm x W hr.rd).mono fun e W' ⟨he, hb⟩ => ?_
  subst he
  exact ⟨_, rfl, law_post Try.laidOut (readable_all (by kernel_rfl)) rfl rfl Try.underlying4 rfl hW' hb⟩

theorem rollWrites_holds : Rows.RollWritesSaid := OpenClaim.holds_of_wide 4 Try.f4 rfl rfl rfl rfl rfl rfl rfl ⟨rfl, rfl, rfl, rfl, rfl⟩ rfl rfl rfl rfl rfl (by kernel_rfl) Try.func4 (by kernel_rfl) (of_decide_eq_true (by kernel_rfl)) (by unfold Func.isWrapper; first | (rw [if_pos (by decide +kernel)]; kernel_rfl) | (rw [if_neg (by decide +kernel)]; exact ⟨rfl, rfl⟩)) (fun os started H enc _ => rollWrites_lifted os started H enc)

end Go.Proofs.Ytckkdfpmibipfaa
