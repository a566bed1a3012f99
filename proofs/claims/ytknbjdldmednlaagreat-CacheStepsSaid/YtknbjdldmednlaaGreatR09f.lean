/-
  Contracts of the document's answer 09: Of, Without, Same, SameAll.
-/
import Derived.Test.YtknbjdldmednlaaGreatGrR
import Derived.Test.YtknbjdldmednlaaGreatGrN
import Derived.Test.YtknbjdldmednlaaGreatInts
namespace Go.Proofs.YtknbjdldmednlaaGreat
open Go.RowKit



set_option maxRecDepth 100000 in
set_option maxHeartbeats 4000000 in
/-- Two that read as one change are told the same. -/
theorem rsame9_any (c : Cg) (Ad : Option Addr) (nd cd : Nat) (An : Option Addr) (nn cn : Nat) (Ae : Option Addr) (ne ce : Nat) (Am : Option Addr) (nm cm : Nat) (w : World) (hc : CV w c Ad nd cd An nn cn) (hd : CV w c Ae ne ce Am nm cm) :
    Calls Tryz.prog 35 #[.agg #[.int .i64 c.id, .int .i64 c.block, .int .i64 c.p.at_, .slice Ad nd cd, .slice An nn cn], .agg #[.int .i64 c.id, .int .i64 c.block, .int .i64 c.p.at_, .slice Ae ne ce, .slice Am nm cm]] w fun e w' => e = .returned (.bool true) ∧ Below w.heap.size w w' := by
  have Hc := Lib.hid hc
  have Hd := Lib.hid hd
  clear hc hd
  go_enter Tryz.func35, Tryz.ntmps35
  go_wp2_with (refine wpList_box_row rfl _ _ rfl _ rfl ?_)
  apply Stop.go; intro w1 Hg1 Hb1
  go_wp2_with (refine wpList_box_row rfl _ _ rfl _ rfl ?_)
  apply Stop.go; intro w2 Hg2 Hb2
  have Hw2 := Lib.hid (bt Hg1.out.1 Hg2.out.1)
  have Hx2 := Lib.hid (Hb1.out.ext Hg2.out.1)
  have c0 : w2.cell? ⟨w.heap.size, 0, none⟩ = some (.int .i64 c.id) := Hx2.out.five.1
  have c1 : w2.cell? ⟨w.heap.size, 1, none⟩ = some (.int .i64 c.block) := Hx2.out.five.2.1
  have c2 : w2.cell? ⟨w1.heap.size, 0, none⟩ = some (.int .i64 c.id) := Hb2.out.five.1
  have c3 : w2.cell? ⟨w1.heap.size, 1, none⟩ = some (.int .i64 c.block) := Hb2.out.five.2.1
  go_wp2_with (first | refine wpList_load_pair rfl _ _ rfl ⟨w.heap.size, 2, none⟩ rfl (.int .i64 c.p.at_) (.slice Ad nd cd) Hx2.out.five.2.2.1 Hx2.out.five.2.2.2.2.2 _ Tryz.underlying39 Tryz.rpatchSize ?_ | refine wpList_load_pair rfl _ _ rfl ⟨w1.heap.size, 2, none⟩ rfl (.int .i64 c.p.at_) (.slice Ae ne ce) Hb2.out.five.2.2.1 Hb2.out.five.2.2.2.2.2 _ Tryz.underlying39 Tryz.rpatchSize ?_)
  refine (rsamep_any c.p Ad nd cd c.p Ae ne ce _ (Hc.out.p.below Hw2.out) (Hd.out.p.below Hw2.out)).mono ?_; rintro e w3 ⟨rfl, hb3⟩
  rw [sameP_self]
  have Hb3 := Lib.hid hb3
  have c4 : w3.cell? ⟨w.heap.size, 4, none⟩ = some (.slice An nn cn) := (Hx2.out.ext hb3).five.2.2.2.2.1
  have c5 : w3.cell? ⟨w1.heap.size, 4, none⟩ = some (.slice Am nm cm) := (Hb2.out.ext hb3).five.2.2.2.2.1
  have Hw3 := Lib.hid (bt Hw2.out hb3)
  clear hb3 c0 c1 c2 c3
  go_wp2_with fail
  refine (ints_any An nn cn c.needs Hc.out.len Am nm cm c.needs Hd.out.len (Nat.le_trans Hc.out.cap Hc.out.max) (Nat.le_trans Hd.out.cap Hd.out.max) _ (Hc.out.read.below Hw3.out) (Hd.out.read.below Hw3.out)).mono ?_; rintro e w4 ⟨rfl, q4, rfl⟩
  rw [decide_eq_true rfl]
  have Hw4 := Lib.hid (bt Hw3.out (bdrew w3 q4))
  generalize w3.drewN q4 = w4 at *
  clear c4 c5
  go_wp2_with fail
  go_ret
  exact ⟨rfl, Hw4.out⟩

set_option maxRecDepth 100000 in
set_option maxHeartbeats 4000000 in
theorem rsameAll9_any (A : Option Addr) (n c : Nat) (A' : Option Addr) (c' : Nat) (l : List Cg) (hn : l.length = n) (hm : n ≤ 4096) (w : World) (hr : RdL RdC w A 5 l) (hr' : RdL RdC w A' 5 l) :
    Calls Tryz.prog 14 #[.slice A n c, .slice A' n c'] w fun e w' => e = .returned (.bool true) ∧ Below w.heap.size w w' := by
  have Hn := Lib.hid hn
  have Hr := Lib.hid hr
  have Hr' := Lib.hid hr'
  clear hn hr hr'
  have hb : ((n : Int) != (n : Int)) = false := by simp
  go_enter Tryz.func14, Tryz.ntmps14
  go_wp2_with fail
  go_loopw [5] (fun i wr => ∃ k : Nat, k ≤ n ∧ i = .int .i64 k ∧ Below w.heap.size w wr) (fun i _ => n - (intOf i).toNat)
  case atStart => exact ⟨0, Nat.zero_le _, rfl, Below.refl _ _⟩
  case round =>
    obtain ⟨k, hk, rfl, hbw⟩ := hrel
    have Hbw := Lib.hid hbw
    clear hbw
    by_cases hlt : k < n
    · have d0 : decide ((k : Int) < n) = true := by simpa using hlt
      have hkl : k < l.length := by rw [Hn.out]; exact hlt
      have z1 : (k : Int) < n := by omega
      obtain ⟨ad, Ad, nd, cd, An, nn, cn, rfl, hcv, h0, h1, h2, h3, h4⟩ := (Hr.out.below Hbw.out).cg hkl
      obtain ⟨ad', Ae, ne, ce, Am, nm, cm, rfl, hdv, h0', h1', h2', h3', h4'⟩ := (Hr'.out.below Hbw.out).cg hkl
      have C0 := Lib.hid h0
      have C1 := Lib.hid h1
      have C2 := Lib.hid h2
      have C3 := Lib.hid h3
      have C4 := Lib.hid h4
      have D0 := Lib.hid h0'
      have D1 := Lib.hid h1'
      have D2 := Lib.hid h2'
      have D3 := Lib.hid h3'
      have D4 := Lib.hid h4'
      have Hcv := Lib.hid hcv
      have Hdv := Lib.hid hdv
      clear h0 h1 h2 h3 h4 h0' h1' h2' h3' h4' hcv hdv
      generalize l[k] = c at *
      go_wp2_with fail
      refine WH.start (S := fun w' : World => Below wr.heap.size wr w') (List.replicate 10 false) 10 rfl rfl (by kernel_rfl) (bdrew wr 1) (fun hSn => ?_)
      simp only [List.replicate]
      refine WH.take 0 _ ?_ rfl (by kernel_rfl) (fun _ _ _ h => h) rfl (by assumption) ?_ ?_; rotate_left; (focus (intro w hSw; (try dsimp only at hSw); (first | (go_simp; done) | (go_simp; with_reducible rfl)))); simp only [Act.put, List.setIfInBounds_toArray, List.set_cons_zero, List.set_cons_succ]
      refine WH.take 1 _ ?_ rfl (by kernel_rfl) (fun _ _ _ h => h) rfl (by assumption) ?_ ?_; rotate_left; (focus (intro w hSw; (try dsimp only at hSw); (first | (go_simp; done) | (go_simp; with_reducible rfl)))); simp only [Act.put, List.setIfInBounds_toArray, List.set_cons_zero, List.set_cons_succ]
      refine WH.take 2 _ ?_ rfl (by kernel_rfl) (fun _ _ _ h => h) rfl (by assumption) ?_ ?_; rotate_left; (focus (intro w hSw; (try dsimp only at hSw); (first | (go_simp; done) | (go_simp; with_reducible rfl)))); simp only [Act.put, List.setIfInBounds_toArray, List.set_cons_zero, List.set_cons_succ]
      refine WH.take 3 _ _ rfl (by kernel_rfl) (fun _ _ _ h => h) rfl (by assumption) (fun w' hSw => exec_load_five _ _ rfl (ad.add (k * 5)) rfl _ _ _ _ _ ((hSw.cell (block_lt_of_cell C0.out)).trans C0.out) ((hSw.cell (block_lt_of_cell C1.out)).trans C1.out) ((hSw.cell (block_lt_of_cell C2.out)).trans C2.out) ((hSw.cell (block_lt_of_cell C3.out)).trans C3.out) ((hSw.cell (block_lt_of_cell C4.out)).trans C4.out) _ Tryz.underlying81 Tryz.rchgSize) ?_; simp only [Act.put, List.setIfInBounds_toArray, List.set_cons_zero, List.set_cons_succ]
      refine WH.take 4 _ ?_ rfl (by kernel_rfl) (fun _ _ _ h => h) rfl (by assumption) ?_ ?_; rotate_left; (focus (intro w hSw; (try dsimp only at hSw); (first | (go_simp; done) | (go_simp; with_reducible rfl)))); simp only [Act.put, List.setIfInBounds_toArray, List.set_cons_zero, List.set_cons_succ]
      refine WH.take 5 _ ?_ rfl (by kernel_rfl) (fun _ _ _ h => h) rfl (by assumption) ?_ ?_; rotate_left; (focus (intro w hSw; (try dsimp only at hSw); (first | (go_simp; done) | (go_simp; with_reducible rfl)))); simp only [Act.put, List.setIfInBounds_toArray, List.set_cons_zero, List.set_cons_succ]
      refine WH.take 6 _ ?_ rfl (by kernel_rfl) (fun _ _ _ h => h) rfl (by assumption) ?_ ?_; rotate_left; (focus (intro w hSw; (try dsimp only at hSw); (first | (go_simp; done) | (go_simp; with_reducible rfl)))); simp only [Act.put, List.setIfInBounds_toArray, List.set_cons_zero, List.set_cons_succ]
      refine WH.take 7 _ _ rfl (by kernel_rfl) (fun _ _ _ h => h) rfl (by assumption) (fun w' hSw => exec_load_five _ _ rfl (ad'.add (k * 5)) rfl _ _ _ _ _ ((hSw.cell (block_lt_of_cell D0.out)).trans D0.out) ((hSw.cell (block_lt_of_cell D1.out)).trans D1.out) ((hSw.cell (block_lt_of_cell D2.out)).trans D2.out) ((hSw.cell (block_lt_of_cell D3.out)).trans D3.out) ((hSw.cell (block_lt_of_cell D4.out)).trans D4.out) _ Tryz.underlying81 Tryz.rchgSize) ?_; simp only [Act.put, List.setIfInBounds_toArray, List.set_cons_zero, List.set_cons_succ]
      refine WH.only 8 _ rfl (by kernel_rfl) rfl (fun K hK => ?_); go_simp; refine (rsame9_any c Ad nd cd An nn cn Ae ne ce Am nm cm _ (Hcv.out.below hSn) (Hdv.out.below hSn)).mono ?_; rintro e w3 ⟨rfl, hb3⟩; go_simp
      have hSn := bt hSn hb3; refine hK _ _ hSn ?_; clear hK; clear K; simp only [List.set_cons_zero, List.set_cons_succ]
      refine WH.take 9 _ ?_ rfl (by kernel_rfl) (fun _ _ _ h => h) rfl (by assumption) ?_ ?_; rotate_left; (focus (intro w hSw; (try dsimp only at hSw); (first | (go_simp; done) | (go_simp; with_reducible rfl)))); simp only [Act.put, List.setIfInBounds_toArray, List.set_cons_zero, List.set_cons_succ]
      refine WH.done (by kernel_rfl) ?_
      have Hb3 := Lib.hid (bt Hbw.out hSn)
      clear hSn hb3
      go_wp2_with fail
      go_roundw
      case rel => exact ⟨k + 1, by omega, by go_num, Hb3.out⟩
      case measure => simp [intOf]; omega
    · have d0 : decide ((k : Int) < n) = false := by simpa using hlt
      go_wp2_with fail
      go_ret
      exact ⟨rfl, Hbw.out⟩

end Go.Proofs.YtknbjdldmednlaaGreat
