/-
  The contracts of the document's Much and of the law's Go (stage 12).
-/
import Derived.Test.YtknbjdldmednlaaLw12w
import Derived.Test.YtknbjdldmednlaaGrF
namespace Go.Proofs.Ytknbjdldmednlaa
open Go.RowKit

theorem Try.stepSize : (Try.prog.info? 53).map (·.size) = some 5 := by kernel_rfl
theorem Try.r07Size : (Try.prog.info? 51).map (·.size) = some 2 := by kernel_rfl
/-- Is it more than is gone through? -/
def muchS (l : List Cg) (N : Nat) : Bool := decide (N < l.length) || l.any (fun c => decide (300 < c.p.data.length) || decide (20 < c.needs.length))
theorem muchS_no {l : List Cg} {N : Nat} (h : muchS l N = false) : l.length ≤ N ∧ ∀ c ∈ l, c.p.data.length ≤ 300 ∧ c.needs.length ≤ 20 := by
  unfold muchS at h
  rw [Bool.or_eq_false_iff, decide_eq_false_iff_not, List.any_eq_false] at h
  refine ⟨by omega, fun c hc => ?_⟩
  have := h.2 c hc
  rw [Bool.or_eq_true, decide_eq_true_eq, decide_eq_true_eq] at this
  omega
set_option maxRecDepth 100000 in
set_option maxHeartbeats 1200000 in
theorem much12_any (N : Nat) (hN : N ≤ 1000) (A : Option Addr) (n c : Nat) (l : List Cg) (hn : l.length = n) (hm : n ≤ maxLen) (w : World) (hr : RdL RdC w A 5 l) :
    Calls Try.prog 19 #[.slice A n c, .int .i64 (N : Int)] w fun e w' => e = .returned (.bool (muchS l N)) ∧ w = w' := by
  unfold maxLen at hm
  have Hn := Lib.hid hn
  have Hr := Lib.hid hr
  clear hn hr
  by_cases h20 : n ≤ N
  · have d0 : decide (N < n) = false := by simp; omega
    have Hd := Lib.hid (show muchS l N = l.any (fun c => decide (300 < c.p.data.length) || decide (20 < c.needs.length)) by unfold muchS; rw [decide_eq_false (by rw [Hn.out]; omega), Bool.false_or])
    go_enter Try.func19, Try.ntmps19
    go_wp2_with fail
    go_loop [5] (fun i => ∃ k : Nat, k ≤ n ∧ i = .int .i64 k ∧ ∀ j (h : j < l.length), j < k → (decide (300 < l[j].p.data.length) || decide (20 < l[j].needs.length)) = false) (fun i => n - (intOf i).toNat)
    case atStart => exact ⟨0, Nat.zero_le _, rfl, fun j _ h => absurd h (Nat.not_lt_zero _)⟩
    case round =>
      obtain ⟨k, hk, rfl, hno⟩ := hrel
      have Hno := Lib.hid hno
      clear hno
      by_cases hlt : k < n
      · have d1 : decide ((k : Int) < n) = true := by simpa using hlt
        have hkl : k < l.length := by rw [Hn.out]; exact hlt
        obtain ⟨ad, Ad, nd, cd, An, nn, cn, rfl, hcv, h0, h1, h2, h3, h4⟩ := Hr.out.cg hkl
        have c3 := cell_fld h0 h3
        have c4 := cell_fld h0 h4
        have L3 := Lib.hid hcv.p.len
        have L4 := Lib.hid hcv.len
        clear h0 h1 h2 h3 h4 hcv
        by_cases g1 : 300 < nd
        · have e1 : decide ((300 : Int) < nd) = true := by simp; omega
          have Ha := Lib.hid (show l.any (fun c => decide (300 < c.p.data.length) || decide (20 < c.needs.length)) = true from List.any_eq_true.2 ⟨l[k], List.getElem_mem hkl, by rw [L3.out, decide_eq_true g1]; rfl⟩)
          clear g1
          go_wp2_with fail
          go_ret
          rw [Hd.out, Ha.out]
          exact ⟨rfl, rfl⟩
        · have e1 : decide ((300 : Int) < nd) = false := by simp; omega
          by_cases g2 : 20 < nn
          · have e2 : decide ((20 : Int) < nn) = true := by simp; omega
            have Ha := Lib.hid (show l.any (fun c => decide (300 < c.p.data.length) || decide (20 < c.needs.length)) = true from List.any_eq_true.2 ⟨l[k], List.getElem_mem hkl, by rw [L4.out, decide_eq_true g2, Bool.or_true]⟩)
            clear g1 g2
            go_wp2_with fail
            go_ret
            rw [Hd.out, Ha.out]
            exact ⟨rfl, rfl⟩
          · have e2 : decide ((20 : Int) < nn) = false := by simp; omega
            have Ha := Lib.hid (show (decide (300 < l[k].p.data.length) || decide (20 < l[k].needs.length)) = false by rw [L3.out, L4.out, decide_eq_false g1, decide_eq_false g2]; rfl)
            clear g1 g2
            go_wp2_with fail
            refine ⟨⟨k + 1, by omega, by go_num, fun j hj hjk => ?_⟩, by simp [intOf]; omega⟩
            by_cases h : j = k
            · subst h
              exact Ha.out
            · exact Hno.out j hj (by omega)
      · have d1 : decide ((k : Int) < n) = false := by simpa using hlt
        have Ha := Lib.hid (show l.any (fun c => decide (300 < c.p.data.length) || decide (20 < c.needs.length)) = false from List.any_eq_false.2 fun p hp => by
          obtain ⟨j, hj, rfl⟩ := List.getElem_of_mem hp
          rw [Hno.out j hj (by have := Hn.out; omega)]
          simp)
        go_wp2_with fail
        go_ret
        rw [Hd.out, Ha.out]
        exact ⟨rfl, rfl⟩
  · have d0 : decide (N < n) = true := by simp; omega
    have Hd := Lib.hid (show muchS l N = true by unfold muchS; rw [decide_eq_true (by rw [Hn.out]; omega), Bool.true_or])
    go_enter Try.func19, Try.ntmps19
    go_wp2_with fail
    go_ret
    rw [Hd.out]
    exact ⟨rfl, rfl⟩
/-- A step. -/
def stOf (c : Cg) : StC := ⟨c.id, c.block, c.p, c.needs⟩
set_option maxRecDepth 100000 in
set_option maxHeartbeats 8000000 in
theorem go12_any {w : World} {ro : Nat → Option Rl} {c b g : Nat} {x : DC} {T : Nat} (h : Cch w ro c b g x T) (hT : T ≤ 900) (s : Cg) (Ad : Option Addr) (nd cd : Nat) (An : Option Addr) (nn cn : Nat) (hs : CV w s Ad nd cd An nn cn) (hnd : nd ≤ 300) (hnn : nn ≤ 20) (hfn : 0 < nn → ∀ ad, An = some ad → ro ad.block = none) :
    Calls Try.prog 20 #[.pointer (some ⟨c, 0, none⟩), .pointer (some ⟨b, 0, none⟩), .agg #[.int .i64 s.id, .int .i64 s.block, .int .i64 s.p.at_, .slice Ad nd cd, .slice An nn cn]] w fun e w' => e = .returned (.tuple #[.int .i64 (x.go (stOf s)).2.1, .int .i64 (x.go (stOf s)).2.2]) ∧ ∃ ro', Cch w' ro' c b g (x.go (stOf s)).1 (T + 1) ∧ Tr ro ro' w w' := by
  have C0 := Lib.hid h
  have V0 := Lib.hid hs
  have Hfn := Lib.hid hfn
  clear h hs hfn
  go_enter Try.func20, Try.ntmps20
  go_wp2_with (refine wpList_box_row rfl _ _ rfl _ rfl ?_)
  apply Stop.go; intro w1 Hg1 Hb1
  have C1 := Lib.hid (C0.out.ext Hg1.out.1)
  have T1 := Lib.hid (Tr.of_below ro Hg1.out.1)
  have V1 := Lib.hid (V0.out.below Hg1.out.1)
  obtain ⟨gs, hgs⟩ : ∃ q, q = w.heap.size := ⟨_, rfl⟩
  rw [← hgs] at Hb1 ⊢
  have N1 := Lib.hid (C0.out.none_ge (q := gs) (by omega))
  have c0 : w1.cell? ⟨gs, 0, none⟩ = some (.int .i64 s.id) := Hb1.out.cell 0
  have c1 : w1.cell? ⟨gs, 1, none⟩ = some (.int .i64 s.block) := Hb1.out.cell 1
  have lo := V1.out.lo1
  have hi := V1.out.hi1
  clear hgs C0 V0 Hg1
  by_cases d0 : s.id = 0
  · have e0 : (s.id == 0) = true := by simp [d0]
    have Hd0 := Lib.hid d0
    clear d0
    go_wp2_with fail
    refine WH.start (S := fun w' : World => Blk w' gs 53 #[.int .i64 s.id, .int .i64 s.block, .int .i64 s.p.at_, .slice Ad nd cd, .slice An nn cn]) [false, false, false, false, false, false, false, false, false, false, false, false, false, false] 14 rfl rfl (by kernel_rfl) (Hb1.out.ext (bdrew w1 1)) (fun hSn => ?_)
    obtain ⟨wS, hwS⟩ : ∃ x, w1.drew = x := ⟨_, rfl⟩
    have CS := Lib.hid (C1.out.ext (bdrew w1 1))
    have TS := Lib.hid (T1.out.bel (bdrew w1 1))
    have VS := Lib.hid (V1.out.below (bdrew w1 1))
    rw [show w1.drewN 1 = wS from hwS] at CS TS VS
    rw [hwS] at hSn ⊢
    clear hwS C1 T1 V1 Hb1
    refine WH.take 0 _ ?_ rfl (by kernel_rfl) (fun _ _ _ h => h) rfl (by assumption) ?_ ?_; rotate_left; (focus (intro w hSw; (try dsimp only at hSw); (first | (go_simp; done) | (go_simp; with_reducible rfl)))); simp only [Act.put, List.setIfInBounds_toArray, List.set_cons_zero, List.set_cons_succ]
    refine WH.take 1 _ ?_ rfl (by kernel_rfl) (fun _ _ _ h => h) rfl (by assumption) ?_ ?_; rotate_left; (focus (intro w hSw; (try dsimp only at hSw); (first | (go_simp; done) | (go_simp; with_reducible rfl)))); simp only [Act.put, List.setIfInBounds_toArray, List.set_cons_zero, List.set_cons_succ]
    refine WH.take 2 _ _ rfl (by kernel_rfl) (fun _ _ _ h => h) rfl (by assumption) (fun w' hSw => exec_load_cell _ _ rfl _ rfl (.int .i64 s.block) (hSw.cell 1) _ (Try.underlying3) rfl) ?_; simp only [Act.put, List.setIfInBounds_toArray, List.set_cons_zero, List.set_cons_succ]
    refine WH.take 3 _ ?_ rfl (by kernel_rfl) (fun _ _ _ h => h) rfl (by assumption) ?_ ?_; rotate_left; (focus (intro w hSw; (try dsimp only at hSw); (first | (go_simp; done) | (go_simp; with_reducible rfl)))); simp only [Act.put, List.setIfInBounds_toArray, List.set_cons_zero, List.set_cons_succ]
    refine WH.take 4 _ _ rfl (by kernel_rfl) (fun _ _ _ h => h) rfl (by assumption) (fun w' hSw => exec_load_part _ _ rfl gs 2 rfl [.int .i64 s.p.at_, .slice Ad nd cd] _ _ hSw (fun j hj => by match j, hj with | 0, _ => rfl | 1, _ => rfl) _ Try.underlying51 rfl Try.r07Size) ?_; simp only [Act.put, List.setIfInBounds_toArray, List.set_cons_zero, List.set_cons_succ]
    refine WH.take 6 _ ?_ rfl (by kernel_rfl) (fun _ _ _ h => h) rfl (by assumption) ?_ ?_; rotate_left; (focus (intro w hSw; (try dsimp only at hSw); (first | (go_simp; done) | (go_simp; with_reducible rfl)))); simp only [Act.put, List.setIfInBounds_toArray, List.set_cons_zero, List.set_cons_succ]
    refine WH.take 7 _ _ rfl (by kernel_rfl) (fun _ _ _ h => h) rfl (by assumption) (fun w' hSw => exec_load_cell _ _ rfl _ rfl (.slice An nn cn) (hSw.cell 4) _ (Try.underlying38) rfl) ?_; simp only [Act.put, List.setIfInBounds_toArray, List.set_cons_zero, List.set_cons_succ]
    have CT := to_any s.p Ad nd cd wS VS.out.p (by omega)
    refine WH.only 5 _ rfl (by kernel_rfl) rfl (fun K hK => ?_); go_simp; refine (CT).mono ?_; rintro e w3 ⟨g3, n3, c3, rfl, hp3, hb3, hg3⟩; go_simp
    have C3 := Lib.hid (CS.out.ext hb3)
    have T3 := Lib.hid (TS.out.bel hb3)
    have V3 := Lib.hid (VS.out.below hb3)
    have P3 := Lib.hid hp3
    have G3 := Lib.hid (CS.out.none_ge hg3)
    have B3 := Lib.hid (hSn.ext hb3)
    clear hp3 hb3 hg3 CS TS VS CT
    have hSn := B3.out; refine hK _ _ hSn ?_; clear hK; clear K; simp only [List.set_cons_zero, List.set_cons_succ]
    have CP := c_put C3.out (by omega) s.block V3.out.lo1 V3.out.hi1 s.p (some ⟨g3, 0, none⟩) n3 c3 P3.out An nn cn s.needs V3.out.len (by omega) V3.out.read V3.out.nb (fun ad e => by injection e with e; subst e; exact G3.out) Hfn.out
    refine WH.only 8 _ rfl (by kernel_rfl) rfl (fun K hK => ?_); go_simp; refine (CP).mono ?_; rintro e w4 ⟨rfl, ro4, hc4, ht4⟩; go_simp
    have C4 := Lib.hid hc4
    have T4 := Lib.hid (T3.out.trans ht4)
    have B4 := Lib.hid (B3.out.tr ht4 N1.out)
    clear hc4 ht4 CP
    have hSn := B4.out; refine hK _ _ hSn ?_; clear hK; clear K; simp only [List.set_cons_zero, List.set_cons_succ]
    refine WH.take 9 _ ?_ rfl (by kernel_rfl) (fun _ _ _ h => h) rfl (by assumption) ?_ ?_; rotate_left; (focus (intro w hSw; (try dsimp only at hSw); (first | (go_simp; done) | (go_simp; with_reducible rfl)))); simp only [Act.put, List.setIfInBounds_toArray, List.set_cons_zero, List.set_cons_succ]
    refine WH.take 10 _ ?_ rfl (by kernel_rfl) (fun _ _ _ h => h) rfl (by assumption) ?_ ?_; rotate_left; (focus (intro w hSw; (try dsimp only at hSw); (first | (go_simp; done) | (go_simp; with_reducible rfl)))); simp only [Act.put, List.setIfInBounds_toArray, List.set_cons_zero, List.set_cons_succ]
    refine WH.take 11 _ ?_ rfl (by kernel_rfl) (fun _ _ _ h => h) rfl (by assumption) ?_ ?_; rotate_left; (focus (intro w hSw; (try dsimp only at hSw); (first | (go_simp; done) | (go_simp; with_reducible rfl)))); simp only [Act.put, List.setIfInBounds_toArray, List.set_cons_zero, List.set_cons_succ]
    refine WH.take 12 _ ?_ rfl (by kernel_rfl) (fun _ _ _ h => h) rfl (by assumption) ?_ ?_; rotate_left; (focus (intro w hSw; (try dsimp only at hSw); (first | (go_simp; done) | (go_simp; with_reducible rfl)))); simp only [Act.put, List.setIfInBounds_toArray, List.set_cons_zero, List.set_cons_succ]
    refine WH.take 13 _ ?_ rfl (by kernel_rfl) (fun _ _ _ h => h) rfl (by assumption) ?_ ?_; rotate_left; (focus (intro w hSw; (try dsimp only at hSw); (first | (go_simp; done) | (go_simp; with_reducible rfl)))); simp only [Act.put, List.setIfInBounds_toArray, List.set_cons_zero, List.set_cons_succ]
    refine WH.done (by kernel_rfl) ?_
    have HX := Lib.hid (show x.go (stOf s) = (x.put ⟨0, s.block, s.p, s.needs⟩, x.putN ⟨0, s.block, s.p, s.needs⟩, x.putE ⟨0, s.block, s.p, s.needs⟩) from by
      unfold DC.go
      rw [if_pos (show (stOf s).do_ = 0 from Hd0.out)]
      unfold stOf
      rw [Hd0.out])
    go_wp2_with fail
    go_ret2
    rw [HX.out]
    exact ⟨rfl, ro4, C4.out, T4.out⟩
  · have e0 : (s.id == 0) = false := by simpa using d0
    have Hd0 := Lib.hid d0
    clear d0
    by_cases d1 : s.id = 1
    · have e1 : (s.id == 1) = true := by simp [d1]
      have HX := Lib.hid (show x.go (stOf s) = (x.flush s.block, 0, x.flushE s.block) from by
        unfold DC.go
        rw [if_neg (show ¬ (stOf s).do_ = 0 from Hd0.out), if_pos (show (stOf s).do_ = 1 from d1)]
        rfl)
      clear d1
      go_wp2_with fail
      refine (c_flush C1.out (by omega) s.block lo hi).mono ?_; rintro e w2 ⟨rfl, ro2, hc2, ht2⟩
      have C2 := Lib.hid (hc2.mono (Nat.le_succ T))
      have T2 := Lib.hid (T1.out.trans ht2)
      have B2 := Lib.hid (Hb1.out.tr ht2 N1.out)
      have c0 : w2.cell? ⟨gs, 0, none⟩ = some (.int .i64 s.id) := B2.out.cell 0
      clear hc2 ht2
      go_wp2_with fail
      go_ret2
      rw [HX.out]
      exact ⟨rfl, ro2, C2.out, T2.out⟩
    · have e1 : (s.id == 1) = false := by simpa using d1
      have Hd1 := Lib.hid d1
      clear d1
      by_cases d2 : s.id = 2
      · have e2 : (s.id == 2) = true := by simp [d2]
        have HX := Lib.hid (show x.go (stOf s) = ((x.upto s.block).1, 0, (x.upto s.block).2) from by
          unfold DC.go
          rw [if_neg (show ¬ (stOf s).do_ = 0 from Hd0.out), if_neg (show ¬ (stOf s).do_ = 1 from Hd1.out), if_pos (show (stOf s).do_ = 2 from d2)]
          rfl)
        clear d2
        go_wp2_with fail
        refine (c_upto C1.out (by omega) s.block lo hi).mono ?_; rintro e w2 ⟨rfl, ro2, hc2, ht2⟩
        have C2 := Lib.hid (hc2.mono (Nat.le_succ T))
        have T2 := Lib.hid (T1.out.trans ht2)
        have B2 := Lib.hid (Hb1.out.tr ht2 N1.out)
        have c0 : w2.cell? ⟨gs, 0, none⟩ = some (.int .i64 s.id) := B2.out.cell 0
        clear hc2 ht2
        go_wp2_with fail
        go_ret2
        rw [HX.out]
        exact ⟨rfl, ro2, C2.out, T2.out⟩
      · have e2 : (s.id == 2) = false := by simpa using d2
        have Hd2 := Lib.hid d2
        clear d2
        by_cases d3 : s.id = 3
        · have e3 : (s.id == 3) = true := by simp [d3]
          have HX := Lib.hid (show x.go (stOf s) = ((x.upto (x.last : Int)).1, 0, (x.upto (x.last : Int)).2) from by
            unfold DC.go
            rw [if_neg (show ¬ (stOf s).do_ = 0 from Hd0.out), if_neg (show ¬ (stOf s).do_ = 1 from Hd1.out), if_neg (show ¬ (stOf s).do_ = 2 from Hd2.out), if_pos (show (stOf s).do_ = 3 from d3)])
          clear d3
          go_wp2_with fail
          refine (c_sync C1.out (by omega)).mono ?_; rintro e w2 ⟨rfl, ro2, hc2, ht2⟩
          have C2 := Lib.hid (hc2.mono (Nat.le_succ T))
          have T2 := Lib.hid (T1.out.trans ht2)
          have B2 := Lib.hid (Hb1.out.tr ht2 N1.out)
          have c0 : w2.cell? ⟨gs, 0, none⟩ = some (.int .i64 s.id) := B2.out.cell 0
          clear hc2 ht2
          go_wp2_with fail
          go_ret2
          rw [HX.out]
          exact ⟨rfl, ro2, C2.out, T2.out⟩
        · have e3 : (s.id == 3) = false := by simpa using d3
          have Hd3 := Lib.hid d3
          clear d3
          by_cases d4 : s.id = 4
          · have e4 : (s.id == 4) = true := by simp [d4]
            have HX := Lib.hid (show x.go (stOf s) = (x.setFuse s.block, 0, 0) from by
              unfold DC.go
              rw [if_neg (show ¬ (stOf s).do_ = 0 from Hd0.out), if_neg (show ¬ (stOf s).do_ = 1 from Hd1.out), if_neg (show ¬ (stOf s).do_ = 2 from Hd2.out), if_neg (show ¬ (stOf s).do_ = 3 from Hd3.out), if_pos (show (stOf s).do_ = 4 from d4)]
              rfl)
            clear d4
            go_wp2_with fail
            refine (c_fuse C1.out s.block hi).mono ?_; rintro e w2 ⟨rfl, hc2, ht2⟩
            have C2 := Lib.hid (hc2.mono (Nat.le_succ T))
            have T2 := Lib.hid (T1.out.trans ht2)
            have B2 := Lib.hid (Hb1.out.tr ht2 N1.out)
            have c0 : w2.cell? ⟨gs, 0, none⟩ = some (.int .i64 s.id) := B2.out.cell 0
            clear hc2 ht2
            go_wp2_with fail
            go_ret2
            rw [HX.out]
            exact ⟨rfl, ro, C2.out, T2.out⟩
          · have e4 : (s.id == 4) = false := by simpa using d4
            have Hd4 := Lib.hid d4
            clear d4
            by_cases d5 : s.id = 5
            · have e5 : (s.id == 5) = true := by simp [d5]
              have HX := Lib.hid (show x.go (stOf s) = (x.up, 0, 0) from by
                unfold DC.go
                rw [if_neg (show ¬ (stOf s).do_ = 0 from Hd0.out), if_neg (show ¬ (stOf s).do_ = 1 from Hd1.out), if_neg (show ¬ (stOf s).do_ = 2 from Hd2.out), if_neg (show ¬ (stOf s).do_ = 3 from Hd3.out), if_neg (show ¬ (stOf s).do_ = 4 from Hd4.out), if_pos (show (stOf s).do_ = 5 from d5)])
              clear d5
              go_wp2_with fail
              refine (c_up C1.out).mono ?_; rintro e w2 ⟨rfl, hc2, ht2⟩
              have C2 := Lib.hid (hc2.mono (Nat.le_succ T))
              have T2 := Lib.hid (T1.out.trans ht2)
              clear hc2 ht2
              go_wp2_with fail
              go_ret2
              rw [HX.out]
              exact ⟨rfl, ro, C2.out, T2.out⟩
            · have e5 : (s.id == 5) = false := by simpa using d5
              have HX := Lib.hid (show x.go (stOf s) = (x, 0, 0) from by
                unfold DC.go
                rw [if_neg (show ¬ (stOf s).do_ = 0 from Hd0.out), if_neg (show ¬ (stOf s).do_ = 1 from Hd1.out), if_neg (show ¬ (stOf s).do_ = 2 from Hd2.out), if_neg (show ¬ (stOf s).do_ = 3 from Hd3.out), if_neg (show ¬ (stOf s).do_ = 4 from Hd4.out), if_neg (show ¬ (stOf s).do_ = 5 from d5)])
              clear d5
              go_wp2_with fail
              go_ret2
              rw [HX.out]
              exact ⟨rfl, ro, C1.out.mono (Nat.le_succ T), T1.out⟩

end Go.Proofs.Ytknbjdldmednlaa
