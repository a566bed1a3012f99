/-
  Texts of this claim joined: RealD, RealO, LwB, Lw12w, Law12g, Lw9b.
-/
import Derived.Test.YtpmbpklbiocclaaGreatGrAY
import Derived.Test.YtpmbpklbiocclaaGreatGrAX
import Derived.Test.YtpmbpklbiocclaaGreatGrAF
import Derived.Test.YtpmbpklbiocclaaGreatGrAG
import Derived.Test.YtpmbpklbiocclaaGreatGrAU
import Derived.Test.YtpmbpklbiocclaaGreatGrAO

/-
  Quotients are numbers, a number less itself is nought, one by a nought. Plain arithmetic; no program is named here.
-/
namespace Go.Proofs.YtpmbpklbiocclaaGreat
open Ieee



end Go.Proofs.YtpmbpklbiocclaaGreat

/-
  Where the numbers of a list stand, and how the order tells of it. Plain; no program is named here.
-/
namespace Go.Proofs.YtpmbpklbiocclaaGreat

theorem ordN_nonpos (x y : Nat) : decide (ordN x y ≤ 0) = decide (keyN x ≤ keyN y) := by
  unfold ordN cmpI
  rw [Bool.eq_iff_iff]
  simp only [decide_eq_true_eq]
  repeat' split
  all_goals omega
theorem ordN_nonneg (x y : Nat) : decide (0 ≤ ordN x y) = decide (keyN y ≤ keyN x) := by
  unfold ordN cmpI
  rw [Bool.eq_iff_iff]
  simp only [decide_eq_true_eq]
  repeat' split
  all_goals omega

end Go.Proofs.YtpmbpklbiocclaaGreat

/-
  Laws on slices that are built of a few values, and of a few structs. Plain; no program is named here. Cut out of the texts on a law's works.
-/
namespace Go.Proofs.YtpmbpklbiocclaaGreat
open Go.RowKit

section
variable {P : Program} {ops : Array Oper} {rest : List Oper} {o : Oper} {a : Act} {w : World} {K : Act → World → Prop} {Q : Exit → Act → World → Prop}
theorem wpList_build_one1 (hgd : Region.wanted o (yielded ops a.tmps) = true) (t e : TypeId) (x : Operand) (ho : o.op = .buildSlice t 1 #[(0, x)]) (ht : P.underlying t = some (.slice e)) (by_ : Nat) (z : Value) (hi : (P.info? e).map (fun i => (i.zero, i.size, i.bytes)) = some (some z, 1, by_))
    (v : Value) (hx : a.eval x = v) (hv : v.cells = #[v]) (_ : z.cells = #[z])
    (h : Stop (∀ w', Hid (Grew w w') → Hid (Blk w' w.heap.size e #[v]) → wpList P ops Q rest (a.put o.dst (.slice (some ⟨w.heap.size, 0, none⟩) 1 1)) w')) : wpList P ops Q (o :: rest) a w := by
  refine wpList_wanted hgd fun K hK => ?_
  obtain ⟨i, h1, h2, h3, h4⟩ := info_parts hi
  have hf : Instr.fill (fun j => some (j * 1, 1)) ((Array.range (1 * 1)).map (z.cells[· % z.cells.size]!)) [(0, v)] = some #[v] := by
    have hsz : ((Array.range (1 * 1)).map (z.cells[· % z.cells.size]!)).size = 1 := by simp
    generalize (Array.range (1 * 1)).map (z.cells[· % z.cells.size]!) = cc at hsz
    obtain ⟨l⟩ := cc
    match l, hsz with
    | [c], _ => simp [Instr.fill, hv]
  have hr := run_buildSlice (P := P) w t e 1 #[(0, v)] #[v] i z ht h1 h2 (by omega) (by omega) (by rw [h3]; exact hf)
  unfold Oper.wp execOp
  simp only [ho, hx, Sem.run_bind, List.map_toArray, List.map_cons, List.map_nil, hr, Result.andThen_ok]
  exact hK _ _ (h _ (Grew.alloc w _) (Blk.new w e _))
end
theorem RC.of_blk1 {w : World} {g : Nat} {t : TypeId} {x : Int} (h : Blk w g t #[.int .i64 x]) : RC w (some ⟨g, 0, none⟩) (ivals [x]) := fun k hk => by
  obtain rfl : k = 0 := by simp [ivals] at hk; omega
  exact ⟨_, rfl, h.cell 0⟩
theorem RB.of_blk1 {w : World} {g : Nat} {t : TypeId} (h : Blk w g t #[.int .u8 1]) : RB w (some ⟨g, 0, none⟩) [1] := fun k hk => by
  obtain rfl : k = 0 := by simp at hk; omega
  exact ⟨_, rfl, h.cell 0⟩
theorem RB.of_blk9 {w : World} {g : Nat} {t : TypeId} (h : Blk w g t #[.int .u8 9]) : RB w (some ⟨g, 0, none⟩) [9] := fun k hk => by
  obtain rfl : k = 0 := by simp at hk; omega
  exact ⟨_, rfl, h.cell 0⟩
theorem RCL.drop {w : World} {ad : Addr} {l : List Cg} (h : RCL w (some ad) l) (m : Nat) : RCL w (some (ad.add (m * 5))) (l.drop m) := fun k hk => by
  have hk' : m + k < l.length := by simp at hk; omega
  obtain ⟨ad', v0, v1, v2, v3, v4, e, h0, h1, h2, h3, h4, hr⟩ := h (m + k) hk'
  injection e with e
  subst e
  have e0 : ∀ i, (ad.add (m * 5)).add (k * 5 + i) = ad.add ((m + k) * 5 + i) := fun i => by rw [add_of_add]; congr 1; omega
  refine ⟨_, v0, v1, v2, v3, v4, rfl, ?_, ?_, ?_, ?_, ?_, ?_⟩
  · have := e0 0
    rw [Nat.add_zero, Nat.add_zero] at this
    rw [this]; exact h0
  · rw [e0]; exact h1
  · rw [e0]; exact h2
  · rw [e0]; exact h3
  · rw [e0]; exact h4
  · simpa using hr
section
variable {P : Program} {ops : Array Oper} {rest : List Oper} {o : Oper} {a : Act} {w : World} {K : Act → World → Prop} {Q : Exit → Act → World → Prop}
end

end Go.Proofs.YtpmbpklbiocclaaGreat

/-
  The contract of the law's works (stage 12).
-/
namespace Go.Proofs.YtpmbpklbiocclaaGreat
open Go.RowKit

structure Std (w0 w : World) (ro : Nat → Option Rl) : Prop where
  bel : Below w0.heap.size w0 w
  low : ∀ g r, ro g = some r → w0.heap.size ≤ g
section
variable {w0 w w' : World} {ro ro' : Nat → Option Rl}
theorem Std.tr (h : Std w0 w ro) (t : Tr ro ro' w w') : Std w0 w' ro' := ⟨h.bel.trans (t.below h.bel.size h.low), t.low h.bel.size h.low⟩
theorem Std.ext (h : Std w0 w ro) (hb : Below w.heap.size w w') : Std w0 w' ro := ⟨bt h.bel hb, h.low⟩
theorem Std.only (h : Std w0 w ro) {g : Nat} (ho : Only w w' g) (hg : w0.heap.size ≤ g) : Std w0 w' ro := ⟨bonly h.bel ho hg, h.low⟩
theorem Std.none (h : Std w0 w ro) {g : Nat} (hg : g < w0.heap.size) : ro g = none := by
  cases e : ro g with
  | none => rfl
  | some r => have := h.low g r e; omega
end
def xs1 : StC := ⟨0, 3, ⟨0, [9]⟩, []⟩
def xs2 : StC := ⟨0, 4, ⟨0, [9]⟩, [1]⟩
end Go.Proofs.YtpmbpklbiocclaaGreat

/-
  The contracts of the document's Much and of the law's Go (stage 12).
-/
namespace Go.Proofs.YtpmbpklbiocclaaGreat
open Go.RowKit

theorem Tryz.r07Size : (Tryz.prog.info? 58).map (·.size) = some 2 := by kernel_rfl
def muchS (l : List Cg) (N : Nat) : Bool := decide (N < l.length) || l.any (fun c => decide (300 < c.p.data.length) || decide (20 < c.needs.length))
theorem muchS_no {l : List Cg} {N : Nat} (h : muchS l N = false) : l.length ≤ N ∧ ∀ c ∈ l, c.p.data.length ≤ 300 ∧ c.needs.length ≤ 20 := by
  unfold muchS at h
  rw [Bool.or_eq_false_iff, decide_eq_false_iff_not, List.any_eq_false] at h
  refine ⟨by omega, fun c hc => ?_⟩
  have := h.2 c hc
  rw [Bool.or_eq_true, decide_eq_true_eq, decide_eq_true_eq] at this
  omega
set_option maxRecDepth 100000 in
set_option maxHeartbeats 1200000 in
theorem much12_any (N : Nat) (hN : N ≤ 1000) (A : Option Addr) (n c : Nat) (l : List Cg) (hn : l.length = n) (hm : n ≤ maxLen) (w : World) (hr : RdL RdC w A 5 l) :
    Calls Tryz.prog 6 #[.slice A n c, .int .i64 (N : Int)] w fun e w' => e = .returned (.bool (muchS l N)) ∧ w = w' := by
  unfold maxLen at hm
  have Hn := Lib.hid hn
  have Hr := Lib.hid hr
  clear hn hr
  by_cases h20 : n ≤ N
  · have d0 : decide (N < n) = false := by simp; omega
    have Hd := Lib.hid (show muchS l N = l.any (fun c => decide (300 < c.p.data.length) || decide (20 < c.needs.length)) by unfold muchS; rw [decide_eq_false (by rw [Hn.out]; omega), Bool.false_or])
    go_enter Tryz.func6, Tryz.ntmps6
    go_wp2_with fail
    go_loop [5] (fun i => ∃ k : Nat, k ≤ n ∧ i = .int .i64 k ∧ ∀ j (h : j < l.length), j < k → (decide (300 < l[j].p.data.length) || decide (20 < l[j].needs.length)) = false) (fun i => n - (intOf i).toNat)
    case atStart => exact ⟨0, Nat.zero_le _, rfl, fun j _ h => absurd h (Nat.not_lt_zero _)⟩
    case round =>
      obtain ⟨k, hk, rfl, hno⟩ := hrel
      have Hno := Lib.hid hno
      clear hno
      by_cases hlt : k < n
      · have d1 : decide ((k : Int) < n) = true := by simpa using hlt
        have hkl : k < l.length := by rw [Hn.out]; exact hlt
        obtain ⟨ad, Ad, nd, cd, An, nn, cn, rfl, hcv, h0, h1, h2, h3, h4⟩ := Hr.out.cg hkl
        have c3 := cell_fld h0 h3
        have c4 := cell_fld h0 h4
        have L3 := Lib.hid hcv.p.len
        have L4 := Lib.hid hcv.len
        clear h0 h1 h2 h3 h4 hcv
        by_cases g1 : 300 < nd
        · have e1 : decide ((300 : Int) < nd) = true := by simp; omega
          have Ha := Lib.hid (show l.any (fun c => decide (300 < c.p.data.length) || decide (20 < c.needs.length)) = true from List.any_eq_true.2 ⟨l[k], List.getElem_mem hkl, by rw [L3.out, decide_eq_true g1]; rfl⟩)
          clear g1
          go_wp2_with fail
          go_ret
          rw [Hd.out, Ha.out]
          exact ⟨rfl, rfl⟩
        · have e1 : decide ((300 : Int) < nd) = false := by simp; omega
          by_cases g2 : 20 < nn
          · have e2 : decide ((20 : Int) < nn) = true := by simp; omega
            have Ha := Lib.hid (show l.any (fun c => decide (300 < c.p.data.length) || decide (20 < c.needs.length)) = true from List.any_eq_true.2 ⟨l[k], List.getElem_mem hkl, by rw [L4.out, decide_eq_true g2, Bool.or_true]⟩)
            clear g1 g2
            go_wp2_with fail
            go_ret
            rw [Hd.out, Ha.out]
            exact ⟨rfl, rfl⟩
          · have e2 : decide ((20 : Int) < nn) = false := by simp; omega
            have Ha := Lib.hid (show (decide (300 < l[k].p.data.length) || decide (20 < l[k].needs.length)) = false by rw [L3.out, L4.out, decide_eq_false g1, decide_eq_false g2]; rfl)
            clear g1 g2
            go_wp2_with fail
            refine ⟨⟨k + 1, by omega, by go_num, fun j hj hjk => ?_⟩, by simp [intOf]; omega⟩
            by_cases h : j = k
            · subst h
              exact Ha.out
            · exact Hno.out j hj (by omega)
      · have d1 : decide ((k : Int) < n) = false := by simpa using hlt
        have Ha := Lib.hid (show l.any (fun c => decide (300 < c.p.data.length) || decide (20 < c.needs.length)) = false from List.any_eq_false.2 fun p hp => by
          obtain ⟨j, hj, rfl⟩ := List.getElem_of_mem hp
          rw [Hno.out j hj (by have := Hn.out; omega)]
          simp)
        go_wp2_with fail
        go_ret
        rw [Hd.out, Ha.out]
        exact ⟨rfl, rfl⟩
  · have d0 : decide (N < n) = true := by simp; omega
    have Hd := Lib.hid (show muchS l N = true by unfold muchS; rw [decide_eq_true (by rw [Hn.out]; omega), Bool.true_or])
    go_enter Tryz.func6, Tryz.ntmps6
    go_wp2_with fail
    go_ret
    rw [Hd.out]
    exact ⟨rfl, rfl⟩
def stOf (c : Cg) : StC := ⟨c.id, c.block, c.p, c.needs⟩
set_option maxRecDepth 100000 in
set_option maxHeartbeats 8000000 in
theorem go12_any {w : World} {ro : Nat → Option Rl} {c b g : Nat} {x : DC} {T : Nat} (h : Cch w ro c b g x T) (hT : T ≤ 900) (s : Cg) (Ad : Option Addr) (nd cd : Nat) (An : Option Addr) (nn cn : Nat) (hs : CV w s Ad nd cd An nn cn) (hnd : nd ≤ 300) (hnn : nn ≤ 20) (hfn : 0 < nn → ∀ ad, An = some ad → ro ad.block = none) :
    Calls Tryz.prog 24 #[.pointer (some ⟨c, 0, none⟩), .pointer (some ⟨b, 0, none⟩), .agg #[.int .i64 s.id, .int .i64 s.block, .int .i64 s.p.at_, .slice Ad nd cd, .slice An nn cn]] w fun e w' => e = .returned (.tuple #[.int .i64 (x.go (stOf s)).2.1, .int .i64 (x.go (stOf s)).2.2]) ∧ ∃ ro', Cch w' ro' c b g (x.go (stOf s)).1 (T + 1) ∧ Tr ro ro' w w' := by
  have C0 := Lib.hid h
  have V0 := Lib.hid hs
  have Hfn := Lib.hid hfn
  clear h hs hfn
  go_enter Tryz.func24, Tryz.ntmps24
  go_wp2_with (refine wpList_box_row rfl _ _ rfl _ rfl ?_)
  apply Stop.go; intro w1 Hg1 Hb1
  have C1 := Lib.hid (C0.out.ext Hg1.out.1)
  have T1 := Lib.hid (Tr.of_below ro Hg1.out.1)
  have V1 := Lib.hid (V0.out.below Hg1.out.1)
  obtain ⟨gs, hgs⟩ : ∃ q, q = w.heap.size := ⟨_, rfl⟩
  rw [← hgs] at Hb1 ⊢
  have N1 := Lib.hid (C0.out.none_ge (q := gs) (by omega))
  have c0 : w1.cell? ⟨gs, 0, none⟩ = some (.int .i64 s.id) := Hb1.out.cell 0
  have c1 : w1.cell? ⟨gs, 1, none⟩ = some (.int .i64 s.block) := Hb1.out.cell 1
  have lo := V1.out.lo1
  have hi := V1.out.hi1
  clear hgs C0 V0 Hg1
  by_cases d0 : s.id = 0
  · have e0 : (s.id == 0) = true := by simp [d0]
    have Hd0 := Lib.hid d0
    clear d0
    go_wp2_with fail
    refine WH.start (S := fun w' : World => Blk w' gs 61 #[.int .i64 s.id, .int .i64 s.block, .int .i64 s.p.at_, .slice Ad nd cd, .slice An nn cn]) [false, false, false, false, false, false, false, false, false, false, false, false, false, false] 14 rfl rfl (by kernel_rfl) (Hb1.out.ext (bdrew w1 1)) (fun hSn => ?_)
    obtain ⟨wS, hwS⟩ : ∃ x, w1.drew = x := ⟨_, rfl⟩
    have CS := Lib.hid (C1.out.ext (bdrew w1 1))
    have TS := Lib.hid (T1.out.bel (bdrew w1 1))
    have VS := Lib.hid (V1.out.below (bdrew w1 1))
    rw [show w1.drewN 1 = wS from hwS] at CS TS VS
    rw [hwS] at hSn ⊢
    clear hwS C1 T1 V1 Hb1
    refine WH.tk 0 ?_; simp only [setL]
    refine WH.tk 1 ?_; simp only [setL]
    refine WH.tv 2 rfl (fun w' hSw => exec_load_cell _ _ rfl _ rfl (.int .i64 s.block) (hSw.cell 1) _ (Tryz.underlying3) rfl) ?_; simp only [setL]
    refine WH.tk 3 ?_; simp only [setL]
    refine WH.tv 4 rfl (fun w' hSw => exec_load_part _ _ rfl gs 2 rfl [.int .i64 s.p.at_, .slice Ad nd cd] _ _ hSw (fun j hj => by match j, hj with | 0, _ => rfl | 1, _ => rfl) _ Tryz.underlying58 rfl Tryz.r07Size) ?_; simp only [setL]
    refine WH.tk 6 ?_; simp only [setL]
    refine WH.tv 7 rfl (fun w' hSw => exec_load_cell _ _ rfl _ rfl (.slice An nn cn) (hSw.cell 4) _ (Tryz.underlying59) rfl) ?_; simp only [setL]
    have CT := to_any s.p Ad nd cd wS VS.out.p (by omega)
    refine WH.only 5 _ rfl (by kernel_rfl) rfl (fun K hK => ?_); go_simp; refine (CT).mono ?_; rintro e w3 ⟨g3, n3, c3, rfl, hp3, hb3, hg3⟩; go_simp
    have C3 := Lib.hid (CS.out.ext hb3)
    have T3 := Lib.hid (TS.out.bel hb3)
    have V3 := Lib.hid (VS.out.below hb3)
    have P3 := Lib.hid hp3
    have G3 := Lib.hid (CS.out.none_ge hg3)
    have B3 := Lib.hid (hSn.ext hb3)
    clear hp3 hb3 hg3 CS TS VS CT
    have hSn := B3.out; refine hK _ _ hSn ?_; clear hK; clear K; simp only [setL]
    have CP := c_put C3.out (by omega) s.block V3.out.lo1 V3.out.hi1 s.p (some ⟨g3, 0, none⟩) n3 c3 P3.out An nn cn s.needs V3.out.len (by omega) V3.out.read V3.out.nb (fun ad e => by injection e with e; subst e; exact G3.out) Hfn.out
    refine WH.only 8 _ rfl (by kernel_rfl) rfl (fun K hK => ?_); go_simp; refine (CP).mono ?_; rintro e w4 ⟨rfl, ro4, hc4, ht4⟩; go_simp
    have C4 := Lib.hid hc4
    have T4 := Lib.hid (T3.out.trans ht4)
    have B4 := Lib.hid (B3.out.tr ht4 N1.out)
    clear hc4 ht4 CP
    have hSn := B4.out; refine hK _ _ hSn ?_; clear hK; clear K; simp only [setL]
    refine WH.tk 9 ?_; simp only [setL]
    refine WH.tk 10 ?_; simp only [setL]
    refine WH.tk 11 ?_; simp only [setL]
    refine WH.tk 12 ?_; simp only [setL]
    refine WH.tk 13 ?_; simp only [setL]
    refine WH.done (by kernel_rfl) ?_
    have HX := Lib.hid (show x.go (stOf s) = (x.put ⟨0, s.block, s.p, s.needs⟩, x.putN ⟨0, s.block, s.p, s.needs⟩, x.putE ⟨0, s.block, s.p, s.needs⟩) from by
      unfold DC.go
      rw [if_pos (show (stOf s).do_ = 0 from Hd0.out)]
      unfold stOf
      rw [Hd0.out])
    go_wp2_with fail
    go_ret2
    rw [HX.out]
    exact ⟨rfl, ro4, C4.out, T4.out⟩
  · have e0 : (s.id == 0) = false := by simpa using d0
    have Hd0 := Lib.hid d0
    clear d0
    by_cases d1 : s.id = 1
    · have e1 : (s.id == 1) = true := by simp [d1]
      have HX := Lib.hid (show x.go (stOf s) = (x.flush s.block, 0, x.flushE s.block) from by
        unfold DC.go
        rw [if_neg (show ¬ (stOf s).do_ = 0 from Hd0.out), if_pos (show (stOf s).do_ = 1 from d1)]
        rfl)
      clear d1
      go_wp2_with fail
      refine (c_flush C1.out (by omega) s.block lo hi).mono ?_; rintro e w2 ⟨rfl, ro2, hc2, ht2⟩
      have C2 := Lib.hid (hc2.mono (Nat.le_succ T))
      have T2 := Lib.hid (T1.out.trans ht2)
      have B2 := Lib.hid (Hb1.out.tr ht2 N1.out)
      have c0 : w2.cell? ⟨gs, 0, none⟩ = some (.int .i64 s.id) := B2.out.cell 0
      clear hc2 ht2
      go_wp2_with fail
      go_ret2
      rw [HX.out]
      exact ⟨rfl, ro2, C2.out, T2.out⟩
    · have e1 : (s.id == 1) = false := by simpa using d1
      have Hd1 := Lib.hid d1
      clear d1
      by_cases d2 : s.id = 2
      · have e2 : (s.id == 2) = true := by simp [d2]
        have HX := Lib.hid (show x.go (stOf s) = ((x.upto s.block).1, 0, (x.upto s.block).2) from by
          unfold DC.go
          rw [if_neg (show ¬ (stOf s).do_ = 0 from Hd0.out), if_neg (show ¬ (stOf s).do_ = 1 from Hd1.out), if_pos (show (stOf s).do_ = 2 from d2)]
          rfl)
        clear d2
        go_wp2_with fail
        refine (c_upto C1.out (by omega) s.block lo hi).mono ?_; rintro e w2 ⟨rfl, ro2, hc2, ht2⟩
        have C2 := Lib.hid (hc2.mono (Nat.le_succ T))
        have T2 := Lib.hid (T1.out.trans ht2)
        have B2 := Lib.hid (Hb1.out.tr ht2 N1.out)
        have c0 : w2.cell? ⟨gs, 0, none⟩ = some (.int .i64 s.id) := B2.out.cell 0
        clear hc2 ht2
        go_wp2_with fail
        go_ret2
        rw [HX.out]
        exact ⟨rfl, ro2, C2.out, T2.out⟩
      · have e2 : (s.id == 2) = false := by simpa using d2
        have Hd2 := Lib.hid d2
        clear d2
        by_cases d3 : s.id = 3
        · have e3 : (s.id == 3) = true := by simp [d3]
          have HX := Lib.hid (show x.go (stOf s) = ((x.upto (x.last : Int)).1, 0, (x.upto (x.last : Int)).2) from by
            unfold DC.go
            rw [if_neg (show ¬ (stOf s).do_ = 0 from Hd0.out), if_neg (show ¬ (stOf s).do_ = 1 from Hd1.out), if_neg (show ¬ (stOf s).do_ = 2 from Hd2.out), if_pos (show (stOf s).do_ = 3 from d3)])
          clear d3
          go_wp2_with fail
          refine (c_sync C1.out (by omega)).mono ?_; rintro e w2 ⟨rfl, ro2, hc2, ht2⟩
          have C2 := Lib.hid (hc2.mono (Nat.le_succ T))
          have T2 := Lib.hid (T1.out.trans ht2)
          have B2 := Lib.hid (Hb1.out.tr ht2 N1.out)
          have c0 : w2.cell? ⟨gs, 0, none⟩ = some (.int .i64 s.id) := B2.out.cell 0
          clear hc2 ht2
          go_wp2_with fail
          go_ret2
          rw [HX.out]
          exact ⟨rfl, ro2, C2.out, T2.out⟩
        · have e3 : (s.id == 3) = false := by simpa using d3
          have Hd3 := Lib.hid d3
          clear d3
          by_cases d4 : s.id = 4
          · have e4 : (s.id == 4) = true := by simp [d4]
            have HX := Lib.hid (show x.go (stOf s) = (x.setFuse s.block, 0, 0) from by
              unfold DC.go
              rw [if_neg (show ¬ (stOf s).do_ = 0 from Hd0.out), if_neg (show ¬ (stOf s).do_ = 1 from Hd1.out), if_neg (show ¬ (stOf s).do_ = 2 from Hd2.out), if_neg (show ¬ (stOf s).do_ = 3 from Hd3.out), if_pos (show (stOf s).do_ = 4 from d4)]
              rfl)
            clear d4
            go_wp2_with fail
            refine (c_fuse C1.out s.block hi).mono ?_; rintro e w2 ⟨rfl, hc2, ht2⟩
            have C2 := Lib.hid (hc2.mono (Nat.le_succ T))
            have T2 := Lib.hid (T1.out.trans ht2)
            have B2 := Lib.hid (Hb1.out.tr ht2 N1.out)
            have c0 : w2.cell? ⟨gs, 0, none⟩ = some (.int .i64 s.id) := B2.out.cell 0
            clear hc2 ht2
            go_wp2_with fail
            go_ret2
            rw [HX.out]
            exact ⟨rfl, ro, C2.out, T2.out⟩
          · have e4 : (s.id == 4) = false := by simpa using d4
            have Hd4 := Lib.hid d4
            clear d4
            by_cases d5 : s.id = 5
            · have e5 : (s.id == 5) = true := by simp [d5]
              have HX := Lib.hid (show x.go (stOf s) = (x.up, 0, 0) from by
                unfold DC.go
                rw [if_neg (show ¬ (stOf s).do_ = 0 from Hd0.out), if_neg (show ¬ (stOf s).do_ = 1 from Hd1.out), if_neg (show ¬ (stOf s).do_ = 2 from Hd2.out), if_neg (show ¬ (stOf s).do_ = 3 from Hd3.out), if_neg (show ¬ (stOf s).do_ = 4 from Hd4.out), if_pos (show (stOf s).do_ = 5 from d5)])
              clear d5
              go_wp2_with fail
              refine (c_up C1.out).mono ?_; rintro e w2 ⟨rfl, hc2, ht2⟩
              have C2 := Lib.hid (hc2.mono (Nat.le_succ T))
              have T2 := Lib.hid (T1.out.trans ht2)
              clear hc2 ht2
              go_wp2_with fail
              go_ret2
              rw [HX.out]
              exact ⟨rfl, ro, C2.out, T2.out⟩
            · have e5 : (s.id == 5) = false := by simpa using d5
              have HX := Lib.hid (show x.go (stOf s) = (x, 0, 0) from by
                unfold DC.go
                rw [if_neg (show ¬ (stOf s).do_ = 0 from Hd0.out), if_neg (show ¬ (stOf s).do_ = 1 from Hd1.out), if_neg (show ¬ (stOf s).do_ = 2 from Hd2.out), if_neg (show ¬ (stOf s).do_ = 3 from Hd3.out), if_neg (show ¬ (stOf s).do_ = 4 from Hd4.out), if_neg (show ¬ (stOf s).do_ = 5 from d5)])
              clear d5
              go_wp2_with fail
              go_ret2
              rw [HX.out]
              exact ⟨rfl, ro, C1.out.mono (Nat.le_succ T), T1.out⟩

end Go.Proofs.YtpmbpklbiocclaaGreat

/-
  The contract of the law's Of.
-/
namespace Go.Proofs.YtpmbpklbiocclaaGreat
open Go.RowKit


end Go.Proofs.YtpmbpklbiocclaaGreat
