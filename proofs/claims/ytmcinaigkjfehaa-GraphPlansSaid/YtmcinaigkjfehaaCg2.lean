/-
  The contract of package ready's Check.
-/
import Derived.Test.YtmcinaigkjfehaaCg1
namespace Go.Proofs.Ytmcinaigkjfehaa
open Go.RowKit

/-- Of a list the ID of the one ahead, or 0. -/
def lastI (l : List Cg) (k : Nat) : Int := lastN (l.map (·.id)) k
theorem lastI_succ (l : List Cg) (k : Nat) (h : k < l.length) : lastI l (k + 1) = l[k].id := by
  unfold lastI
  rw [lastN_succ _ _ (by simpa using h)]
  simp
theorem mayC_iff0 {l : List Cg} : mayC l = true ↔ ∀ i (h : i < l.length), l[i].may (lastI l i) = true := by
  unfold mayC
  rw [mayN_iff]
  have key : ∀ i (h : i < l.length), (if i = 0 then 0 < l[i].id else l[i - 1].id < l[i].id) ↔ lastI l i < l[i].id := fun i h => by
    unfold lastI lastN
    by_cases h0 : i = 0
    · rw [if_pos h0, if_pos h0]
    · rw [if_neg h0, if_neg h0]
      simp [List.getD, show i - 1 < l.length by omega]
  constructor
  · intro h i hi
    obtain ⟨h1, h2⟩ := h i hi
    exact Cg.may_iff.2 ⟨(key i hi).1 h1, h2⟩
  · intro h i hi
    obtain ⟨h1, h2⟩ := Cg.may_iff.1 (h i hi)
    exact ⟨(key i hi).2 h1, h2⟩

set_option maxRecDepth 100000 in
set_option maxHeartbeats 1600000 in
theorem chk_any (A : Option Addr) (n c : Nat) (l : List Cg) (hn : l.length = n) (hm : n ≤ 4096) (w : World) (hr : RdL RdC w A 5 l) :
    Calls Try.prog 36 #[.slice A n c] w fun e w' => e = .returned (.int .i64 (chkI l)) ∧ Below w.heap.size w w' := by
  have Hn := Lib.hid hn
  have Hr := Lib.hid hr
  clear hn hr
  go_enter Try.func36, Try.ntmps36
  go_wp2_with fail
  go_loopw [3, 8] (fun z i wr => ∃ k : Nat, k ≤ n ∧ i = .int .i64 k ∧ z = .int .i64 (lastI l k) ∧ 0 ≤ lastI l k ∧ (∀ j (h : j < l.length), j < k → l[j].may (lastI l j) = true) ∧ Below w.heap.size w wr) (fun _ i _ => n - (intOf i).toNat)
  case atStart => exact ⟨0, Nat.zero_le _, rfl, rfl, Int.le_refl _, fun j _ h => absurd h (Nat.not_lt_zero _), Below.refl _ _⟩
  case round =>
    obtain ⟨k, hk, rfl, rfl, hz0, hall, hbw⟩ := hrel
    have Hbw := Lib.hid hbw
    have Hall := Lib.hid hall
    have Hz0 := Lib.hid hz0
    clear hbw hall hz0
    by_cases hlt : k < n
    · have d0 : decide ((k : Int) < n) = true := by simpa using hlt
      have hkl : k < l.length := by rw [Hn.out]; exact hlt
      obtain ⟨ad, Ad, nd, cd, An, nn, cn, rfl, hcv, h0, h1, h2, h3, h4⟩ := (Hr.out.below Hbw.out).cg hkl
      have Hs := Lib.hid (lastI_succ l k hkl)
      have Hno : Hid (l[k].may (lastI l k) = false → mayC l = false) := Lib.hid fun h => Bool.eq_false_iff.2 fun hh => by
        have := mayC_iff0.1 hh k hkl
        rw [this] at h; cases h
      have Hyes : Hid (l[k].may (lastI l k) = true → ∀ j (h : j < l.length), j < k + 1 → l[j].may (lastI l j) = true) := Lib.hid fun hh j hj hjk => by
        by_cases hc : j = k
        · subst hc; exact hh
        · exact Hall.out j hj (by omega)
      have Hd := Lib.hid (show l[k].may (lastI l k) = (decide (lastI l k < l[k].id) && decide (0 ≤ l[k].block) && l[k].p.right && riseN l[k].id 0 l[k].needs) from rfl)
      have C0 := Lib.hid h0
      have C1 := Lib.hid h1
      have C2 := Lib.hid h2
      have C3 := Lib.hid h3
      have C4 := Lib.hid h4
      have Hcv := Lib.hid hcv
      clear h0 h1 h2 h3 h4 hcv
      generalize hB : l[k].may (lastI l k) = B at *
      clear hB
      generalize l[k] = c at *
      generalize lastI l k = z at *
      go_wp2_with (first | refine wpList_load_five rfl _ _ rfl (ad.add (k * 5)) rfl _ _ _ _ _ C0.out C1.out C2.out C3.out C4.out _ Try.underlying50 Try.chgSize ?_ | refine wpList_alloc_row rfl _ rfl _ Try.chgZero ?_); apply Stop.go; intro w3 Hg3 Hb3; go_wp2_with (refine wpList_store_arr rfl _ _ _ rfl _ #[.int .i64 c.id, .int .i64 c.block, .int .i64 c.p.at_, .slice Ad nd cd, .slice An nn cn] rfl rfl _ _ Hb3.out Try.chgSize rfl (by simp [Value.oneCell']) ?_); apply Stop.go; intro w4 Ho4 Hb4; have D4 := Lib.hid (bonly Hg3.out.1 Ho4.out (Nat.le_refl _))
      have c0 : w4.cell? ⟨wr.heap.size, 0, none⟩ = some (.int .i64 c.id) := Hb4.out.cell 0
      have c1 : w4.cell? ⟨wr.heap.size, 1, none⟩ = some (.int .i64 c.block) := Hb4.out.cell 1
      by_cases g1 : z < c.id
      · have d1 : decide (c.id ≤ z) = false := by simp; omega
        by_cases g2 : c.block < 0
        · have d2 : decide (c.block < 0) = true := by simpa using g2
          have Hf := Lib.hid (Hno.out (by rw [Hd.out, decide_eq_false (show ¬ 0 ≤ c.block by omega)]; simp))
          clear g1 g2
          go_wp2_with fail
          go_ret
          rw [chkI_no Hf.out]
          exact ⟨rfl, bt Hbw.out D4.out⟩
        · have d2 : decide (c.block < 0) = false := by simpa using g2
          have G1 := Lib.hid g1
          have G2 := Lib.hid g2
          clear g1 g2
          go_wp2_with (refine wpList_load_pair rfl _ _ rfl ⟨wr.heap.size, 2, none⟩ rfl (.int .i64 c.p.at_) (.slice Ad nd cd) Hb4.out.five.2.2.1 Hb4.out.five.2.2.2.2.2 _ Try.underlying48 Try.patchSize ?_)
          refine (check_any c.p Ad nd cd _ (Hcv.out.p.below D4.out)).mono ?_; rintro e w5 ⟨rfl, hb5⟩
          have Hb5 := Lib.hid hb5
          have D5 := Lib.hid (bt D4.out hb5)
          have c5 : w5.cell? ⟨wr.heap.size, 0, none⟩ = some (.int .i64 c.id) := (Hb4.out.ext hb5).cell 0
          clear hb5
          have Hck := Lib.hid (show checkI c.p = if c.p.right then 0 else 2 from rfl)
          cases hr : c.p.right
          · have e1 : checkI c.p = 2 := by rw [Hck.out, hr]; rfl
            have Hf := Lib.hid (Hno.out (by rw [Hd.out, hr]; simp))
            rw [e1]
            clear hr e1
            go_wp2_with fail
            go_ret
            rw [chkI_no Hf.out]
            exact ⟨rfl, bt Hbw.out D5.out⟩
          · have e1 : checkI c.p = 0 := by rw [Hck.out, hr]; rfl
            have HR := Lib.hid hr
            rw [e1]
            clear hr e1
            go_wp2_with (refine wpList_load_blk rfl _ _ rfl _ rfl _ _ (Hb4.out.ext Hb5.out) _ Try.underlying50 rfl Try.chgSize ?_)
            refine (needs_any c Ad nd cd An nn cn _ (Hcv.out.below D5.out) (by have := Hz0.out; have := G1.out; omega)).mono ?_; rintro e w6 ⟨rfl, hb6⟩
            have D6 := Lib.hid (bt D5.out hb6)
            have c6 : w6.cell? ⟨wr.heap.size, 0, none⟩ = some (.int .i64 c.id) := ((Hb4.out.ext Hb5.out).ext hb6).cell 0
            clear hb6 c0 c1 c5
            cases hq : riseN c.id 0 c.needs
            · have Hf := Lib.hid (Hno.out (by rw [Hd.out, hq]; simp))
              clear hq
              go_wp2_with fail
              go_ret
              rw [chkI_no Hf.out]
              exact ⟨rfl, bt Hbw.out D6.out⟩
            · have Hf := Lib.hid (Hyes.out (by rw [Hd.out, hq, HR.out, decide_eq_true G1.out, decide_eq_true (show 0 ≤ c.block by have := G2.out; omega)]; rfl))
              clear hq
              go_wp2_with fail
              go_roundw
              case rel => exact ⟨k + 1, by omega, by go_num, by rw [Hs.out], by rw [Hs.out]; have := Hz0.out; have := G1.out; omega, Hf.out, bt Hbw.out D6.out⟩
              case measure => simp [intOf]; omega
      · have d1 : decide (c.id ≤ z) = true := by simp; omega
        have Hf := Lib.hid (Hno.out (by rw [Hd.out, decide_eq_false g1]; simp))
        clear g1
        go_wp2_with fail
        go_ret
        rw [chkI_no Hf.out]
        exact ⟨rfl, bt Hbw.out D4.out⟩
    · have d0 : decide ((k : Int) < n) = false := by simpa using hlt
      have Hf := Lib.hid (mayC_iff0.2 fun i hi => Hall.out i hi (by have := Hn.out; omega))
      go_wp2_with fail
      go_ret
      rw [chkI_yes Hf.out]
      exact ⟨rfl, Hbw.out⟩

end Go.Proofs.Ytmcinaigkjfehaa
