/-
  Texts of this claim joined: R09b, R09c.
-/
import Derived.Test.YtpmbpklbiocclaaGreatGrAO
import Derived.Test.YtpmbpklbiocclaaGreatGrAF

/-
  Contracts of the document's answer 09: Rise, May.
-/
namespace Go.Proofs.YtpmbpklbiocclaaGreat
open Go.RowKit

theorem lastN_nonneg (l : List Int) (k : Nat) (h : ∀ j (hj : j < l.length), j < k → lastN l j < l[j]) : 0 ≤ lastN l k := by
  induction k with
  | zero => exact Int.le_refl _
  | succ k ih =>
    have h1 := ih fun j hj hjk => h j hj (by omega)
    by_cases hk : k < l.length
    · rw [lastN_succ l k hk]
      have := h k hk (by omega)
      omega
    · unfold lastN
      rw [if_neg (by omega)]
      simp [List.getD, show l.length ≤ k by omega]
set_option maxRecDepth 100000 in
set_option maxHeartbeats 1600000 in
theorem rrise9_any (A : Option Addr) (n cap : Nat) (l : List Int) (hn : l.length = n) (hm : n ≤ 4096) (x : Int) (w : World) (hr : RC w A (ivals l)) :
    Calls Tryz.prog 111 #[.slice A n cap, .int .i64 x] w (RetQ (.bool (riseN x 0 l)) w) := by
  have Hn := Lib.hid hn
  have Hr := Lib.hid hr
  obtain ⟨b, hb⟩ : ∃ b, riseN x 0 l = b := ⟨_, rfl⟩
  rw [hb]
  have Hb := Lib.hid hb
  clear hn hr hb
  go_enter Tryz.func111, Tryz.ntmps111
  go_wp2_with fail
  go_loopw [5] (fun i wr => ∃ k : Nat, k ≤ n ∧ i = .int .i64 k ∧ (∀ j (h : j < l.length), j < k → l[j] < x ∧ lastN l j < l[j]) ∧ ∃ m, wr = w.drewN m) (fun i _ => n - (intOf i).toNat)
  case atStart => exact ⟨0, Nat.zero_le _, rfl, fun j _ h => absurd h (Nat.not_lt_zero _), 0, rfl⟩
  case round =>
    obtain ⟨k, hk, rfl, hall, m, rfl⟩ := hrel
    have Hall := Lib.hid hall
    clear hall
    by_cases hlt : k < n
    · have d0 : decide ((k : Int) < n) = true := by simpa using hlt
      have hkl : k < l.length := by rw [Hn.out]; exact hlt
      obtain ⟨ad, rfl, hc⟩ := Hr.out.int k hkl
      have Hno : Hid (¬ (l[k] < x ∧ lastN l k < l[k]) → b = false) := Lib.hid fun h => by
        rw [← Hb.out]
        exact Bool.eq_false_iff.2 fun hh => h (riseN_iff0.1 hh k hkl)
      have Hyes : Hid ((l[k] < x ∧ lastN l k < l[k]) → ∀ j (h : j < l.length), j < k + 1 → l[j] < x ∧ lastN l j < l[j]) := Lib.hid fun hh j hj hjk => by
        by_cases hc : j = k
        · subst hc; exact hh
        · exact Hall.out j hj (by omega)
      by_cases h1 : l[k] < 1
      · have e1 : decide (l[k] < 1) = true := by simpa using h1
        have Hf := Lib.hid (Hno.out fun h => by
          have h2 := lastN_nonneg l k fun j hj hjk => (Hall.out j hj hjk).2
          omega)
        clear h1
        go_wp2_with fail
        go_quiet (fail)
        go_wp2_with fail
        go_ret
        rw [Hf.out]
        exact ⟨rfl, m + nq, by first | rfl | simp only [World.drewN_drewN]⟩
      · have e1 : decide (l[k] < 1) = false := by simpa using h1
        by_cases h2 : x ≤ l[k]
        · have e2 : decide (x ≤ l[k]) = true := by simpa using h2
          have Hf := Lib.hid (Hno.out fun h => by omega)
          clear h1 h2
          go_wp2_with fail
          go_quiet (fail)
          go_wp2_with fail
          go_ret
          rw [Hf.out]
          exact ⟨rfl, m + nq, by first | rfl | simp only [World.drewN_drewN]⟩
        · have e2 : decide (x ≤ l[k]) = false := by simpa using h2
          by_cases h0 : k = 0
          · have e3 : decide (0 < k) = false := by simp; omega
            have Hf := Lib.hid (Hyes.out ⟨by omega, by subst h0; rw [lastN_zero]; omega⟩)
            clear h1 h2 h0
            go_wp2_with fail
            go_quiet (fail)
            go_wp2_with fail
            go_roundw
            case rel => exact ⟨k + 1, by omega, by go_num, Hf.out, m + nq, by first | rfl | simp only [World.drewN_drewN]⟩
            case measure => simp [intOf]; omega
          · have e3 : decide (0 < k) = true := by simp; omega
            obtain ⟨k', hk'⟩ : ∃ k', k = k' + 1 := ⟨k - 1, by omega⟩
            have hkl' : k' < l.length := by omega
            obtain ⟨ad', e', hc'⟩ := Hr.out.int k' hkl'
            injection e' with e'
            subst e'
            have Hz := Lib.hid (show lastN l k = l[k'] by rw [hk']; exact lastN_succ l k' hkl')
            have q1 : IntKind.i64.wrap ((k : Int) - 1) = k' := by rw [IntKind.wrap_i64]; omega
            have z1 : (k' : Int) < n := by omega
            have HK := Lib.hid hk'
            by_cases h3 : l[k] ≤ l[k']
            · have e4 : decide (l[k] ≤ l[k']) = true := by simpa using h3
              have Hf := Lib.hid (Hno.out fun h => by rw [Hz.out] at h; omega)
              clear h1 h2 h0 h3 hk'
              go_wp2_with fail
              go_quiet (fail)
              go_wp2_with fail
              go_ret
              rw [Hf.out]
              exact ⟨rfl, m + nq, by first | rfl | simp only [World.drewN_drewN]⟩
            · have e4 : decide (l[k] ≤ l[k']) = false := by simpa using h3
              have Hf := Lib.hid (Hyes.out ⟨by omega, by rw [Hz.out]; omega⟩)
              clear h1 h2 h0 h3 hk'
              go_wp2_with fail
              go_quiet (fail)
              go_wp2_with fail
              go_roundw
              case rel => exact ⟨k + 1, by omega, by go_num, Hf.out, m + nq, by first | rfl | simp only [World.drewN_drewN]⟩
              case measure => simp [intOf]; omega
    · have d0 : decide ((k : Int) < n) = false := by simpa using hlt
      have Hf := Lib.hid (Hb.out.symm.trans (riseN_iff0.2 fun i hi => Hall.out i hi (by have := Hn.out; omega)))
      go_wp2_with fail
      go_ret
      rw [Hf.out]
      exact ⟨rfl, m, rfl⟩

end Go.Proofs.YtpmbpklbiocclaaGreat

/-
  The contract of the document's May.
-/
namespace Go.Proofs.YtpmbpklbiocclaaGreat
open Go.RowKit

set_option maxRecDepth 100000 in
set_option maxHeartbeats 8000000 in
theorem rmay_any (A : Option Addr) (n cap : Nat) (l : List Cg) (hn : l.length = n) (hm : n ≤ 4096) (hN : ∀ c ∈ l, c.needs.length ≤ 4096) (w : World) (hr : RdL RdC w A 5 l) :
    Calls Tryz.prog 88 #[.slice A n cap] w fun e w' => e = .returned (.bool (mayC l)) ∧ Below w.heap.size w w' := by
  have Hn := Lib.hid hn
  have Hr := Lib.hid hr
  have HNN := Lib.hid hN
  obtain ⟨b, hb⟩ : ∃ b, mayC l = b := ⟨_, rfl⟩
  rw [hb]
  have Hb := Lib.hid hb
  clear hn hr hb hN
  go_enter Tryz.func88, Tryz.ntmps88
  go_wp2_with fail
  go_loopw [3] (fun i wr => ∃ k : Nat, k ≤ n ∧ i = .int .i64 k ∧ (∀ j (h : j < l.length), j < k → l[j].may (lastI l j) = true) ∧ Below w.heap.size w wr) (fun i _ => n - (intOf i).toNat)
  case atStart => exact ⟨0, Nat.zero_le _, rfl, fun j _ h => absurd h (Nat.not_lt_zero _), Below.refl _ _⟩
  case round =>
    obtain ⟨k, hk, rfl, hall, hbw⟩ := hrel
    have Hall := Lib.hid hall
    have Hbw := Lib.hid hbw
    clear hall hbw
    by_cases hlt : k < n
    · have d0 : decide ((k : Int) < n) = true := by simpa using hlt
      have hkl : k < l.length := by rw [Hn.out]; exact hlt
      obtain ⟨ad, Ad, nd, cd, An, nn, cn, rfl, hcv, h0, h1, h2, h3, h4⟩ := (Hr.out.below Hbw.out).cg hkl
      have Hs := Lib.hid (lastI_succ l k hkl)
      obtain ⟨z, hz⟩ : ∃ z, lastI l k = z := ⟨_, rfl⟩
      have Hno : Hid (l[k].may z = false → b = false) := Lib.hid fun h => by
        rw [← Hb.out]
        exact Bool.eq_false_iff.2 fun hh => by
          have := mayC_iff0.1 hh k hkl
          rw [hz] at this
          rw [this] at h; cases h
      have Hyes : Hid (l[k].may z = true → ∀ j (h : j < l.length), j < k + 1 → l[j].may (lastI l j) = true) := Lib.hid fun hh j hj hjk => by
        by_cases hc : j = k
        · subst hc; rw [hz]; exact hh
        · exact Hall.out j hj (by omega)
      have Hd := Lib.hid (show l[k].may z = (decide (z < l[k].id) && decide (0 ≤ l[k].block) && l[k].p.right && riseN l[k].id 0 l[k].needs) from rfl)
      have Hlast : Hid (0 ≤ z) := Lib.hid (hz ▸ lastN_nonneg _ k fun j hj hjk => by
        have hj' : j < l.length := by simpa using hj
        have := (Cg.may_iff.1 (Hall.out j hj' hjk)).1
        simpa [lastI] using this)
      have C0 := Lib.hid h0
      have F1 := Lib.hid (cell_fld h0 h1)
      have F2 := Lib.hid (cell_fld h0 h2)
      have F3 := Lib.hid (cell_fld1 (i := 2) h0 h3)
      have F4 := Lib.hid (cell_fld h0 h4)
      have Hcv := Lib.hid hcv
      have HN : Hid (nn ≤ 4096) := Lib.hid (by have := HNN.out l[k] (List.getElem_mem hkl); rw [hcv.len] at this; exact this)
      clear h0 h1 h2 h3 h4 hcv
      have z1 : (k : Int) < n := by omega
      have Hprev : Hid (k ≠ 0 → ∃ k', ∃ _h : k' < l.length, k = k' + 1 ∧ wr.cell? (ad.add (k' * 5)) = some (.int .i64 z)) := Lib.hid fun h0 => by
        obtain ⟨k', hk'⟩ : ∃ k', k = k' + 1 := ⟨k - 1, by omega⟩
        have hkl' : k' < l.length := by omega
        obtain ⟨ad', Ad', nd', cd', An', nn', cn', e', hcv', h0', -⟩ := (Hr.out.below Hbw.out).cg hkl'
        injection e' with e'
        subst e'
        refine ⟨k', hkl', hk', ?_⟩
        rw [← hz, hk', lastI_succ l k' hkl']
        exact h0'
      have HZ00 : Hid (k = 0 → z = 0) := Lib.hid fun h => by rw [← hz, h]; rfl
      clear hz
      generalize hB : l[k].may z = B at *
      clear hB
      generalize l[k] = c at *
      by_cases g1 : c.id < 1
      · have d1 : decide (c.id < 1) = true := by simpa using g1
        go_wp2_with fail
        refine WH.start (S := fun w' : World => Below wr.heap.size wr w') (List.replicate 55 false) 55 rfl rfl (by kernel_rfl) (bdrew wr 1) (fun hSn => ?_)
        simp only [List.replicate]
        refine WH.tk 0 ?_; simp only [setL]
        refine WH.tk 1 ?_; simp only [setL]
        refine WH.tk 2 ?_; simp only [setL]
        refine WH.tk 3 ?_; simp only [setL]
        refine WH.tv 4 rfl (fun w' hSw => exec_load_cell _ _ rfl (ad.add (k * 5)) rfl (.int .i64 c.id) ((hSw.cell (block_lt_of_cell C0.out)).trans C0.out) _ Tryz.underlying3 rfl) ?_; simp only [setL]
        refine WH.tk 5 ?_; simp only [setL]
        refine WH.tk 6 ?_; simp only [setL]
        refine WH.skip 7 _ rfl (by kernel_rfl) (fun _ _ _ h => h) rfl (by assumption) ?_; simp only [setL]
        refine WH.skip 8 _ rfl (by kernel_rfl) (fun _ _ _ h => h) rfl (by assumption) ?_; simp only [setL]
        refine WH.skip 9 _ rfl (by kernel_rfl) (fun _ _ _ h => h) rfl (by assumption) ?_; simp only [setL]
        refine WH.skip 10 _ rfl (by kernel_rfl) (fun _ _ _ h => h) rfl (by assumption) ?_; simp only [setL]
        refine WH.skip 11 _ rfl (by kernel_rfl) (fun _ _ _ h => h) rfl (by assumption) ?_; simp only [setL]
        refine WH.skip 12 _ rfl (by kernel_rfl) (fun _ _ _ h => h) rfl (by assumption) ?_; simp only [setL]
        refine WH.skip 13 _ rfl (by kernel_rfl) (fun _ _ _ h => h) rfl (by assumption) ?_; simp only [setL]
        refine WH.skip 14 _ rfl (by kernel_rfl) (fun _ _ _ h => h) rfl (by assumption) ?_; simp only [setL]
        refine WH.skip 15 _ rfl (by kernel_rfl) (fun _ _ _ h => h) rfl (by assumption) ?_; simp only [setL]
        refine WH.skip 16 _ rfl (by kernel_rfl) (fun _ _ _ h => h) rfl (by assumption) ?_; simp only [setL]
        refine WH.skip 17 _ rfl (by kernel_rfl) (fun _ _ _ h => h) rfl (by assumption) ?_; simp only [setL]
        refine WH.skip 18 _ rfl (by kernel_rfl) (fun _ _ _ h => h) rfl (by assumption) ?_; simp only [setL]
        refine WH.skip 19 _ rfl (by kernel_rfl) (fun _ _ _ h => h) rfl (by assumption) ?_; simp only [setL]
        refine WH.skip 20 _ rfl (by kernel_rfl) (fun _ _ _ h => h) rfl (by assumption) ?_; simp only [setL]
        refine WH.skip 21 _ rfl (by kernel_rfl) (fun _ _ _ h => h) rfl (by assumption) ?_; simp only [setL]
        refine WH.skip 22 _ rfl (by kernel_rfl) (fun _ _ _ h => h) rfl (by assumption) ?_; simp only [setL]
        refine WH.tk 23 ?_; simp only [setL]
        refine WH.tk 24 ?_; simp only [setL]
        refine WH.skip 25 _ rfl (by kernel_rfl) (fun _ _ _ h => h) rfl (by assumption) ?_; simp only [setL]
        refine WH.skip 26 _ rfl (by kernel_rfl) (fun _ _ _ h => h) rfl (by assumption) ?_; simp only [setL]
        refine WH.skip 27 _ rfl (by kernel_rfl) (fun _ _ _ h => h) rfl (by assumption) ?_; simp only [setL]
        refine WH.skip 28 _ rfl (by kernel_rfl) (fun _ _ _ h => h) rfl (by assumption) ?_; simp only [setL]
        refine WH.skip 29 _ rfl (by kernel_rfl) (fun _ _ _ h => h) rfl (by assumption) ?_; simp only [setL]
        refine WH.skip 30 _ rfl (by kernel_rfl) (fun _ _ _ h => h) rfl (by assumption) ?_; simp only [setL]
        refine WH.tk 31 ?_; simp only [setL]
        refine WH.tk 32 ?_; simp only [setL]
        refine WH.skip 33 _ rfl (by kernel_rfl) (fun _ _ _ h => h) rfl (by assumption) ?_; simp only [setL]
        refine WH.skip 34 _ rfl (by kernel_rfl) (fun _ _ _ h => h) rfl (by assumption) ?_; simp only [setL]
        refine WH.skip 35 _ rfl (by kernel_rfl) (fun _ _ _ h => h) rfl (by assumption) ?_; simp only [setL]
        refine WH.skip 36 _ rfl (by kernel_rfl) (fun _ _ _ h => h) rfl (by assumption) ?_; simp only [setL]
        refine WH.skip 37 _ rfl (by kernel_rfl) (fun _ _ _ h => h) rfl (by assumption) ?_; simp only [setL]
        refine WH.onlySkip 38 _ rfl (by kernel_rfl) rfl (by assumption) ?_; simp only [setL]
        refine WH.skip 39 _ rfl (by kernel_rfl) (fun _ _ _ h => h) rfl (by assumption) ?_; simp only [setL]
        refine WH.tk 40 ?_; simp only [setL]
        refine WH.tk 41 ?_; simp only [setL]
        refine WH.skip 42 _ rfl (by kernel_rfl) (fun _ _ _ h => h) rfl (by assumption) ?_; simp only [setL]
        refine WH.skip 43 _ rfl (by kernel_rfl) (fun _ _ _ h => h) rfl (by assumption) ?_; simp only [setL]
        refine WH.skip 44 _ rfl (by kernel_rfl) (fun _ _ _ h => h) rfl (by assumption) ?_; simp only [setL]
        refine WH.skip 45 _ rfl (by kernel_rfl) (fun _ _ _ h => h) rfl (by assumption) ?_; simp only [setL]
        refine WH.skip 46 _ rfl (by kernel_rfl) (fun _ _ _ h => h) rfl (by assumption) ?_; simp only [setL]
        refine WH.skip 47 _ rfl (by kernel_rfl) (fun _ _ _ h => h) rfl (by assumption) ?_; simp only [setL]
        refine WH.skip 48 _ rfl (by kernel_rfl) (fun _ _ _ h => h) rfl (by assumption) ?_; simp only [setL]
        refine WH.skip 49 _ rfl (by kernel_rfl) (fun _ _ _ h => h) rfl (by assumption) ?_; simp only [setL]
        refine WH.skip 50 _ rfl (by kernel_rfl) (fun _ _ _ h => h) rfl (by assumption) ?_; simp only [setL]
        refine WH.skip 51 _ rfl (by kernel_rfl) (fun _ _ _ h => h) rfl (by assumption) ?_; simp only [setL]
        refine WH.onlySkip 52 _ rfl (by kernel_rfl) rfl (by assumption) ?_; simp only [setL]
        refine WH.skip 53 _ rfl (by kernel_rfl) (fun _ _ _ h => h) rfl (by assumption) ?_; simp only [setL]
        refine WH.tk 54 ?_; simp only [setL]
        have Hf := Lib.hid (Hno.out (by rw [Hd.out, decide_eq_false (show ¬ z < c.id by have := Hlast.out; omega)]; simp))
        refine WH.done (by kernel_rfl) ?_
        have Hfin := Lib.hid (bt Hbw.out hSn)
        clear hSn
        go_wp2_with fail
        go_ret
        rw [Hf.out]
        exact ⟨rfl, Hfin.out⟩
      · have d1 : decide (c.id < 1) = false := by simpa using g1
        by_cases h0 : k = 0
        · have d2 : decide (0 < k) = false := by simp; omega
          have HZ0 := Lib.hid (show z < c.id by have := HZ00.out h0; omega)
          clear g1 h0
          go_wp2_with fail
          refine WH.start (S := fun w' : World => Below wr.heap.size wr w') (List.replicate 55 false) 55 rfl rfl (by kernel_rfl) (bdrew wr 1) (fun hSn => ?_)
          simp only [List.replicate]
          refine WH.tk 0 ?_; simp only [setL]
          refine WH.tk 1 ?_; simp only [setL]
          refine WH.tk 2 ?_; simp only [setL]
          refine WH.tk 3 ?_; simp only [setL]
          refine WH.tv 4 rfl (fun w' hSw => exec_load_cell _ _ rfl (ad.add (k * 5)) rfl (.int .i64 c.id) ((hSw.cell (block_lt_of_cell C0.out)).trans C0.out) _ Tryz.underlying3 rfl) ?_; simp only [setL]
          refine WH.tk 5 ?_; simp only [setL]
          refine WH.tk 6 ?_; simp only [setL]
          refine WH.tk 7 ?_; simp only [setL]
          refine WH.tk 8 ?_; simp only [setL]
          refine WH.tk 9 ?_; simp only [setL]
          refine WH.skip 10 _ rfl (by kernel_rfl) (fun _ _ _ h => h) rfl (by assumption) ?_; simp only [setL]
          refine WH.skip 11 _ rfl (by kernel_rfl) (fun _ _ _ h => h) rfl (by assumption) ?_; simp only [setL]
          refine WH.skip 12 _ rfl (by kernel_rfl) (fun _ _ _ h => h) rfl (by assumption) ?_; simp only [setL]
          refine WH.skip 13 _ rfl (by kernel_rfl) (fun _ _ _ h => h) rfl (by assumption) ?_; simp only [setL]
          refine WH.skip 14 _ rfl (by kernel_rfl) (fun _ _ _ h => h) rfl (by assumption) ?_; simp only [setL]
          refine WH.skip 15 _ rfl (by kernel_rfl) (fun _ _ _ h => h) rfl (by assumption) ?_; simp only [setL]
          refine WH.skip 16 _ rfl (by kernel_rfl) (fun _ _ _ h => h) rfl (by assumption) ?_; simp only [setL]
          refine WH.skip 17 _ rfl (by kernel_rfl) (fun _ _ _ h => h) rfl (by assumption) ?_; simp only [setL]
          refine WH.skip 18 _ rfl (by kernel_rfl) (fun _ _ _ h => h) rfl (by assumption) ?_; simp only [setL]
          refine WH.skip 19 _ rfl (by kernel_rfl) (fun _ _ _ h => h) rfl (by assumption) ?_; simp only [setL]
          refine WH.skip 20 _ rfl (by kernel_rfl) (fun _ _ _ h => h) rfl (by assumption) ?_; simp only [setL]
          refine WH.skip 21 _ rfl (by kernel_rfl) (fun _ _ _ h => h) rfl (by assumption) ?_; simp only [setL]
          refine WH.tk 22 ?_; simp only [setL]
          refine WH.tk 23 ?_; simp only [setL]
          refine WH.tk 24 ?_; simp only [setL]
          refine WH.tk 25 ?_; simp only [setL]
          refine WH.tk 26 ?_; simp only [setL]
          refine WH.tk 27 ?_; simp only [setL]
          refine WH.tk 28 ?_; simp only [setL]
          refine WH.tv 29 rfl (fun w' hSw => exec_load_cell _ _ rfl (⟨(ad.add (k * 5)).block, (ad.add (k * 5)).off + 1, none⟩) rfl (.int .i64 c.block) ((hSw.cell (block_lt_of_cell F1.out)).trans F1.out) _ Tryz.underlying3 rfl) ?_; simp only [setL]
          refine WH.tk 30 ?_; simp only [setL]
          cases h30 : decide (c.block < 0)
          focus (
            refine WH.tk 31 ?_; simp only [setL]
            refine WH.tk 32 ?_; simp only [setL]
            refine WH.tk 33 ?_; simp only [setL]
            refine WH.tk 34 ?_; simp only [setL]
            refine WH.tk 35 ?_; simp only [setL]
            refine WH.tk 36 ?_; simp only [setL]
            refine WH.tv 37 rfl (fun w' hSw => exec_load_pair _ _ rfl ⟨(ad.add (k * 5)).block, (ad.add (k * 5)).off + 2, none⟩ rfl (.int .i64 c.p.at_) (.slice Ad nd cd) ((hSw.cell (block_lt_of_cell F2.out)).trans F2.out) ((hSw.cell (block_lt_of_cell F3.out)).trans F3.out) _ Tryz.underlying58 Tryz.rpatchSize) ?_; simp only [setL]
            refine WH.only 38 _ rfl (by kernel_rfl) rfl (fun K hK => ?_); go_simp; refine (right_any c.p Ad nd cd _ (Hcv.out.p.below hSn)).mono ?_; rintro e w3 ⟨rfl, hb3⟩; go_simp
            have hSn := bt hSn hb3; refine hK _ _ hSn ?_; clear hK; clear K; simp only [setL]
            cases h38 : c.p.right
            focus (
              refine WH.tk 39 ?_; simp only [setL]
              refine WH.tk 40 ?_; simp only [setL]
              refine WH.tk 41 ?_; simp only [setL]
              refine WH.skip 42 _ rfl (by kernel_rfl) (fun _ _ _ h => h) rfl (by assumption) ?_; simp only [setL]
              refine WH.skip 43 _ rfl (by kernel_rfl) (fun _ _ _ h => h) rfl (by assumption) ?_; simp only [setL]
              refine WH.skip 44 _ rfl (by kernel_rfl) (fun _ _ _ h => h) rfl (by assumption) ?_; simp only [setL]
              refine WH.skip 45 _ rfl (by kernel_rfl) (fun _ _ _ h => h) rfl (by assumption) ?_; simp only [setL]
              refine WH.skip 46 _ rfl (by kernel_rfl) (fun _ _ _ h => h) rfl (by assumption) ?_; simp only [setL]
              refine WH.skip 47 _ rfl (by kernel_rfl) (fun _ _ _ h => h) rfl (by assumption) ?_; simp only [setL]
              refine WH.skip 48 _ rfl (by kernel_rfl) (fun _ _ _ h => h) rfl (by assumption) ?_; simp only [setL]
              refine WH.skip 49 _ rfl (by kernel_rfl) (fun _ _ _ h => h) rfl (by assumption) ?_; simp only [setL]
              refine WH.skip 50 _ rfl (by kernel_rfl) (fun _ _ _ h => h) rfl (by assumption) ?_; simp only [setL]
              refine WH.skip 51 _ rfl (by kernel_rfl) (fun _ _ _ h => h) rfl (by assumption) ?_; simp only [setL]
              refine WH.onlySkip 52 _ rfl (by kernel_rfl) rfl (by assumption) ?_; simp only [setL]
              refine WH.skip 53 _ rfl (by kernel_rfl) (fun _ _ _ h => h) rfl (by assumption) ?_; simp only [setL]
              refine WH.tk 54 ?_; simp only [setL]
              have Hf := Lib.hid (Hno.out (by rw [Hd.out, h38]; simp))
              refine WH.done (by kernel_rfl) ?_
              have Hfin := Lib.hid (bt Hbw.out hSn)
              clear hSn
              go_wp2_with fail
              go_ret
              rw [Hf.out]
              exact ⟨rfl, Hfin.out⟩)
            focus (
              refine WH.tk 39 ?_; simp only [setL]
              refine WH.tk 40 ?_; simp only [setL]
              refine WH.tk 41 ?_; simp only [setL]
              refine WH.tk 42 ?_; simp only [setL]
              refine WH.tk 43 ?_; simp only [setL]
              refine WH.tk 44 ?_; simp only [setL]
              refine WH.tk 45 ?_; simp only [setL]
              refine WH.tv 46 rfl (fun w' hSw => exec_load_cell _ _ rfl (⟨(ad.add (k * 5)).block, (ad.add (k * 5)).off + 4, none⟩) rfl (.slice An nn cn) ((hSw.cell (block_lt_of_cell F4.out)).trans F4.out) _ Tryz.underlying59 rfl) ?_; simp only [setL]
              refine WH.tk 47 ?_; simp only [setL]
              refine WH.tk 48 ?_; simp only [setL]
              refine WH.tk 49 ?_; simp only [setL]
              refine WH.tk 50 ?_; simp only [setL]
              refine WH.tv 51 rfl (fun w' hSw => exec_load_cell _ _ rfl (ad.add (k * 5)) rfl (.int .i64 c.id) ((hSw.cell (block_lt_of_cell C0.out)).trans C0.out) _ Tryz.underlying3 rfl) ?_; simp only [setL]
              refine WH.only 52 _ rfl (by kernel_rfl) rfl (fun K hK => ?_); go_simp; refine (rrise9_any An nn cn c.needs Hcv.out.len HN.out c.id _ (Hcv.out.read.below hSn)).mono ?_; rintro e w4 ⟨rfl, kq, rfl⟩; go_simp
              have hSn := bt hSn (bdrew _ kq); refine hK _ _ hSn ?_; clear hK; clear K; simp only [setL]
              cases h52 : riseN c.id 0 c.needs
              focus (
                refine WH.tk 53 ?_; simp only [setL]
                refine WH.tk 54 ?_; simp only [setL]
                have Hf := Lib.hid (Hno.out (by rw [Hd.out, h52]; simp))
                refine WH.done (by kernel_rfl) ?_
                have Hfin := Lib.hid (bt Hbw.out hSn)
                clear hSn
                go_wp2_with fail
                go_ret
                rw [Hf.out]
                exact ⟨rfl, Hfin.out⟩)
              focus (
                refine WH.tk 53 ?_; simp only [setL]
                refine WH.tk 54 ?_; simp only [setL]
                have Hf := Lib.hid (Hyes.out (by rw [Hd.out, decide_eq_true (show z < c.id by have := HZ0.out; omega), decide_eq_true (show 0 ≤ c.block by have := of_decide_eq_false h30; omega), h38, h52]; rfl))
                refine WH.done (by kernel_rfl) ?_
                have Hfin := Lib.hid (bt Hbw.out hSn)
                clear hSn h38 h52 h30
                go_wp2_with fail
                go_roundw
                case rel => exact ⟨k + 1, by omega, by go_num, Hf.out, Hfin.out⟩
                case measure => simp [intOf]; omega)))
          focus (
            refine WH.tk 31 ?_; simp only [setL]
            refine WH.tk 32 ?_; simp only [setL]
            refine WH.skip 33 _ rfl (by kernel_rfl) (fun _ _ _ h => h) rfl (by assumption) ?_; simp only [setL]
            refine WH.skip 34 _ rfl (by kernel_rfl) (fun _ _ _ h => h) rfl (by assumption) ?_; simp only [setL]
            refine WH.skip 35 _ rfl (by kernel_rfl) (fun _ _ _ h => h) rfl (by assumption) ?_; simp only [setL]
            refine WH.skip 36 _ rfl (by kernel_rfl) (fun _ _ _ h => h) rfl (by assumption) ?_; simp only [setL]
            refine WH.skip 37 _ rfl (by kernel_rfl) (fun _ _ _ h => h) rfl (by assumption) ?_; simp only [setL]
            refine WH.onlySkip 38 _ rfl (by kernel_rfl) rfl (by assumption) ?_; simp only [setL]
            refine WH.skip 39 _ rfl (by kernel_rfl) (fun _ _ _ h => h) rfl (by assumption) ?_; simp only [setL]
            refine WH.tk 40 ?_; simp only [setL]
            refine WH.tk 41 ?_; simp only [setL]
            refine WH.skip 42 _ rfl (by kernel_rfl) (fun _ _ _ h => h) rfl (by assumption) ?_; simp only [setL]
            refine WH.skip 43 _ rfl (by kernel_rfl) (fun _ _ _ h => h) rfl (by assumption) ?_; simp only [setL]
            refine WH.skip 44 _ rfl (by kernel_rfl) (fun _ _ _ h => h) rfl (by assumption) ?_; simp only [setL]
            refine WH.skip 45 _ rfl (by kernel_rfl) (fun _ _ _ h => h) rfl (by assumption) ?_; simp only [setL]
            refine WH.skip 46 _ rfl (by kernel_rfl) (fun _ _ _ h => h) rfl (by assumption) ?_; simp only [setL]
            refine WH.skip 47 _ rfl (by kernel_rfl) (fun _ _ _ h => h) rfl (by assumption) ?_; simp only [setL]
            refine WH.skip 48 _ rfl (by kernel_rfl) (fun _ _ _ h => h) rfl (by assumption) ?_; simp only [setL]
            refine WH.skip 49 _ rfl (by kernel_rfl) (fun _ _ _ h => h) rfl (by assumption) ?_; simp only [setL]
            refine WH.skip 50 _ rfl (by kernel_rfl) (fun _ _ _ h => h) rfl (by assumption) ?_; simp only [setL]
            refine WH.skip 51 _ rfl (by kernel_rfl) (fun _ _ _ h => h) rfl (by assumption) ?_; simp only [setL]
            refine WH.onlySkip 52 _ rfl (by kernel_rfl) rfl (by assumption) ?_; simp only [setL]
            refine WH.skip 53 _ rfl (by kernel_rfl) (fun _ _ _ h => h) rfl (by assumption) ?_; simp only [setL]
            refine WH.tk 54 ?_; simp only [setL]
            have Hf := Lib.hid (Hno.out (by rw [Hd.out, decide_eq_false (show ¬ 0 ≤ c.block by have := of_decide_eq_true h30; omega)]; simp))
            refine WH.done (by kernel_rfl) ?_
            have Hfin := Lib.hid (bt Hbw.out hSn)
            clear hSn
            go_wp2_with fail
            go_ret
            rw [Hf.out]
            exact ⟨rfl, Hfin.out⟩)
        · have d2 : decide (0 < k) = true := by simp; omega
          obtain ⟨k', hkl', hk', hp0⟩ := Hprev.out h0
          have P0 := Lib.hid hp0
          have q1 : IntKind.i64.wrap ((k : Int) - 1) = k' := by rw [IntKind.wrap_i64]; omega
          have z2 : (k' : Int) < n := by omega
          clear g1 h0 hp0 hk' hkl'
          go_wp2_with fail
          refine WH.start (S := fun w' : World => Below wr.heap.size wr w') (List.replicate 55 false) 55 rfl rfl (by kernel_rfl) (bdrew wr 1) (fun hSn => ?_)
          simp only [List.replicate]
          refine WH.tk 0 ?_; simp only [setL]
          refine WH.tk 1 ?_; simp only [setL]
          refine WH.tk 2 ?_; simp only [setL]
          refine WH.tk 3 ?_; simp only [setL]
          refine WH.tv 4 rfl (fun w' hSw => exec_load_cell _ _ rfl (ad.add (k * 5)) rfl (.int .i64 c.id) ((hSw.cell (block_lt_of_cell C0.out)).trans C0.out) _ Tryz.underlying3 rfl) ?_; simp only [setL]
          refine WH.tk 5 ?_; simp only [setL]
          refine WH.tk 6 ?_; simp only [setL]
          refine WH.tk 7 ?_; simp only [setL]
          refine WH.tk 8 ?_; simp only [setL]
          refine WH.tk 9 ?_; simp only [setL]
          refine WH.tk 10 ?_; simp only [setL]
          refine WH.tk 11 ?_; simp only [setL]
          refine WH.tk 12 ?_; simp only [setL]
          refine WH.tk 13 ?_; simp only [setL]
          refine WH.tv 14 rfl (fun w' hSw => exec_load_cell _ _ rfl (ad.add (k * 5)) rfl (.int .i64 c.id) ((hSw.cell (block_lt_of_cell C0.out)).trans C0.out) _ Tryz.underlying3 rfl) ?_; simp only [setL]
          refine WH.tk 15 ?_; simp only [setL]
          refine WH.tk 16 ?_; simp only [setL]
          refine WH.tk 17 ?_; simp only [setL]
          refine WH.tk 18 ?_; simp only [setL]
          refine WH.tk 19 ?_; simp only [setL]
          refine WH.tv 20 rfl (fun w' hSw => exec_load_cell _ _ rfl (ad.add (k' * 5)) rfl (.int .i64 z) ((hSw.cell (block_lt_of_cell P0.out)).trans P0.out) _ Tryz.underlying3 rfl) ?_; simp only [setL]
          refine WH.tk 21 ?_; simp only [setL]
          cases h21 : decide (c.id ≤ z)
          focus (
            refine WH.tk 22 ?_; simp only [setL]
            refine WH.tk 23 ?_; simp only [setL]
            refine WH.tk 24 ?_; simp only [setL]
            refine WH.tk 25 ?_; simp only [setL]
            refine WH.tk 26 ?_; simp only [setL]
            refine WH.tk 27 ?_; simp only [setL]
            refine WH.tk 28 ?_; simp only [setL]
            refine WH.tv 29 rfl (fun w' hSw => exec_load_cell _ _ rfl (⟨(ad.add (k * 5)).block, (ad.add (k * 5)).off + 1, none⟩) rfl (.int .i64 c.block) ((hSw.cell (block_lt_of_cell F1.out)).trans F1.out) _ Tryz.underlying3 rfl) ?_; simp only [setL]
            refine WH.tk 30 ?_; simp only [setL]
            cases h30 : decide (c.block < 0)
            focus (
              refine WH.tk 31 ?_; simp only [setL]
              refine WH.tk 32 ?_; simp only [setL]
              refine WH.tk 33 ?_; simp only [setL]
              refine WH.tk 34 ?_; simp only [setL]
              refine WH.tk 35 ?_; simp only [setL]
              refine WH.tk 36 ?_; simp only [setL]
              refine WH.tv 37 rfl (fun w' hSw => exec_load_pair _ _ rfl ⟨(ad.add (k * 5)).block, (ad.add (k * 5)).off + 2, none⟩ rfl (.int .i64 c.p.at_) (.slice Ad nd cd) ((hSw.cell (block_lt_of_cell F2.out)).trans F2.out) ((hSw.cell (block_lt_of_cell F3.out)).trans F3.out) _ Tryz.underlying58 Tryz.rpatchSize) ?_; simp only [setL]
              refine WH.only 38 _ rfl (by kernel_rfl) rfl (fun K hK => ?_); go_simp; refine (right_any c.p Ad nd cd _ (Hcv.out.p.below hSn)).mono ?_; rintro e w3 ⟨rfl, hb3⟩; go_simp
              have hSn := bt hSn hb3; refine hK _ _ hSn ?_; clear hK; clear K; simp only [setL]
              cases h38 : c.p.right
              focus (
                refine WH.tk 39 ?_; simp only [setL]
                refine WH.tk 40 ?_; simp only [setL]
                refine WH.tk 41 ?_; simp only [setL]
                refine WH.skip 42 _ rfl (by kernel_rfl) (fun _ _ _ h => h) rfl (by assumption) ?_; simp only [setL]
                refine WH.skip 43 _ rfl (by kernel_rfl) (fun _ _ _ h => h) rfl (by assumption) ?_; simp only [setL]
                refine WH.skip 44 _ rfl (by kernel_rfl) (fun _ _ _ h => h) rfl (by assumption) ?_; simp only [setL]
                refine WH.skip 45 _ rfl (by kernel_rfl) (fun _ _ _ h => h) rfl (by assumption) ?_; simp only [setL]
                refine WH.skip 46 _ rfl (by kernel_rfl) (fun _ _ _ h => h) rfl (by assumption) ?_; simp only [setL]
                refine WH.skip 47 _ rfl (by kernel_rfl) (fun _ _ _ h => h) rfl (by assumption) ?_; simp only [setL]
                refine WH.skip 48 _ rfl (by kernel_rfl) (fun _ _ _ h => h) rfl (by assumption) ?_; simp only [setL]
                refine WH.skip 49 _ rfl (by kernel_rfl) (fun _ _ _ h => h) rfl (by assumption) ?_; simp only [setL]
                refine WH.skip 50 _ rfl (by kernel_rfl) (fun _ _ _ h => h) rfl (by assumption) ?_; simp only [setL]
                refine WH.skip 51 _ rfl (by kernel_rfl) (fun _ _ _ h => h) rfl (by assumption) ?_; simp only [setL]
                refine WH.onlySkip 52 _ rfl (by kernel_rfl) rfl (by assumption) ?_; simp only [setL]
                refine WH.skip 53 _ rfl (by kernel_rfl) (fun _ _ _ h => h) rfl (by assumption) ?_; simp only [setL]
                refine WH.tk 54 ?_; simp only [setL]
                have Hf := Lib.hid (Hno.out (by rw [Hd.out, h38]; simp))
                refine WH.done (by kernel_rfl) ?_
                have Hfin := Lib.hid (bt Hbw.out hSn)
                clear hSn
                go_wp2_with fail
                go_ret
                rw [Hf.out]
                exact ⟨rfl, Hfin.out⟩)
              focus (
                refine WH.tk 39 ?_; simp only [setL]
                refine WH.tk 40 ?_; simp only [setL]
                refine WH.tk 41 ?_; simp only [setL]
                refine WH.tk 42 ?_; simp only [setL]
                refine WH.tk 43 ?_; simp only [setL]
                refine WH.tk 44 ?_; simp only [setL]
                refine WH.tk 45 ?_; simp only [setL]
                refine WH.tv 46 rfl (fun w' hSw => exec_load_cell _ _ rfl (⟨(ad.add (k * 5)).block, (ad.add (k * 5)).off + 4, none⟩) rfl (.slice An nn cn) ((hSw.cell (block_lt_of_cell F4.out)).trans F4.out) _ Tryz.underlying59 rfl) ?_; simp only [setL]
                refine WH.tk 47 ?_; simp only [setL]
                refine WH.tk 48 ?_; simp only [setL]
                refine WH.tk 49 ?_; simp only [setL]
                refine WH.tk 50 ?_; simp only [setL]
                refine WH.tv 51 rfl (fun w' hSw => exec_load_cell _ _ rfl (ad.add (k * 5)) rfl (.int .i64 c.id) ((hSw.cell (block_lt_of_cell C0.out)).trans C0.out) _ Tryz.underlying3 rfl) ?_; simp only [setL]
                refine WH.only 52 _ rfl (by kernel_rfl) rfl (fun K hK => ?_); go_simp; refine (rrise9_any An nn cn c.needs Hcv.out.len HN.out c.id _ (Hcv.out.read.below hSn)).mono ?_; rintro e w4 ⟨rfl, kq, rfl⟩; go_simp
                have hSn := bt hSn (bdrew _ kq); refine hK _ _ hSn ?_; clear hK; clear K; simp only [setL]
                cases h52 : riseN c.id 0 c.needs
                focus (
                  refine WH.tk 53 ?_; simp only [setL]
                  refine WH.tk 54 ?_; simp only [setL]
                  have Hf := Lib.hid (Hno.out (by rw [Hd.out, h52]; simp))
                  refine WH.done (by kernel_rfl) ?_
                  have Hfin := Lib.hid (bt Hbw.out hSn)
                  clear hSn
                  go_wp2_with fail
                  go_ret
                  rw [Hf.out]
                  exact ⟨rfl, Hfin.out⟩)
                focus (
                  refine WH.tk 53 ?_; simp only [setL]
                  refine WH.tk 54 ?_; simp only [setL]
                  have Hf := Lib.hid (Hyes.out (by rw [Hd.out, decide_eq_true (show z < c.id by have := of_decide_eq_false h21; omega), decide_eq_true (show 0 ≤ c.block by have := of_decide_eq_false h30; omega), h38, h52]; rfl))
                  refine WH.done (by kernel_rfl) ?_
                  have Hfin := Lib.hid (bt Hbw.out hSn)
                  clear hSn h38 h52 h30 h21
                  go_wp2_with fail
                  go_roundw
                  case rel => exact ⟨k + 1, by omega, by go_num, Hf.out, Hfin.out⟩
                  case measure => simp [intOf]; omega)))
            focus (
              refine WH.tk 31 ?_; simp only [setL]
              refine WH.tk 32 ?_; simp only [setL]
              refine WH.skip 33 _ rfl (by kernel_rfl) (fun _ _ _ h => h) rfl (by assumption) ?_; simp only [setL]
              refine WH.skip 34 _ rfl (by kernel_rfl) (fun _ _ _ h => h) rfl (by assumption) ?_; simp only [setL]
              refine WH.skip 35 _ rfl (by kernel_rfl) (fun _ _ _ h => h) rfl (by assumption) ?_; simp only [setL]
              refine WH.skip 36 _ rfl (by kernel_rfl) (fun _ _ _ h => h) rfl (by assumption) ?_; simp only [setL]
              refine WH.skip 37 _ rfl (by kernel_rfl) (fun _ _ _ h => h) rfl (by assumption) ?_; simp only [setL]
              refine WH.onlySkip 38 _ rfl (by kernel_rfl) rfl (by assumption) ?_; simp only [setL]
              refine WH.skip 39 _ rfl (by kernel_rfl) (fun _ _ _ h => h) rfl (by assumption) ?_; simp only [setL]
              refine WH.tk 40 ?_; simp only [setL]
              refine WH.tk 41 ?_; simp only [setL]
              refine WH.skip 42 _ rfl (by kernel_rfl) (fun _ _ _ h => h) rfl (by assumption) ?_; simp only [setL]
              refine WH.skip 43 _ rfl (by kernel_rfl) (fun _ _ _ h => h) rfl (by assumption) ?_; simp only [setL]
              refine WH.skip 44 _ rfl (by kernel_rfl) (fun _ _ _ h => h) rfl (by assumption) ?_; simp only [setL]
              refine WH.skip 45 _ rfl (by kernel_rfl) (fun _ _ _ h => h) rfl (by assumption) ?_; simp only [setL]
              refine WH.skip 46 _ rfl (by kernel_rfl) (fun _ _ _ h => h) rfl (by assumption) ?_; simp only [setL]
              refine WH.skip 47 _ rfl (by kernel_rfl) (fun _ _ _ h => h) rfl (by assumption) ?_; simp only [setL]
              refine WH.skip 48 _ rfl (by kernel_rfl) (fun _ _ _ h => h) rfl (by assumption) ?_; simp only [setL]
              refine WH.skip 49 _ rfl (by kernel_rfl) (fun _ _ _ h => h) rfl (by assumption) ?_; simp only [setL]
              refine WH.skip 50 _ rfl (by kernel_rfl) (fun _ _ _ h => h) rfl (by assumption) ?_; simp only [setL]
              refine WH.skip 51 _ rfl (by kernel_rfl) (fun _ _ _ h => h) rfl (by assumption) ?_; simp only [setL]
              refine WH.onlySkip 52 _ rfl (by kernel_rfl) rfl (by assumption) ?_; simp only [setL]
              refine WH.skip 53 _ rfl (by kernel_rfl) (fun _ _ _ h => h) rfl (by assumption) ?_; simp only [setL]
              refine WH.tk 54 ?_; simp only [setL]
              have Hf := Lib.hid (Hno.out (by rw [Hd.out, decide_eq_false (show ¬ 0 ≤ c.block by have := of_decide_eq_true h30; omega)]; simp))
              refine WH.done (by kernel_rfl) ?_
              have Hfin := Lib.hid (bt Hbw.out hSn)
              clear hSn
              go_wp2_with fail
              go_ret
              rw [Hf.out]
              exact ⟨rfl, Hfin.out⟩))
          focus (
            refine WH.tk 22 ?_; simp only [setL]
            refine WH.tk 23 ?_; simp only [setL]
            refine WH.tk 24 ?_; simp only [setL]
            refine WH.skip 25 _ rfl (by kernel_rfl) (fun _ _ _ h => h) rfl (by assumption) ?_; simp only [setL]
            refine WH.skip 26 _ rfl (by kernel_rfl) (fun _ _ _ h => h) rfl (by assumption) ?_; simp only [setL]
            refine WH.skip 27 _ rfl (by kernel_rfl) (fun _ _ _ h => h) rfl (by assumption) ?_; simp only [setL]
            refine WH.skip 28 _ rfl (by kernel_rfl) (fun _ _ _ h => h) rfl (by assumption) ?_; simp only [setL]
            refine WH.skip 29 _ rfl (by kernel_rfl) (fun _ _ _ h => h) rfl (by assumption) ?_; simp only [setL]
            refine WH.skip 30 _ rfl (by kernel_rfl) (fun _ _ _ h => h) rfl (by assumption) ?_; simp only [setL]
            refine WH.tk 31 ?_; simp only [setL]
            refine WH.tk 32 ?_; simp only [setL]
            refine WH.skip 33 _ rfl (by kernel_rfl) (fun _ _ _ h => h) rfl (by assumption) ?_; simp only [setL]
            refine WH.skip 34 _ rfl (by kernel_rfl) (fun _ _ _ h => h) rfl (by assumption) ?_; simp only [setL]
            refine WH.skip 35 _ rfl (by kernel_rfl) (fun _ _ _ h => h) rfl (by assumption) ?_; simp only [setL]
            refine WH.skip 36 _ rfl (by kernel_rfl) (fun _ _ _ h => h) rfl (by assumption) ?_; simp only [setL]
            refine WH.skip 37 _ rfl (by kernel_rfl) (fun _ _ _ h => h) rfl (by assumption) ?_; simp only [setL]
            refine WH.onlySkip 38 _ rfl (by kernel_rfl) rfl (by assumption) ?_; simp only [setL]
            refine WH.skip 39 _ rfl (by kernel_rfl) (fun _ _ _ h => h) rfl (by assumption) ?_; simp only [setL]
            refine WH.tk 40 ?_; simp only [setL]
            refine WH.tk 41 ?_; simp only [setL]
            refine WH.skip 42 _ rfl (by kernel_rfl) (fun _ _ _ h => h) rfl (by assumption) ?_; simp only [setL]
            refine WH.skip 43 _ rfl (by kernel_rfl) (fun _ _ _ h => h) rfl (by assumption) ?_; simp only [setL]
            refine WH.skip 44 _ rfl (by kernel_rfl) (fun _ _ _ h => h) rfl (by assumption) ?_; simp only [setL]
            refine WH.skip 45 _ rfl (by kernel_rfl) (fun _ _ _ h => h) rfl (by assumption) ?_; simp only [setL]
            refine WH.skip 46 _ rfl (by kernel_rfl) (fun _ _ _ h => h) rfl (by assumption) ?_; simp only [setL]
            refine WH.skip 47 _ rfl (by kernel_rfl) (fun _ _ _ h => h) rfl (by assumption) ?_; simp only [setL]
            refine WH.skip 48 _ rfl (by kernel_rfl) (fun _ _ _ h => h) rfl (by assumption) ?_; simp only [setL]
            refine WH.skip 49 _ rfl (by kernel_rfl) (fun _ _ _ h => h) rfl (by assumption) ?_; simp only [setL]
            refine WH.skip 50 _ rfl (by kernel_rfl) (fun _ _ _ h => h) rfl (by assumption) ?_; simp only [setL]
            refine WH.skip 51 _ rfl (by kernel_rfl) (fun _ _ _ h => h) rfl (by assumption) ?_; simp only [setL]
            refine WH.onlySkip 52 _ rfl (by kernel_rfl) rfl (by assumption) ?_; simp only [setL]
            refine WH.skip 53 _ rfl (by kernel_rfl) (fun _ _ _ h => h) rfl (by assumption) ?_; simp only [setL]
            refine WH.tk 54 ?_; simp only [setL]
            have Hf := Lib.hid (Hno.out (by rw [Hd.out, decide_eq_false (show ¬ z < c.id by have := of_decide_eq_true h21; omega)]; simp))
            refine WH.done (by kernel_rfl) ?_
            have Hfin := Lib.hid (bt Hbw.out hSn)
            clear hSn
            go_wp2_with fail
            go_ret
            rw [Hf.out]
            exact ⟨rfl, Hfin.out⟩)
    · have d0 : decide ((k : Int) < n) = false := by simpa using hlt
      have Hf := Lib.hid (Hb.out.symm.trans (mayC_iff0.2 fun i hi => Hall.out i hi (by have := Hn.out; omega)))
      go_wp2_with fail
      go_ret
      rw [Hf.out]
      exact ⟨rfl, Hbw.out⟩

end Go.Proofs.YtpmbpklbiocclaaGreat
