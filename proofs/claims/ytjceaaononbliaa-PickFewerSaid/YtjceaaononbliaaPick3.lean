/-
  Contracts of the document's Ahead and Rank, and of the examples.
-/
import Derived.Test.YtjceaaononbliaaPick2
namespace Go.Proofs.Ytjceaaononbliaa
open Go.RowKit

theorem ordN_eql (x y : Nat) : (ordN x y == 0) = decide (keyN x = keyN y) := by
  unfold ordN
  rw [Bool.eq_iff_iff]
  simp only [beq_iff_eq, decide_eq_true_eq]
  exact cmpI_zero
theorem RC.of_fc {w : World} {g n : Nat} {t : TypeId} {f : Nat → Nat} (h : Blk w g t (fc n f)) : RC w (some ⟨g, 0, none⟩) (ivals ((List.range n).map fun k => (f k : Int))) := by
  refine RC.of_blk h _ ?_
  have e : ivals ((List.range n).map fun k => (f k : Int)) = (fc n f).toList := by simp [ivals, fc]
  rw [e, List.take_of_length_le (Nat.le_refl _)]

set_option maxHeartbeats 1600000 in
theorem rahead_any (A : Option Addr) (n cap : Nat) (l : List Nat) (hn : l.length = n) (hl : ∀ x ∈ l, x < 18446744073709551616) (x y : Nat) (hx : x < n) (hy : y < n) (w : World) (hr : RC w A (fvals l)) :
    Calls Try.prog 27 #[.slice A n cap, .int .i64 x, .int .i64 y] w (RetQ (.bool (rkB l x y)) w) := by
  have hxl : x < l.length := by omega
  have hyl : y < l.length := by omega
  obtain ⟨ad, rfl, hc⟩ := hr.flt x hxl
  obtain ⟨ad', e', hc'⟩ := hr.flt y hyl
  obtain rfl : ad = ad' := by simpa using e'
  have e1 := Lib.hid (ordN_pos l[x] l[y])
  have e2 := Lib.hid (ordN_eql l[x] l[y])
  have e3 : Hid (rkB l x y = (decide (keyN l[y] < keyN l[x]) || (decide (keyN l[x] = keyN l[y]) && decide (x < y)))) := Lib.hid (by
    unfold rkB
    rw [keyAt_get hxl, keyAt_get hyl, Bool.eq_iff_iff]
    simp)
  rw [e3.out, ← e1.out, ← e2.out]
  have Hx := Lib.hid (hl _ (List.getElem_mem hxl))
  have Hy := Lib.hid (hl _ (List.getElem_mem hyl))
  clear e1 e2 e3
  generalize l[x] = u at *
  generalize l[y] = v at *
  have z1 : (x : Int) < n := by omega
  have z2 : (y : Int) < n := by omega
  have HO : Hid (∀ W, Calls Try.prog 30 #[.float .f64 u, .float .f64 v] W (RetQ (.int .i64 (ordN u v)) W)) := Lib.hid fun W => rorder_any u v Hx.out Hy.out W
  generalize ordN u v = c at *
  clear e' hr hl
  obtain ⟨b1, h1⟩ : ∃ b, decide (0 < c) = b := ⟨_, rfl⟩
  obtain ⟨b2, h2⟩ : ∃ b, (c == 0) = b := ⟨_, rfl⟩
  obtain ⟨b3, h3⟩ : ∃ b, decide (x < y) = b := ⟨_, rfl⟩
  rw [h1, h2, h3]
  cases b1 <;> cases b2 <;> cases b3
  all_goals
    go_enter Try.func27, Try.ntmps27
    go_wp2_with fail
    go_quiet ((go_at_call 30; exact Calls.quiet_of (HO.out _)))
    go_wp2_with fail
    go_ret
    exact ⟨rfl, nq, rfl⟩

set_option maxHeartbeats 4000000 in
theorem rrank_any (A : Option Addr) (n cap : Nat) (l : List Nat) (hn : l.length = n) (hm : n ≤ 1000) (hl : ∀ x ∈ l, x < 18446744073709551616) (f : Nat → Nat) (hf : Ranked l n f) (w : World) (hr : RC w A (fvals l)) :
    Calls Try.prog 15 #[.slice A n cap] w fun e w' => ∃ g, e = .returned (.slice (some ⟨g, 0, none⟩) n n) ∧ w.heap.size ≤ g ∧ Blk w' g 3 (fc n f) ∧ Below w.heap.size w w' := by
  have Hn := Lib.hid hn
  have Hm := Lib.hid hm
  have Hl := Lib.hid hl
  have Hr := Lib.hid hr
  have Hf := Lib.hid hf
  clear hn hm hl hr hf
  go_enter Try.func15, Try.ntmps15
  go_wp2_with (refine wpList_make_zero rfl _ _ _ _ rfl Try.underlying27 (.int .i64 0) 8 Try.infoInt rfl .i64 .i64 _ _ n rfl rfl rfl rfl (by have := Hm.out; omega) (by have := Hm.out; omega) (fc n (fun _ => 0)) (fc_zero n) ?_)
  apply Stop.go; intro w1 Hg1 Hb1
  generalize hg : w.heap.size = g at *
  have Hgl := Lib.hid hg
  clear hg
  go_wp2_with fail
  go_loopw [4] (fun u wr => ∃ (i : Nat) (h : Nat → Nat), i ≤ n ∧ u = .int .i64 i ∧ (∀ j, j < i → h (aheadN l j n) = j) ∧ SF w1 g 3 n h wr) (fun u _ => n - (intOf u).toNat)
  case atStart => exact ⟨0, fun _ => 0, Nat.zero_le _, rfl, fun j h => absurd h (Nat.not_lt_zero j), Only.refl _ _, Hb1.out⟩
  case round =>
    obtain ⟨i, h, hi, rfl, hj, S1⟩ := hrel
    have Hi := Lib.hid hi
    have Hj := Lib.hid hj
    have HS1 := Lib.hid S1
    clear hi hj S1
    by_cases hlt : i < n
    · have d0 : decide (i < n) = true := by simpa using hlt
      obtain ⟨i', hi'⟩ : ∃ i', i' = i + 1 := ⟨_, rfl⟩
      have q1 : IntKind.i64.wrap ((i : Int) + 1) = i' := by have := Hm.out; rw [IntKind.wrap_i64]; omega
      have HI := Lib.hid (show i' = i + 1 ∧ i < n from ⟨hi', hlt⟩)
      clear hi' hlt
      go_wp2_with fail
      go_loopw [5, 6] (fun u v wr2 => ∃ (k c : Nat), k ≤ n ∧ c = aheadN l i k ∧ u = .int .i64 c ∧ v = .int .i64 k ∧ SF w1 g 3 n h wr2) (fun _ v _ => n - (intOf v).toNat)
      case atStart => exact ⟨0, 0, Nat.zero_le _, rfl, rfl, rfl, HS1.out⟩
      case round =>
        clear HS1
        obtain ⟨k, c, hk, hc, rfl, rfl, S2⟩ := hrel
        have Hk := Lib.hid hk
        have Hc := Lib.hid hc
        have HS2 := Lib.hid S2
        have hcm := cntN_max (fun k => rkB l k i) k
        have HcL := Lib.hid (show c ≤ k by rw [Hc.out]; exact hcm)
        clear hk hc S2 hcm
        have HBw := Lib.hid (bonly Hg1.out.1 HS2.out.only (by rw [Hgl.out]; exact Nat.le_refl _))
        by_cases hlt : k < n
        · have d1 : decide (k < n) = true := by simpa using hlt
          obtain ⟨k', hk'⟩ : ∃ k', k' = k + 1 := ⟨_, rfl⟩
          have q2 : IntKind.i64.wrap ((k : Int) + 1) = k' := by have := Hm.out; rw [IntKind.wrap_i64]; omega
          have HK := Lib.hid (show k' = k + 1 ∧ k < n from ⟨hk', hlt⟩)
          clear hk' hlt
          by_cases hki : k = i
          · have d2 : ((k : Int) != i) = false := by rw [hki]; simp
            have HN := Lib.hid (aheadN_next l i k)
            rw [show rkB l k i = false by rw [hki]; exact rkB_self l i] at HN
            clear hki
            go_wp2_with fail
            go_roundw
            case rel => exact ⟨k', c, by have := HK.out; omega, by rw [HK.out.1, HN.out, Hc.out]; rfl, rfl, rfl, HS2.out⟩
            case measure => have := HK.out; simp [intOf]; omega
          · have d2 : ((k : Int) != i) = true := by simp; omega
            have HN := Lib.hid (aheadN_next l i k)
            have HA := Lib.hid (rahead_any A n cap l Hn.out Hl.out k i HK.out.2 HI.out.2 wr (Hr.out.below HBw.out))
            clear hki
            generalize rkB l k i = b at *
            obtain ⟨c', hc'⟩ : ∃ c', c' = c + 1 := ⟨_, rfl⟩
            have q3 : IntKind.i64.wrap ((c : Int) + 1) = c' := by have := Hm.out; have := HcL.out; have := HK.out; rw [IntKind.wrap_i64]; omega
            have HC' := Lib.hid hc'
            clear hc'
            cases b
            · go_wp2_with (go_at_call 27; refine HA.out.mono ?_; rintro _ w3 ⟨rfl, q, rfl⟩)
              go_roundw
              case rel => exact ⟨k', c, by have := HK.out; omega, by rw [HK.out.1, HN.out, Hc.out]; rfl, rfl, rfl, HS2.out.drewN q⟩
              case measure => have := HK.out; simp [intOf]; omega
            · go_wp2_with (go_at_call 27; refine HA.out.mono ?_; rintro _ w3 ⟨rfl, q, rfl⟩)
              go_roundw
              case rel => exact ⟨k', c', by have := HK.out; omega, by rw [HK.out.1, HN.out, HC'.out, Hc.out]; rfl, rfl, rfl, HS2.out.drewN q⟩
              case measure => have := HK.out; simp [intOf]; omega
        · have d1 : decide (k < n) = false := by simpa using hlt
          have hkn : k = n := by have := Hk.out; omega
          have HE : Hid (c = aheadN l i n ∧ c < n) := Lib.hid (by rw [Hc.out, hkn]; exact ⟨rfl, aheadN_max HI.out.2⟩)
          have z1 : (c : Int) < n := by have := HE.out.2; omega
          clear hlt hkn
          go_wp2_with (refine wpList_store_cell rfl _ _ _ rfl Try.sizeInt g c rfl (.int .i64 i) rfl rfl rfl _ _ HS2.out.blk (by rw [fc_size]; exact HE.out.2) ?_)
          apply Stop.go; intro w4 Ho4 Hb4
          go_wp2_with fail
          go_roundw
          case rel =>
            refine ⟨i', upd h c i, by have := HI.out; omega, rfl, fun j hj => ?_, HS2.out.only.trans Ho4.out, ?_⟩
            · unfold upd
              by_cases hji : j = i
              · rw [if_pos (by rw [hji]; exact HE.out.1.symm), hji]
              · have hjl : j < i := by have := HI.out; omega
                rw [if_neg (fun e => hji (aheadN_inj (by have := HI.out; omega) HI.out.2 (by rw [e]; exact HE.out.1)))]
                exact Hj.out j hjl
            · have h := Hb4.out
              rw [fc_set] at h
              exact h
          case measure => have := HI.out; simp [intOf]; omega
    · have d0 : decide (i < n) = false := by simpa using hlt
      have hin : i = n := by have := Hi.out; omega
      have hbk := HS1.out.blk
      rw [fc_congr (h := f) (fun p hp => by
        have h1 := Hj.out (f p) (by rw [hin]; exact Hf.out.lt p hp)
        rw [Hf.out.ahead hp] at h1
        exact h1)] at hbk
      have HB2 := Lib.hid hbk
      have HBw := Lib.hid (bonly Hg1.out.1 HS1.out.only (by rw [Hgl.out]; exact Nat.le_refl _))
      clear hlt hin hbk
      go_wp2_with fail
      go_ret
      exact ⟨g, rfl, by rw [Hgl.out]; exact Nat.le_refl _, HB2.out, HBw.out⟩

end Go.Proofs.Ytjceaaononbliaa
