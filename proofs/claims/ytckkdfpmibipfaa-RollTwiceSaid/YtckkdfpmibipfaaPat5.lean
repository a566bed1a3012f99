/-
  The contract of package patch's Diff.
-/
import Derived.Test.YtckkdfpmibipfaaPat4
import Derived.WalkMore
namespace Go.Proofs.Ytckkdfpmibipfaa
open Go.RowKit

theorem unlike_of {a b : List UInt8} {s : Nat} {x y : UInt8} (hx : a[s]? = some x) (hy : b[s]? = some y) : unlike a b s = !(x == y) := by
  unfold unlike
  simp [List.getD, hx, hy]
theorem runs_len (u : Nat → Bool) (k : Nat) : (runsTo u k).length ≤ k := by
  induction k with
  | zero => exact Nat.le_refl _
  | succ k ih =>
    show (if u k then _ else runsTo u k).length ≤ _
    split
    · split
      · simp; omega
      · simp
        omega
    · omega

set_option maxHeartbeats 1600000 in
theorem pdiff_any (a b : List UInt8) (ha : a.length = 256) (hb : b.length = 256) (w : World) :
    Calls Try.prog 39 #[.agg (bcells a), .agg (bcells b)] w (RetPL w (diffP a b)) := by
  have HA := Lib.hid ha
  have HB := Lib.hid hb
  clear ha hb
  obtain ⟨u, hu⟩ : ∃ u, unlike a b = u := ⟨_, rfl⟩
  have Hu := Lib.hid hu
  clear hu
  go_enter Try.func39, Try.ntmps39
  go_wp2_with (refine wpList_box_row rfl _ _ rfl _ rfl ?_)
  apply Stop.go; intro w1 Hg1 Hb1
  go_wp2_with (refine wpList_box_row rfl _ _ rfl _ rfl ?_)
  apply Stop.go; intro w2 Hg2 Hb2
  have Hw2 := Lib.hid (bt Hg1.out.1 Hg2.out.1)
  have Hx2 := Lib.hid (Hb1.out.ext Hg2.out.1)
  go_wp2_with fail
  go_step3
  go_wp2_with fail
  go_step3
  go_wp2_with fail
  go_loopw [5, 6] (fun o i wr => ∃ k : Nat, k ≤ 256 ∧ i = .int .i64 k ∧ (k = 0 ∨ k = 256 ∨ u k = false) ∧ OwnP wr w2.heap.size 57 o ((runsTo u k).map (ptOf b)) ∧ Below w2.heap.size w2 wr) (fun _ i _ => 256 - (intOf i).toNat)
  case atStart => exact ⟨0, by omega, rfl, Or.inl rfl, OwnP.nil_ _ _ _, Below.refl _ _⟩
  case round =>
    obtain ⟨k, hk, rfl, hst, how, hbw⟩ := hrel
    have Hst := Lib.hid hst
    have How := Lib.hid how
    have Hbw := Lib.hid hbw
    clear hst how hbw
    by_cases hlt : k < 256
    · have d0 : decide ((k : Int) < 256) = true := by simp; omega
      have Hxr := Lib.hid (Hx2.out.ext Hbw.out)
      have Hyr := Lib.hid (Hb2.out.ext Hbw.out)
      go_wp2_with fail
      generalize hw9 : wr = w9 at *
      clear hw9
      go_loopw [6] (fun i wq => ∃ s : Nat, k ≤ s ∧ s < 256 ∧ i = .int .i64 s ∧ runsTo u s = runsTo u k ∧ (s = k ∨ u (s - 1) = false) ∧ ∃ m, wq = w9.drewN m) (fun i _ => 256 - (intOf i).toNat)
      case atStart => exact ⟨k, Nat.le_refl _, hlt, rfl, rfl, Or.inl rfl, 0, rfl⟩
      case round =>
        obtain ⟨s, hs1, hs2, rfl, hrun, hpre, m, rfl⟩ := hrel
        have Hrun := Lib.hid hrun
        have Hpre := Lib.hid hpre
        clear hrun hpre
        obtain ⟨x, hx, c1⟩ := Hxr.out.byte s (by rw [HA.out]; exact hs2)
        obtain ⟨y, hy, c2⟩ := Hyr.out.byte s (by rw [HB.out]; exact hs2)
        have hus := unlike_of hx hy
        rw [Hu.out] at hus
        have hs3 : (s : Int) < 256 := by omega
        have hxl := x.toNat_lt
        have hyl := y.toNat_lt
        clear hx hy
        by_cases hxy : x = y
        · have t1 : ((x.toNat : Int) == (y.toNat : Int)) = true := by rw [hxy]; simp
          have Hus := Lib.hid (show u s = false by rw [hus, hxy]; simp)
          have Hro := Lib.hid (show runsTo u (s + 1) = runsTo u k by rw [runs_off u s Hus.out]; exact Hrun.out)
          clear hus hxy
          by_cases hend : s + 1 = 256
          · have e1 : (s : Int) + 1 = 256 := by omega
            have d2 : ((s : Int) + 1 == 256) = true := by simp; omega
            have Hrv := Lib.hid (show diffP a b = (runsTo u k).map (ptOf b) by unfold diffP; rw [Hu.out, ← hend, Hro.out])
            go_wp2_with fail
            go_quiet (fail)
            go_wp2_with fail
            rw [Exit.noGoto_ret]
            go_ret
            obtain ⟨A', c', hv, h1, h2, h3⟩ := (How.out.ext (bdrew w9 (m + nq))).read
            rw [Hrv.out]
            exact ⟨A', _, c', congrArg Ending.returned hv, rfl, h1, h2, h3, bt Hw2.out (bt Hbw.out (bdrew _ _))⟩
          · have d2 : ((s : Int) + 1 == 256) = false := by simp; omega
            go_wp2_with fail
            go_quiet (fail)
            go_wp2_with fail
            go_roundw
            case rel => exact ⟨s + 1, by omega, by omega, by go_num, Hro.out, Or.inr Hus.out, m + nq, by first | rfl | simp only [World.drewN_drewN]⟩
            case measure => simp [intOf]; omega
        · have t1 : ((x.toNat : Int) == (y.toNat : Int)) = false := by
            simp; intro h; exact hxy (UInt8.toNat_inj.1 (by omega))
          have Hus := Lib.hid (show u s = true by rw [hus]; simpa using hxy)
          clear hus hxy
          go_wp2_with fail
          go_quiet (fail)
          go_wp2_with fail
          have Hs0 := Lib.hid (show s = 0 ∨ u (s - 1) = false from by
            rcases Hpre.out with h | h
            · rcases Hst.out with h2 | h2 | h2
              · exact Or.inl (by omega)
              · omega
              · rw [← h, Hus.out] at h2; cases h2
            · exact Or.inr h)
          clear c1 c2
          go_loopw [6] (fun i wq => ∃ t : Nat, s ≤ t ∧ t ≤ 256 ∧ i = .int .i64 t ∧ (∀ j, s ≤ j → j < t → u j = true) ∧ ∃ m', wq = w9.drewN m') (fun i _ => 256 - (intOf i).toNat)
          case atStart => exact ⟨s, Nat.le_refl _, by omega, rfl, fun j h1 h2 => by omega, m + nq, by first | rfl | simp only [World.drewN_drewN]⟩
          case round =>
            obtain ⟨t, ht1, ht2, rfl, hall, m', rfl⟩ := hrel
            have Hall := Lib.hid hall
            clear hall
            have hways : (t < 256 ∧ u t = true) ∨ (t < 256 ∧ u t = false) ∨ t = 256 := by
              rcases Nat.lt_or_ge t 256 with h3 | h3
              · cases h : u t
                · exact Or.inr (Or.inl ⟨h3, rfl⟩)
                · exact Or.inl ⟨h3, rfl⟩
              · exact Or.inr (Or.inr (by omega))
            rcases hways with ⟨ht3, hut⟩ | ⟨ht3, hut⟩ | ht3
            focus (
              obtain ⟨x', hx', c1⟩ := Hxr.out.byte t (by rw [HA.out]; exact ht3)
              obtain ⟨y', hy', c2⟩ := Hyr.out.byte t (by rw [HB.out]; exact ht3)
              have hu2 := unlike_of hx' hy'
              rw [Hu.out, hut] at hu2
              have d1 : decide ((t : Int) < 256) = true := by simp; omega
              have ht4 : (t : Int) < 256 := by omega
              have hxl' := x'.toNat_lt
              have hyl' := y'.toNat_lt
              have t2 : ((x'.toNat : Int) != (y'.toNat : Int)) = true := by
                simp; intro h; have := UInt8.toNat_inj.1 (show x'.toNat = y'.toNat by omega); rw [this] at hu2; simp at hu2
              have Hut := Lib.hid hut
              clear hx' hy' hu2 hut
              go_wp2_with fail
              go_quiet (fail)
              go_wp2_with fail
              go_roundw
              case rel => exact ⟨t + 1, by omega, by omega, by go_num, fun j h1 h2 => by
                by_cases hj : j = t
                · rw [hj]; exact Hut.out
                · exact Hall.out j h1 (by omega), m' + nq, by first | rfl | simp only [World.drewN_drewN]⟩
              case measure => simp [intOf]; omega)
            focus (
              obtain ⟨x', hx', c1⟩ := Hxr.out.byte t (by rw [HA.out]; exact ht3)
              obtain ⟨y', hy', c2⟩ := Hyr.out.byte t (by rw [HB.out]; exact ht3)
              have hu2 := unlike_of hx' hy'
              rw [Hu.out, hut] at hu2
              have d1 : decide ((t : Int) < 256) = true := by simp; omega
              have ht4 : (t : Int) < 256 := by omega
              have hxl' := x'.toNat_lt
              have hyl' := y'.toNat_lt
              have t2 : ((x'.toNat : Int) != (y'.toNat : Int)) = false := by
                have : x' = y' := by simpa using hu2.symm
                rw [this]; simp
              have hts : s < t := by
                rcases Nat.lt_or_ge s t with h | h
                · exact h
                · rw [show t = s by omega, Hus.out] at hut; cases hut
              have Hte := Lib.hid (show t = 0 ∨ t = 256 ∨ u t = false from Or.inr (Or.inr hut))
              clear hx' hy' hu2 hut
              go_wp2_with fail
              go_quiet (fail)
              have D7 := Lib.hid (bt (bdrew w9 m') (bdrew (w9.drewN m') nq))
              generalize (w9.drewN m').drewN nq = w7 at *
              go_wp2_with (refine wpList_load_arr rfl _ _ rfl _ rfl _ _ (Hyr.out.ext D7.out) _ _ Try.underlying28 (Try.blockFits HB.out) ?_)
              clear c1 c2 t2 hxl' hyl' ht4 d1 ht3)
            rotate_left
            focus (
              have d1 : decide ((t : Int) < 256) = false := by simp; omega
              have hts : s < t := by omega
              have Hte := Lib.hid (show t = 0 ∨ t = 256 ∨ u t = false from Or.inr (Or.inl ht3))
              clear ht3
              go_wp2_with fail
              go_quiet (fail)
              have D7 := Lib.hid (bt (bdrew w9 m') (bdrew (w9.drewN m') nq))
              generalize (w9.drewN m').drewN nq = w7 at *
              go_wp2_with (refine wpList_load_arr rfl _ _ rfl _ rfl _ _ (Hyr.out.ext D7.out) _ _ Try.underlying28 (Try.blockFits HB.out) ?_)
              clear d1)
            rotate_left
            all_goals
              have Hrr := Lib.hid (show runsTo u t = runsTo u k ++ [(s, t - s)] from by
                have h := runs_run u s (t - s - 1) Hs0.out (fun j h1 h2 => Hall.out j h1 (by omega))
                rw [show s + (t - s - 1 + 1) = t by omega, show t - s - 1 + 1 = t - s by omega, Hrun.out] at h
                exact h)
              have Hll := Lib.hid (runs_len u k)
              have How7 := Lib.hid (How.out.ext D7.out)
              have Hbw7 := Lib.hid (bt Hbw.out D7.out)
              refine (part_any b HB.out s t (by omega) (by omega) (by omega) _).mono ?_; rintro e w8 ⟨A8, n8, c8, rfl, hp8, hb8, hf8⟩
              have Hp8 := Lib.hid hp8
              have Hb8 := Lib.hid hb8
              have Ho8 := Lib.hid (How7.out.ext hb8)
              have Ha8 := Lib.hid (away_new hp8 hf8 fun k hk => (How7.out.lt k hk).2)
              clear hp8 hb8 hf8
              go_wp2_with (first | refine wpList_build_one rfl _ _ _ rfl Try.underlying42 _ _ Try.patchInfo rfl _ _ rfl ?_ | (at_builtin; refine wpList_append_pt rfl _ _ _ _ rfl Try.underlying42 _ _ Try.patchInfo rfl w2.heap.size _ _ Ho8.out ⟨s, (b.drop s).take (t - s)⟩ A8 n8 c8 Hp8.out Ha8.out rfl rfl (Nat.le_trans Hbw7.out.size Hb8.out.size) (by have := Hll.out; rw [List.length_map]; omega) (by have := Hll.out; rw [List.length_map]; omega) ?_))
              apply Stop.go; intro v9 w10 Ho10 Hb10
              go_wp2_with fail
              go_roundw
              case rel => exact ⟨t, by omega, rfl, Hte.out, by rw [Hrr.out, List.map_append]; exact Ho10.out, (bt Hbw7.out Hb8.out).trans Hb10.out⟩
              case measure => simp [intOf]; omega
    · have d0 : decide ((k : Int) < 256) = false := by simp; omega
      obtain rfl : k = 256 := by omega
      have Hrv := Lib.hid (show diffP a b = (runsTo u 256).map (ptOf b) by unfold diffP; rw [Hu.out])
      go_wp2_with fail
      go_ret
      obtain ⟨A', c', hv, h1, h2, h3⟩ := How.out.read
      rw [Hrv.out]
      exact ⟨A', _, c', congrArg Ending.returned hv, rfl, h1, h2, h3, bt Hw2.out Hbw.out⟩

end Go.Proofs.Ytckkdfpmibipfaa
