/-
  Texts of this claim joined: Pat4, Pat5, RollB, Rol1, Rol2, Rol3, Lw10b, Lw9w, Lw10w.
-/
import Derived.Test.YtckkdfpmibipfaaPat3
import Derived.Test.YtckkdfpmibipfaaBools
import Derived.Test.YtckkdfpmibipfaaPatchB
import Derived.WalkMore
import Derived.Test.YtckkdfpmibipfaaRollA
import Derived.Test.YtckkdfpmibipfaaReadyB
import Derived.Test.YtckkdfpmibipfaaCg11
import Derived.Test.YtckkdfpmibipfaaZcA
import Derived.Test.YtckkdfpmibipfaaCg8
import Derived.Test.YtckkdfpmibipfaaCg12
import Derived.BigQuiet
import Derived.Test.YtckkdfpmibipfaaInts

/-
  Contracts of package patch: All, Bytes.
-/
namespace Go.Proofs.Ytckkdfpmibipfaa
open Go.RowKit



end Go.Proofs.Ytckkdfpmibipfaa

/-
  The contract of package patch's Diff.
-/
namespace Go.Proofs.Ytckkdfpmibipfaa
open Go.RowKit

theorem unlike_of {a b : List UInt8} {s : Nat} {x y : UInt8} (hx : a[s]? = some x) (hy : b[s]? = some y) : unlike a b s = !(x == y) := by
  unfold unlike
  simp [List.getD, hx, hy]
theorem runs_len (u : Nat → Bool) (k : Nat) : (runsTo u k).length ≤ k := by
  induction k with
  | zero => exact Nat.le_refl _
  | succ k ih =>
    show (if u k then _ else runsTo u k).length ≤ _
    split
    · split
      · simp; omega
      · simp
        omega
    · omega

set_option maxHeartbeats 1600000 in
theorem pdiff_any (a b : List UInt8) (ha : a.length = 256) (hb : b.length = 256) (w : World) :
    Calls Try.prog 39 #[.agg (bcells a), .agg (bcells b)] w (RetPL w (diffP a b)) := by
  have HA := Lib.hid ha
  have HB := Lib.hid hb
  clear ha hb
  obtain ⟨u, hu⟩ : ∃ u, unlike a b = u := ⟨_, rfl⟩
  have Hu := Lib.hid hu
  clear hu
  go_enter Try.func39, Try.ntmps39
  go_wp2_with (refine wpList_box_row rfl _ _ rfl _ rfl ?_)
  apply Stop.go; intro w1 Hg1 Hb1
  go_wp2_with (refine wpList_box_row rfl _ _ rfl _ rfl ?_)
  apply Stop.go; intro w2 Hg2 Hb2
  have Hw2 := Lib.hid (bt Hg1.out.1 Hg2.out.1)
  have Hx2 := Lib.hid (Hb1.out.ext Hg2.out.1)
  go_wp2_with fail
  go_step3
  go_wp2_with fail
  go_step3
  go_wp2_with fail
  go_loopw [5, 6] (fun o i wr => ∃ k : Nat, k ≤ 256 ∧ i = .int .i64 k ∧ (k = 0 ∨ k = 256 ∨ u k = false) ∧ OwnP wr w2.heap.size 57 o ((runsTo u k).map (ptOf b)) ∧ Below w2.heap.size w2 wr) (fun _ i _ => 256 - (intOf i).toNat)
  case atStart => exact ⟨0, by omega, rfl, Or.inl rfl, OwnP.nil_ _ _ _, Below.refl _ _⟩
  case round =>
    obtain ⟨k, hk, rfl, hst, how, hbw⟩ := hrel
    have Hst := Lib.hid hst
    have How := Lib.hid how
    have Hbw := Lib.hid hbw
    clear hst how hbw
    by_cases hlt : k < 256
    · have d0 : decide ((k : Int) < 256) = true := by simp; omega
      have Hxr := Lib.hid (Hx2.out.ext Hbw.out)
      have Hyr := Lib.hid (Hb2.out.ext Hbw.out)
      go_wp2_with fail
      generalize hw9 : wr = w9 at *
      clear hw9
      go_loopw [6] (fun i wq => ∃ s : Nat, k ≤ s ∧ s < 256 ∧ i = .int .i64 s ∧ runsTo u s = runsTo u k ∧ (s = k ∨ u (s - 1) = false) ∧ ∃ m, wq = w9.drewN m) (fun i _ => 256 - (intOf i).toNat)
      case atStart => exact ⟨k, Nat.le_refl _, hlt, rfl, rfl, Or.inl rfl, 0, rfl⟩
      case round =>
        obtain ⟨s, hs1, hs2, rfl, hrun, hpre, m, rfl⟩ := hrel
        have Hrun := Lib.hid hrun
        have Hpre := Lib.hid hpre
        clear hrun hpre
        obtain ⟨x, hx, c1⟩ := Hxr.out.byte s (by rw [HA.out]; exact hs2)
        obtain ⟨y, hy, c2⟩ := Hyr.out.byte s (by rw [HB.out]; exact hs2)
        have hus := unlike_of hx hy
        rw [Hu.out] at hus
        have hs3 : (s : Int) < 256 := by omega
        have hxl := x.toNat_lt
        have hyl := y.toNat_lt
        clear hx hy
        by_cases hxy : x = y
        · have t1 : ((x.toNat : Int) == (y.toNat : Int)) = true := by rw [hxy]; simp
          have Hus := Lib.hid (show u s = false by rw [hus, hxy]; simp)
          have Hro := Lib.hid (show runsTo u (s + 1) = runsTo u k by rw [runs_off u s Hus.out]; exact Hrun.out)
          clear hus hxy
          by_cases hend : s + 1 = 256
          · have e1 : (s : Int) + 1 = 256 := by omega
            have d2 : ((s : Int) + 1 == 256) = true := by simp; omega
            have Hrv := Lib.hid (show diffP a b = (runsTo u k).map (ptOf b) by unfold diffP; rw [Hu.out, ← hend, Hro.out])
            go_wp2_with fail
            go_quiet (fail)
            go_wp2_with fail
            rw [Exit.noGoto_ret]
            go_ret
            obtain ⟨A', c', hv, h1, h2, h3⟩ := (How.out.ext (bdrew w9 (m + nq))).read
            rw [Hrv.out]
            exact ⟨A', _, c', congrArg Ending.returned hv, rfl, h1, h2, h3, bt Hw2.out (bt Hbw.out (bdrew _ _))⟩
          · have d2 : ((s : Int) + 1 == 256) = false := by simp; omega
            go_wp2_with fail
            go_quiet (fail)
            go_wp2_with fail
            go_roundw
            case rel => exact ⟨s + 1, by omega, by omega, by go_num, Hro.out, Or.inr Hus.out, m + nq, by first | rfl | simp only [World.drewN_drewN]⟩
            case measure => simp [intOf]; omega
        · have t1 : ((x.toNat : Int) == (y.toNat : Int)) = false := by
            simp; intro h; exact hxy (UInt8.toNat_inj.1 (by omega))
          have Hus := Lib.hid (show u s = true by rw [hus]; simpa using hxy)
          clear hus hxy
          go_wp2_with fail
          go_quiet (fail)
          go_wp2_with fail
          have Hs0 := Lib.hid (show s = 0 ∨ u (s - 1) = false from by
            rcases Hpre.out with h | h
            · rcases Hst.out with h2 | h2 | h2
              · exact Or.inl (by omega)
              · omega
              · rw [← h, Hus.out] at h2; cases h2
            · exact Or.inr h)
          clear c1 c2
          go_loopw [6] (fun i wq => ∃ t : Nat, s ≤ t ∧ t ≤ 256 ∧ i = .int .i64 t ∧ (∀ j, s ≤ j → j < t → u j = true) ∧ ∃ m', wq = w9.drewN m') (fun i _ => 256 - (intOf i).toNat)
          case atStart => exact ⟨s, Nat.le_refl _, by omega, rfl, fun j h1 h2 => by omega, m + nq, by first | rfl | simp only [World.drewN_drewN]⟩
          case round =>
            obtain ⟨t, ht1, ht2, rfl, hall, m', rfl⟩ := hrel
            have Hall := Lib.hid hall
            clear hall
            have hways : (t < 256 ∧ u t = true) ∨ (t < 256 ∧ u t = false) ∨ t = 256 := by
              rcases Nat.lt_or_ge t 256 with h3 | h3
              · cases h : u t
                · exact Or.inr (Or.inl ⟨h3, rfl⟩)
                · exact Or.inl ⟨h3, rfl⟩
              · exact Or.inr (Or.inr (by omega))
            rcases hways with ⟨ht3, hut⟩ | ⟨ht3, hut⟩ | ht3
            focus (
              obtain ⟨x', hx', c1⟩ := Hxr.out.byte t (by rw [HA.out]; exact ht3)
              obtain ⟨y', hy', c2⟩ := Hyr.out.byte t (by rw [HB.out]; exact ht3)
              have hu2 := unlike_of hx' hy'
              rw [Hu.out, hut] at hu2
              have d1 : decide ((t : Int) < 256) = true := by simp; omega
              have ht4 : (t : Int) < 256 := by omega
              have hxl' := x'.toNat_lt
              have hyl' := y'.toNat_lt
              have t2 : ((x'.toNat : Int) != (y'.toNat : Int)) = true := by
                simp; intro h; have := UInt8.toNat_inj.1 (show x'.toNat = y'.toNat by omega); rw [this] at hu2; simp at hu2
              have Hut := Lib.hid hut
              clear hx' hy' hu2 hut
              go_wp2_with fail
              go_quiet (fail)
              go_wp2_with fail
              go_roundw
              case rel => exact ⟨t + 1, by omega, by omega, by go_num, fun j h1 h2 => by
                by_cases hj : j = t
                · rw [hj]; exact Hut.out
                · exact Hall.out j h1 (by omega), m' + nq, by first | rfl | simp only [World.drewN_drewN]⟩
              case measure => simp [intOf]; omega)
            focus (
              obtain ⟨x', hx', c1⟩ := Hxr.out.byte t (by rw [HA.out]; exact ht3)
              obtain ⟨y', hy', c2⟩ := Hyr.out.byte t (by rw [HB.out]; exact ht3)
              have hu2 := unlike_of hx' hy'
              rw [Hu.out, hut] at hu2
              have d1 : decide ((t : Int) < 256) = true := by simp; omega
              have ht4 : (t : Int) < 256 := by omega
              have hxl' := x'.toNat_lt
              have hyl' := y'.toNat_lt
              have t2 : ((x'.toNat : Int) != (y'.toNat : Int)) = false := by
                have : x' = y' := by simpa using hu2.symm
                rw [this]; simp
              have hts : s < t := by
                rcases Nat.lt_or_ge s t with h | h
                · exact h
                · rw [show t = s by omega, Hus.out] at hut; cases hut
              have Hte := Lib.hid (show t = 0 ∨ t = 256 ∨ u t = false from Or.inr (Or.inr hut))
              clear hx' hy' hu2 hut
              go_wp2_with fail
              go_quiet (fail)
              have D7 := Lib.hid (bt (bdrew w9 m') (bdrew (w9.drewN m') nq))
              generalize (w9.drewN m').drewN nq = w7 at *
              go_wp2_with (refine wpList_load_arr rfl _ _ rfl _ rfl _ _ (Hyr.out.ext D7.out) _ _ Try.underlying28 (Try.blockFits HB.out) ?_)
              clear c1 c2 t2 hxl' hyl' ht4 d1 ht3)
            rotate_left
            focus (
              have d1 : decide ((t : Int) < 256) = false := by simp; omega
              have hts : s < t := by omega
              have Hte := Lib.hid (show t = 0 ∨ t = 256 ∨ u t = false from Or.inr (Or.inl ht3))
              clear ht3
              go_wp2_with fail
              go_quiet (fail)
              have D7 := Lib.hid (bt (bdrew w9 m') (bdrew (w9.drewN m') nq))
              generalize (w9.drewN m').drewN nq = w7 at *
              go_wp2_with (refine wpList_load_arr rfl _ _ rfl _ rfl _ _ (Hyr.out.ext D7.out) _ _ Try.underlying28 (Try.blockFits HB.out) ?_)
              clear d1)
            rotate_left
            all_goals
              have Hrr := Lib.hid (show runsTo u t = runsTo u k ++ [(s, t - s)] from by
                have h := runs_run u s (t - s - 1) Hs0.out (fun j h1 h2 => Hall.out j h1 (by omega))
                rw [show s + (t - s - 1 + 1) = t by omega, show t - s - 1 + 1 = t - s by omega, Hrun.out] at h
                exact h)
              have Hll := Lib.hid (runs_len u k)
              have How7 := Lib.hid (How.out.ext D7.out)
              have Hbw7 := Lib.hid (bt Hbw.out D7.out)
              refine (part_any b HB.out s t (by omega) (by omega) (by omega) _).mono ?_; rintro e w8 ⟨A8, n8, c8, rfl, hp8, hb8, hf8⟩
              have Hp8 := Lib.hid hp8
              have Hb8 := Lib.hid hb8
              have Ho8 := Lib.hid (How7.out.ext hb8)
              have Ha8 := Lib.hid (away_new hp8 hf8 fun k hk => (How7.out.lt k hk).2)
              clear hp8 hb8 hf8
              go_wp2_with (first | refine wpList_build_one rfl _ _ _ rfl Try.underlying42 _ _ Try.patchInfo rfl _ _ rfl ?_ | (at_builtin; refine wpList_append_pt rfl _ _ _ _ rfl Try.underlying42 _ _ Try.patchInfo rfl w2.heap.size _ _ Ho8.out ⟨s, (b.drop s).take (t - s)⟩ A8 n8 c8 Hp8.out Ha8.out rfl rfl (Nat.le_trans Hbw7.out.size Hb8.out.size) (by have := Hll.out; rw [List.length_map]; omega) (by have := Hll.out; rw [List.length_map]; omega) ?_))
              apply Stop.go; intro v9 w10 Ho10 Hb10
              go_wp2_with fail
              go_roundw
              case rel => exact ⟨t, by omega, rfl, Hte.out, by rw [Hrr.out, List.map_append]; exact Ho10.out, (bt Hbw7.out Hb8.out).trans Hb10.out⟩
              case measure => simp [intOf]; omega
    · have d0 : decide ((k : Int) < 256) = false := by simp; omega
      obtain rfl : k = 256 := by omega
      have Hrv := Lib.hid (show diffP a b = (runsTo u 256).map (ptOf b) by unfold diffP; rw [Hu.out])
      go_wp2_with fail
      go_ret
      obtain ⟨A', c', hv, h1, h2, h3⟩ := How.out.read
      rw [Hrv.out]
      exact ⟨A', _, c', congrArg Ending.returned hv, rfl, h1, h2, h3, bt Hw2.out Hbw.out⟩

end Go.Proofs.Ytckkdfpmibipfaa

/-
  The changes of a block parted into those that are ready and those that are held, by places. Plain; no program is named here.
-/
namespace Go.Proofs.Ytckkdfpmibipfaa

theorem may_rise : ∀ {l : List Cg} {b : Int}, mayN b l = true → RiseI (l.map (·.id)) := by
  intro l
  induction l with
  | nil => intro b _; exact List.Pairwise.nil
  | cons c l ih =>
    intro b h
    obtain ⟨_, h2⟩ := mayN_cons.1 h
    rw [List.map_cons]
    refine List.pairwise_cons.2 ⟨fun x hx => ?_, ih h2⟩
    obtain ⟨d, hd, rfl⟩ := List.mem_map.1 hx
    exact mayN_gt h2 d hd
/-- What is laid is what is ready. -/
theorem doneC_ids {l : List Cg} {block : Int} (hm : mayC l = true) : (doneC l block).map (·.id) = readyC l block := by
  have hr := may_rise hm
  refine RiseI.uniq (List.Pairwise.sublist ((List.filter_sublist.trans List.filter_sublist).map _) hr) (List.Pairwise.sublist readyC_sub hr) fun x => ⟨fun h => ?_, fun h => ?_⟩
  · obtain ⟨c, hc, rfl⟩ := List.mem_map.1 h
    have := (List.mem_filter.1 hc).2
    simpa using this
  · obtain ⟨p, c, q, h1, h2, h3, _⟩ := readyC_spec hm x h
    exact List.mem_map.2 ⟨c, List.mem_filter.2 ⟨List.mem_filter.2 ⟨by rw [h1]; simp, by simpa using h3⟩, by rw [h2]; simpa using h⟩, h2⟩

def inF (l : List Cg) (block : Int) (c : Cg) : Bool := (readyC l block).contains c.id && decide (c.block = block)
def outF (l : List Cg) (block : Int) (c : Cg) : Bool := !(readyC l block).contains c.id && decide (c.block = block)
/-- Of the first k: those that are ready; those that are not; and the IDs of those that are ready behind them. -/
def inK (l : List Cg) (block : Int) (k : Nat) : List Cg := (l.take k).filter (inF l block)
def outK (l : List Cg) (block : Int) (k : Nat) : List Cg := (l.take k).filter (outF l block)
def nextK (l : List Cg) (block : Int) (k : Nat) : List Int := ((l.drop k).filter (inF l block)).map (·.id)
theorem inK_all {l : List Cg} {block : Int} {k : Nat} (hk : l.length ≤ k) : inK l block k = doneC l block := by
  unfold inK doneC ofC
  rw [List.take_of_length_le hk, List.filter_filter]
  rfl
theorem outK_all {l : List Cg} {block : Int} {k : Nat} (hk : l.length ≤ k) : outK l block k = restC l block := by
  unfold outK restC ofC
  rw [List.take_of_length_le hk, List.filter_filter]
  rfl
theorem inK_zero (l : List Cg) (block : Int) : inK l block 0 = [] := rfl
theorem outK_zero (l : List Cg) (block : Int) : outK l block 0 = [] := rfl
theorem nextK_zero {l : List Cg} {block : Int} (hm : mayC l = true) : nextK l block 0 = readyC l block := by
  rw [← doneC_ids hm]
  unfold nextK doneC ofC
  rw [List.drop_zero, List.filter_filter]
  rfl
theorem inK_len (l : List Cg) (block : Int) (k : Nat) : (inK l block k).length ≤ k := by
  unfold inK
  exact Nat.le_trans (List.length_filter_le _ _) (by rw [List.length_take]; omega)
theorem outK_len (l : List Cg) (block : Int) (k : Nat) : (outK l block k).length ≤ k := by
  unfold outK
  exact Nat.le_trans (List.length_filter_le _ _) (by rw [List.length_take]; omega)
theorem inK_succ {l : List Cg} {block : Int} {k : Nat} (hk : k < l.length) : inK l block (k + 1) = inK l block k ++ if inF l block l[k] = true then [l[k]] else [] := by
  unfold inK
  rw [List.take_succ_eq_append_getElem hk, List.filter_append, List.filter_cons]
  rfl
theorem outK_succ {l : List Cg} {block : Int} {k : Nat} (hk : k < l.length) : outK l block (k + 1) = outK l block k ++ if outF l block l[k] = true then [l[k]] else [] := by
  unfold outK
  rw [List.take_succ_eq_append_getElem hk, List.filter_append, List.filter_cons]
  rfl
theorem nextK_succ {l : List Cg} {block : Int} {k : Nat} (hk : k < l.length) : nextK l block k = if inF l block l[k] = true then l[k].id :: nextK l block (k + 1) else nextK l block (k + 1) := by
  unfold nextK
  rw [List.drop_eq_getElem_cons hk, List.filter_cons]
  split <;> rfl
theorem nextK_mem {l : List Cg} {block : Int} {k : Nat} {x : Int} (h : x ∈ nextK l block k) : (readyC l block).contains x = true := by
  obtain ⟨c, hc, rfl⟩ := List.mem_map.1 h
  have := (List.mem_filter.1 hc).2
  unfold inF at this
  rw [Bool.and_eq_true] at this
  exact this.1
/-- A change of another block. -/
theorem part_other {l : List Cg} {block : Int} {k : Nat} (hk : k < l.length) (hb : l[k].block ≠ block) : inK l block (k + 1) = inK l block k ∧ outK l block (k + 1) = outK l block k ∧ nextK l block (k + 1) = nextK l block k := by
  have h1 : inF l block l[k] = false := by unfold inF; rw [decide_eq_false hb, Bool.and_false]
  have h2 : outF l block l[k] = false := by unfold outF; rw [decide_eq_false hb, Bool.and_false]
  rw [inK_succ hk, outK_succ hk, nextK_succ hk, h1, h2]
  simp
/-- One that is ready: it is the next one. -/
theorem part_in {l : List Cg} {block : Int} {k : Nat} (hk : k < l.length) (hb : l[k].block = block) (h : (readyC l block).contains l[k].id = true) : inK l block (k + 1) = inK l block k ++ [l[k]] ∧ outK l block (k + 1) = outK l block k ∧ nextK l block k = l[k].id :: nextK l block (k + 1) := by
  have h1 : inF l block l[k] = true := by unfold inF; rw [decide_eq_true hb, h]; rfl
  have h2 : outF l block l[k] = false := by unfold outF; rw [h]; rfl
  rw [inK_succ hk, outK_succ hk, nextK_succ hk, h1, h2]
  simp
/-- One that is not: the next one is another. -/
theorem part_out {l : List Cg} {block : Int} {k : Nat} (hk : k < l.length) (hb : l[k].block = block) (h : (readyC l block).contains l[k].id = false) : inK l block (k + 1) = inK l block k ∧ outK l block (k + 1) = outK l block k ++ [l[k]] ∧ nextK l block (k + 1) = nextK l block k ∧ ∀ x ∈ nextK l block k, x ≠ l[k].id := by
  have h1 : inF l block l[k] = false := by unfold inF; rw [h, Bool.false_and]
  have h2 : outF l block l[k] = true := by unfold outF; rw [decide_eq_true hb, h]; rfl
  refine ⟨by rw [inK_succ hk, h1]; simp, by rw [outK_succ hk, h2]; simp, by rw [nextK_succ hk, h1]; simp, fun x hx e => ?_⟩
  have := nextK_mem hx
  rw [e, h] at this
  cases this
theorem restC_ids {l : List Cg} {block : Int} (hm : mayC l = true) : heldC l block = (restC l block).map (·.id) := by
  unfold heldC
  rw [hm, if_pos rfl]

end Go.Proofs.Ytckkdfpmibipfaa

/-
  Contracts of package roll: laid, ids.
-/
namespace Go.Proofs.Ytckkdfpmibipfaa
open Go.RowKit

theorem laidC_at {L : List UInt8} {l : List Cg} {k : Nat} (hk : k < l.length) : laidC L (l.take (k + 1)) = layP (laidC L (l.take k)) l[k].p := by
  rw [List.take_succ_eq_append_getElem hk, laidC_append]
  rfl

set_option maxRecDepth 100000 in
set_option maxHeartbeats 4000000 in
theorem laid_any (L : List UInt8) (hL : L.length = 256) (A : Option Addr) (n cap : Nat) (l : List Cg) (hn : l.length = n) (hm : n ≤ 4096) (w : World) (hr : RdL RdC w A 5 l) :
    Calls Try.prog 29 #[.agg (bcells L), .slice A n cap] w (RetA w (laidC L l)) := by
  have HL := Lib.hid hL
  have Hn := Lib.hid hn
  have Hr := Lib.hid hr
  clear hL hn hr
  go_enter Try.func29, Try.ntmps29
  go_wp2_with (refine wpList_box_row rfl _ _ rfl _ rfl ?_)
  apply Stop.go; intro w1 Hg1 Hb1
  go_wp2_with (refine wpList_alloc_row rfl _ rfl _ Try.blockZero ?_)
  apply Stop.go; intro w2 Hg2 Hb2
  have Hy2 := Lib.hid (Hb1.out.ext Hg2.out.1)
  have Hw2 := Lib.hid (bt Hg1.out.1 Hg2.out.1)
  have Z := Lib.hid Hg1.out.2
  go_wp2_with fail
  go_loopw [9] (fun i wr => ∃ k : Nat, k ≤ n ∧ i = .int .i64 k ∧ Blk wr w.heap.size 28 (bcells (laidC L (l.take k))) ∧ Blk wr w1.heap.size 28 (bcells (zeros 256)) ∧ Below w.heap.size w wr) (fun i _ => n - (intOf i).toNat)
  case atStart => exact ⟨0, Nat.zero_le _, rfl, Hy2.out, Hb2.out, Hw2.out⟩
  case round =>
    obtain ⟨k, hk, rfl, hy, hz, hbw⟩ := hrel
    have Hy := Lib.hid hy
    have Hz := Lib.hid hz
    have Hbw := Lib.hid hbw
    clear hy hz hbw
    by_cases hlt : k < n
    · have d0 : decide ((k : Int) < n) = true := by simpa using hlt
      have hkl : k < l.length := by rw [Hn.out]; exact hlt
      have z1 : (k : Int) < n := by omega
      obtain ⟨ad, Ad, nd, cd, An, nn, cn, rfl, hcv, h0, h1, h2, h3, h4⟩ := (Hr.out.below Hbw.out).cg hkl
      have C0 := Lib.hid h0
      have C1 := Lib.hid h1
      have C2 := Lib.hid h2
      have C3 := Lib.hid h3
      have C4 := Lib.hid h4
      have Hcv := Lib.hid hcv
      have Ht := Lib.hid (laidC_at (L := L) hkl)
      have HM := Lib.hid (laidC_len (l.take k) HL.out)
      clear h0 h1 h2 h3 h4 hcv
      generalize l[k] = c at *
      generalize laidC L (l.take k) = M at *
      go_wp2_with (first | refine wpList_load_five rfl _ _ rfl (ad.add (k * 5)) rfl _ _ _ _ _ C0.out C1.out C2.out C3.out C4.out _ Try.underlying59 Try.chgSize ?_ | refine wpList_alloc_row rfl _ rfl _ Try.chgZero ?_); apply Stop.go; intro w3 Hg3 Hb3; go_wp2_with (refine wpList_store_arr rfl _ _ _ rfl _ #[.int .i64 c.id, .int .i64 c.block, .int .i64 c.p.at_, .slice Ad nd cd, .slice An nn cn] rfl rfl _ _ Hb3.out Try.chgSize rfl (by simp [Value.oneCell']) ?_); apply Stop.go; intro w4 Ho4 Hb4; have D4 := Lib.hid (bonly Hg3.out.1 Ho4.out (Nat.le_refl _))
      have Hy4 := Lib.hid (Hy.out.ext D4.out)
      have Hz4 := Lib.hid (Hz.out.ext D4.out)
      have Hp4 := Lib.hid (Hcv.out.below D4.out).p
      have HM2 := Lib.hid (layP_len c.p HM.out)
      go_wp2_with (first | refine wpList_load_arr rfl _ _ rfl _ rfl _ _ Hy4.out _ _ Try.underlying28 (Try.blockFits HM.out) ?_ | refine wpList_load_pair rfl _ _ rfl ⟨wr.heap.size, 2, none⟩ rfl (.int .i64 c.p.at_) (.slice Ad nd cd) Hb4.out.five.2.2.1 Hb4.out.five.2.2.2.2.2 _ Try.underlying57 Try.patchSize ?_)
      refine (play_any M HM.out c.p Ad nd cd _ Hp4.out).mono ?_; rintro e w5 ⟨rfl, hb5⟩
      have Hb5 := Lib.hid hb5
      have Hy5 := Lib.hid (Hy4.out.ext hb5)
      have Hz5 := Lib.hid (Hz4.out.ext hb5)
      clear hb5
      go_wp2_with (refine wpList_store_arr rfl _ _ _ rfl _ (bcells (layP M c.p)) rfl rfl _ _ Hy5.out (Try.blockFits HM2.out) (by rw [bcells_size, bcells_size, HM.out, HM2.out]) (oneCell_bcells _) ?_)
      apply Stop.go; intro w6 Ho6 Hb6
      go_wp2_with fail
      go_roundw
      case rel => exact ⟨k + 1, by omega, by go_num, by rw [Ht.out]; exact Hb6.out, Hz5.out.only Ho6.out (by have := Z.out; omega), bonly (bt (bt Hbw.out D4.out) Hb5.out) Ho6.out (Nat.le_refl _)⟩
      case measure => simp [intOf]; omega
    · have d0 : decide ((k : Int) < n) = false := by simpa using hlt
      have HX := Lib.hid (show laidC L (l.take k) = laidC L l by rw [List.take_of_length_le (by rw [Hn.out]; omega)])
      rw [HX.out] at Hy
      have HM := Lib.hid (laidC_len l HL.out)
      go_wp2_with (first | refine wpList_load_arr rfl _ _ rfl _ rfl _ _ Hy.out _ _ Try.underlying28 (Try.blockFits HM.out) ?_ | refine wpList_store_arr rfl _ _ _ rfl _ (bcells (laidC L l)) rfl rfl _ _ Hz.out (Try.blockFits HM.out) (by rw [bcells_size, bcells_size, HM.out, zeros_len]) (oneCell_bcells _) ?_)
      apply Stop.go; intro w6 Ho6 Hb6
      go_wp2_with ((with_reducible show bodyPost _ _ _ _ _ _); refine bodyPost_cell rfl _ rfl _ _ Hb6.out _ _ Try.underlying28 (Try.blockFits HM.out) rfl ?_)
      apply Stop.go
      exact ⟨rfl, bonly Hbw.out Ho6.out (by have := Z.out; omega)⟩

theorem Try.intSizeR : (Try.prog.info? 3).map (·.size) = some 1 := by kernel_rfl
/-- The ID of the change at a place. -/
def idAt (l : List Cg) (k : Nat) : Int := (l.getD k default).id
theorem zc_read {w : World} {g n : Nat} {e : TypeId} {z : Nat → Int} {ss : List Int} (hg : Blk w g e (zc n z)) (hn : ss.length = n) (hz : ∀ k (h : k < ss.length), ss[k] = z k) : RC w (some ⟨g, 0, none⟩) (ivals ss) := fun k hk => by
  rw [ivals_len] at hk
  refine ⟨_, rfl, ?_⟩
  rw [addr_add0, hg.cell, zc_get z (by omega)]
  simp [ivals, hz k hk]
set_option maxRecDepth 100000 in
set_option maxHeartbeats 4000000 in
theorem ids_any (A : Option Addr) (n cap : Nat) (l : List Cg) (hn : l.length = n) (hm : n ≤ 4096) (w : World) (hr : RdL RdC w A 5 l) :
    Calls Try.prog 32 #[.slice A n cap] w (RetI w (l.map (·.id))) := by
  have Hn := Lib.hid hn
  have Hr := Lib.hid hr
  clear hn hr
  go_enter Try.func32, Try.ntmps32
  go_wp2_with (refine wpList_make_zero rfl _ _ _ _ rfl Try.underlying30 (.int .i64 0) 8 Try.infoInt rfl .i64 .i64 _ _ n rfl rfl rfl rfl (by omega) (by omega) (zc n (fun _ => 0)) (zc_zero n) ?_)
  apply Stop.go; intro w1 Hg1 Hb1
  generalize hg : w.heap.size = g at Hb1 ⊢
  have Hgl := Lib.hid hg
  clear hg
  go_wp2_with fail
  go_loopw [11] (fun i wr => ∃ k : Nat, k ≤ n ∧ i = .int .i64 k ∧ Blk wr g 3 (zc n (fun i => if i < k then idAt l i else 0)) ∧ Below w.heap.size w wr) (fun i _ => n - (intOf i).toNat)
  case atStart => exact ⟨0, Nat.zero_le _, rfl, by have := Hb1.out; rw [zc_congr (z := fun _ => 0) (fun k _ => by rw [if_neg (Nat.not_lt_zero k)])]; exact this, Hg1.out.1⟩
  case round =>
    obtain ⟨k, hk, rfl, hbk, hbw⟩ := hrel
    have Hbk := Lib.hid hbk
    have Hbw := Lib.hid hbw
    clear hbk hbw
    by_cases hlt : k < n
    · have d0 : decide ((k : Int) < n) = true := by simpa using hlt
      have hkl : k < l.length := by rw [Hn.out]; exact hlt
      have z1 : (k : Int) < n := by omega
      obtain ⟨ad, Ad, nd, cd, An, nn, cn, rfl, hcv, h0, h1, h2, h3, h4⟩ := (Hr.out.below Hbw.out).cg hkl
      have C0 := Lib.hid h0
      have C1 := Lib.hid h1
      have C2 := Lib.hid h2
      have C3 := Lib.hid h3
      have C4 := Lib.hid h4
      clear h0 h1 h2 h3 h4 hcv
      have HE := Lib.hid (show idAt l k = l[k].id by unfold idAt; simp [List.getD, hkl])
      have HS := Lib.hid (zc_step n (idAt l) k)
      rw [HE.out] at HS
      generalize l[k] = c at *
      go_wp2_with (first | refine wpList_load_five rfl _ _ rfl (ad.add (k * 5)) rfl _ _ _ _ _ C0.out C1.out C2.out C3.out C4.out _ Try.underlying59 Try.chgSize ?_ | refine wpList_alloc_row rfl _ rfl _ Try.chgZero ?_); apply Stop.go; intro w3 Hg3 Hb3; go_wp2_with (refine wpList_store_arr rfl _ _ _ rfl _ #[.int .i64 c.id, .int .i64 c.block, .int .i64 c.p.at_, .slice Ad nd cd, .slice An nn cn] rfl rfl _ _ Hb3.out Try.chgSize rfl (by simp [Value.oneCell']) ?_); apply Stop.go; intro w4 Ho4 Hb4; have D4 := Lib.hid (bonly Hg3.out.1 Ho4.out (Nat.le_refl _))
      have c1 : w4.cell? ⟨wr.heap.size, 0, none⟩ = some (.int .i64 c.id) := Hb4.out.five.1
      have Hk4 := Lib.hid (Hbk.out.ext D4.out)
      go_wp2_with (refine wpList_store_cell rfl _ _ _ rfl Try.intSizeR g k rfl (.int .i64 c.id) rfl rfl rfl _ _ Hk4.out (by rw [zc_size]; exact hlt) ?_)
      apply Stop.go; intro w5 Ho5 Hb5
      rw [HS.out] at Hb5
      go_wp2_with fail
      go_roundw
      case rel => exact ⟨k + 1, by omega, by go_num, Hb5.out, bonly (bt Hbw.out D4.out) Ho5.out (Nat.le_of_eq Hgl.out)⟩
      case measure => simp [intOf]; omega
    · have d0 : decide ((k : Int) < n) = false := by simpa using hlt
      have hblk := Hbk.out
      rw [zc_congr (z := idAt l) (fun i hi => by rw [if_pos (by omega)])] at hblk
      have hread := zc_read (ss := l.map (·.id)) hblk (by simpa using Hn.out) (fun k hk => by
        have hk' : k < l.length := by simpa using hk
        simp [idAt, List.getD, hk'])
      have Hread := Lib.hid hread
      clear hblk hread
      go_wp2_with fail
      go_ret
      exact ⟨_, _, _, rfl, by simpa using Hn.out, Nat.le_refl _, by unfold maxLen; omega, Hread.out, Hbw.out⟩

end Go.Proofs.Ytckkdfpmibipfaa

/-
  The contract of package roll's parted.
-/
namespace Go.Proofs.Ytckkdfpmibipfaa
open Go.RowKit

/-- A change whose bytes and needs lie below a block. -/
def RdLow (B : Nat) : Rds Cg where
  R := fun w r c => RdC.R w r c ∧ ∀ g ∈ blocksOf r, g < B
  stable := fun h hs => ⟨RdC.stable h.1 hs, h.2⟩
  there := fun h g hg => RdC.there h.1 g hg
theorem OwnL.plain {w : World} {B B' : Nat} {e : TypeId} {v : Value} {l : List Cg} (h : OwnL (RdLow B') w B e 5 v l) : OwnL RdC w B e 5 v l := by
  obtain ⟨rows, h1, h2, h3, h4⟩ := h
  exact ⟨rows, h1, h2, fun k hk hk' => (h3 k hk hk').1, h4⟩
/-- Another list of the call's own grows. -/
theorem OwnL.keepLow {w w' : World} {B : Nat} {e : TypeId} {u v : Value} {l : List Cg} (h : OwnL (RdLow B) w B e 5 u l) (hg : w.grownBy w' v.ownBlock) (hv : ∀ k, v.ownBlock = some k → B ≤ k) (ha : Apart u v) : OwnL (RdLow B) w' B e 5 u l := by
  obtain ⟨rows, h1, h2, h3, h4⟩ := h
  refine ⟨rows, ⟨h1.1, h1.2.1, ?_⟩, h2, fun k hk hk' => (RdLow B).stable (h3 k hk hk') fun q hq => hg.block q ((RdLow B).there (h3 k hk hk') q hq) (fun e => ?_), h4⟩
  · rcases h1.2.2 with h | ⟨q, cap, cur, hv, hb, hq, h⟩
    · exact Or.inl h
    · exact Or.inr ⟨q, cap, cur, hv, hb, Blk.grown hq hg (fun e => ha q (by rw [hv]; rfl) e.symm), h⟩
  · have h5 := (h3 k hk hk').2 q hq
    have h6 := hv q e.symm
    omega
theorem Apart.grown {w : World} {u v : Value} {g n c : Nat} (ha : Apart u v) (hu : ∀ k, u.ownBlock = some k → k < w.heap.size) (hw : v.ownBlock = some g ∨ g = w.heap.size) : Apart u (.slice (some ⟨g, 0, none⟩) n c) := fun k h1 h2 => by
  have e : g = k := by simpa [Value.ownBlock] using h2
  subst e
  rcases hw with hw | hw
  · exact ha g h1 hw
  · have := hu g h1
    omega
section
variable {P : Program} {a : Act} {w : World}
/-- A slice of numbers without the first. -/
theorem exec_slice_tail {o : Oper} (t : TypeId) (x : Operand) (k : IntKind) (ho : o.op = .slice t x (some (.const (.int k 1))) none none) (e : TypeId) (hu : P.underlying t = some (.slice e)) (hs : (P.info? e).map (·.size) = some 1)
    (A : Option Addr) (n c : Nat) (hx : a.eval x = .slice A n c) (h1 : 1 ≤ n) (_h2 : n ≤ c) : (execOp a.eval o).run P w = .ok (.value (.slice (if c = 1 then A else A.map (·.add 1)) (n - 1) (c - 1))) w := by
  have hel : P.elem t = e := by simp [Program.elem, hu]
  have hr : (Instr.slice t (.slice A n c) (some (.int k 1)) none none).run P w = .ok (.slice (if c = 1 then A else A.map (·.add 1)) (n - 1) (c - 1)) w := by
    rw [run_slice_l w t _ _ _ (by rw [hel]; exact hu) k 1 (by omega) (by omega), hel, sizeOf_of hs]
    simp [Result.andThen, sliced]
  have hc : a.eval (.const (.int k 1)) = .int k 1 := rfl
  unfold execOp
  simp only [ho, hx, hc, Sem.run_bind, Sem.run_pure, Result.andThen_ok, Option.map_some, Option.map_none, Instr.sliceAt, run_underlying hu, hr]
end
theorem RC.tail {w : World} {A : Option Addr} {x : Int} {t : List Int} {c : Nat} (h : RC w A (ivals (x :: t))) (hc : t.length + 1 ≤ c) : RC w (if c = 1 then A else A.map (·.add 1)) (ivals t) := fun k hk => by
  rw [ivals_len] at hk
  obtain ⟨ad, e, hc2⟩ := h (k + 1) (by rw [ivals_len]; simp; omega)
  refine ⟨ad.add 1, ?_, ?_⟩
  · rw [if_neg (by omega), e]; rfl
  · rw [add_of_add, Nat.add_comm 1 k, hc2]
    simp [ivals]

/-- Two results that are slices of changes. -/
def RetCC (w : World) (l l' : List Cg) (e : Ending) (w' : World) : Prop := ∃ A n c A' n' c', e = .returned (.tuple #[.slice A n c, .slice A' n' c']) ∧ (l.length = n ∧ n ≤ c ∧ c ≤ maxLen ∧ RdL RdC w' A 5 l) ∧ (l'.length = n' ∧ n' ≤ c' ∧ c' ≤ maxLen ∧ RdL RdC w' A' 5 l') ∧ Below w.heap.size w w'
/-- What parted tells. -/
def inP (l : List Cg) (block : Int) : List Cg := if mayC l then doneC l block else []
def outP (l : List Cg) (block : Int) : List Cg := if mayC l then restC l block else []

set_option maxRecDepth 100000 in
set_option maxHeartbeats 16000000 in
theorem parted_any (A : Option Addr) (n cap : Nat) (l : List Cg) (hn : l.length = n) (hm : n ≤ 4096) (block : Int) (w : World) (hr : RdL RdC w A 5 l) :
    Calls Try.prog 31 #[.slice A n cap, .int .i64 block] w (RetCC w (inP l block) (outP l block)) := by
  have Hn := Lib.hid hn
  have Hr := Lib.hid hr
  have Hin := Lib.hid (show inP l block = if mayC l then doneC l block else [] from rfl)
  have Hout := Lib.hid (show outP l block = if mayC l then restC l block else [] from rfl)
  generalize inP l block = I at *
  generalize outP l block = O at *
  clear hn hr
  go_enter Try.func31, Try.ntmps31
  go_wp2_with fail
  refine (chk_any A n cap l Hn.out hm _ Hr.out).mono ?_; rintro e w2 ⟨rfl, hb2⟩
  have Hb2 := Lib.hid hb2
  clear hb2
  cases hmay : mayC l
  · rw [chkI_no hmay]
    rw [hmay] at Hin Hout
    clear hmay
    go_wp2_with fail
    go_ret2
    have e1 : I = [] := Hin.out
    have e2 : O = [] := Hout.out
    subst e1; subst e2
    exact ⟨_, _, _, _, _, _, rfl, ⟨rfl, Nat.le_refl _, by unfold maxLen; omega, [], fun r hr => by simp at hr, fun k hk => by simp at hk, rfl, fun k hk => by simp at hk⟩, ⟨rfl, Nat.le_refl _, by unfold maxLen; omega, [], fun r hr => by simp at hr, fun k hk => by simp at hk, rfl, fun k hk => by simp at hk⟩, Hb2.out⟩
  · rw [chkI_yes hmay]
    have Hmay := Lib.hid hmay
    rw [hmay, if_pos rfl] at Hin Hout
    clear hmay
    go_wp2_with fail
    refine (pready_any A n cap l Hn.out hm block _ (Hr.out.below Hb2.out)).mono ?_; rintro e w3 ⟨An, nn, cn, rfl, g1, g2, g3, g4, g5⟩
    have Hw3 := Lib.hid (bt Hb2.out g5)
    have Hr3 := Lib.hid (Hr.out.below Hw3.out)
    rw [← nextK_zero Hmay.out] at g1 g4
    have G := Lib.hid (show (nextK l block 0).length = nn ∧ nn ≤ cn ∧ cn ≤ maxLen ∧ RC w3 An (ivals (nextK l block 0)) from ⟨g1, g2, g3, g4⟩)
    clear g1 g2 g3 g4 g5
    generalize hB : w3.heap.size = B at *
    have HB := Lib.hid hB
    clear hB
    go_wp2_with fail
    go_loopw [4, 5, 6, 17] (fun v u nx i wr => ∃ k : Nat, k ≤ n ∧ i = .int .i64 k ∧ OwnL (RdLow B) wr B 59 5 v (inK l block k) ∧ OwnL (RdLow B) wr B 59 5 u (outK l block k) ∧ Apart v u ∧ (∃ Ax xn xc, nx = .slice Ax xn xc ∧ (nextK l block k).length = xn ∧ xn ≤ xc ∧ RC w3 Ax (ivals (nextK l block k))) ∧ Below B w3 wr) (fun _ _ _ i _ => n - (intOf i).toNat)
    case atStart => exact ⟨0, Nat.zero_le _, rfl, OwnL.nil_ _ _ _ _ _, OwnL.nil_ _ _ _ _ _, Apart.nil_ _, ⟨An, nn, cn, rfl, G.out.1, G.out.2.1, G.out.2.2.2⟩, Below.refl _ _⟩
    case round =>
      obtain ⟨k, hk, rfl, hv, hu, hap, ⟨Ax, xn, xc, rfl, hx1, hx2, hx3⟩, hbw⟩ := hrel
      have Hv := Lib.hid hv
      have Hu := Lib.hid hu
      have Hap := Lib.hid hap
      have Hx := Lib.hid (And.intro hx1 (And.intro hx2 hx3))
      have Hbw := Lib.hid hbw
      have Hb3 : Hid (Below w3.heap.size w3 wr) := Lib.hid (by rw [HB.out]; exact hbw)
      have HzB := Lib.hid (show B ≤ wr.heap.size from HB.out ▸ hbw.size)
      clear hv hu hap hx1 hx2 hx3 hbw
      by_cases hlt : k < n
      · have d0 : decide ((k : Int) < n) = true := by simpa using hlt
        have hkl : k < l.length := by rw [Hn.out]; exact hlt
        have z1 : (k : Int) < n := by omega
        have HP0 := Lib.hid (fun h => part_other (block := block) hkl h)
        have HP1 := Lib.hid (fun h h' => part_in (block := block) hkl h h')
        have HP2 := Lib.hid (fun h h' => part_out (block := block) hkl h h')
        have HL1 := Lib.hid (inK_len l block k)
        have HL2 := Lib.hid (outK_len l block k)
        obtain ⟨ad, Ad, nd, cd, Am, nm, cm, rfl, hcv, h0, h1, h2, h3, h4⟩ := Hr3.out.cg hkl
        have tr := fun {ad : Addr} {v : Value} (h : w3.cell? ad = some v) => (Hb3.out.cell (block_lt_of_cell h)).trans h
        have C0 := Lib.hid (tr h0)
        have C1 := Lib.hid (tr h1)
        have C2 := Lib.hid (tr h2)
        have C3 := Lib.hid (tr h3)
        have C4 := Lib.hid (tr h4)
        have HLow := Lib.hid (fun g (hg : g ∈ blocksOf [.int .i64 l[k].id, .int .i64 l[k].block, .int .i64 l[k].p.at_, .slice Ad nd cd, .slice Am nm cm]) => show g < B from HB.out ▸ RdC.there hcv.rd g hg)
        have Hcv := Lib.hid (hcv.below Hb3.out)
        clear h0 h1 h2 h3 h4 hcv tr
        generalize l[k] = c at *
        generalize inK l block k = I1 at *
        generalize outK l block k = O1 at *
        generalize nextK l block k = N1 at *
        generalize (readyC l block).contains c.id = rb at *
        clear hkl
        go_wp2_with (first | refine wpList_load_five rfl _ _ rfl (ad.add (k * 5)) rfl _ _ _ _ _ C0.out C1.out C2.out C3.out C4.out _ Try.underlying59 Try.chgSize ?_ | refine wpList_alloc_row rfl _ rfl _ Try.chgZero ?_); apply Stop.go; intro wa Hga Hba; go_wp2_with (refine wpList_store_arr rfl _ _ _ rfl _ #[.int .i64 c.id, .int .i64 c.block, .int .i64 c.p.at_, .slice Ad nd cd, .slice Am nm cm] rfl rfl _ _ Hba.out Try.chgSize rfl (by simp [Value.oneCell']) ?_); apply Stop.go; intro w4 Ho4 Hb4; have D4 := Lib.hid (bonly Hga.out.1 Ho4.out (Nat.le_refl _))
        have c1 : w4.cell? ⟨wr.heap.size, 1, none⟩ = some (.int .i64 c.block) := Hb4.out.five.2.1
        have c0 : w4.cell? ⟨wr.heap.size, 0, none⟩ = some (.int .i64 c.id) := Hb4.out.five.1
        have D34 := Lib.hid (bt Hb3.out D4.out)
        by_cases hb : c.block = block
        · have e1 : (c.block != block) = false := by simpa using hb
          have HbE := Lib.hid hb
          clear hb
          cases rb
          · obtain ⟨p1, p2, p3, p4⟩ := HP2.out HbE.out rfl
            have Q1 := Lib.hid p1
            have Q2 := Lib.hid p2
            have Q3 := Lib.hid p3
            have Q4 := Lib.hid p4
            clear p1 p2 p3 p4
            cases N1 with
            | nil =>
              have d1 : decide (0 < xn) = false := by have := Hx.out.1; simp at this; simp; omega
              go_wp2_with fail
              go_quiet (fail)
              have D5 := Lib.hid (bdrew w4 nq)
              have Hx5 := Lib.hid (Hb4.out.ext D5.out)
              generalize w4.drewN nq = w5 at *
              go_wp2_with (first | refine wpList_load_blk rfl _ _ rfl _ rfl _ _ Hx5.out _ Try.underlying59 rfl Try.chgSize ?_ | refine wpList_build_row rfl _ _ _ rfl Try.underlying26 5 72 _ Try.chgInfo (by decide) (by decide) #[.int .i64 c.id, .int .i64 c.block, .int .i64 c.p.at_, .slice Ad nd cd, .slice Am nm cm] rfl rfl ?_)
              apply Stop.go; intro w8 Hg8 Hb8
              have D8 := Lib.hid (bt (bt D4.out D5.out) Hg8.out.1)
              have Hu8 := Lib.hid (Hu.out.ext D8.out)
              have Hv8 := Lib.hid (Hv.out.ext D8.out)
              have HR8 := Lib.hid (show (RdLow B).R w8 _ c from ⟨(Hcv.out.below D8.out).rd, HLow.out⟩)
              have Hz8 := Lib.hid (Nat.le_trans HzB.out D8.out.size)
              have hl1 : O1.length + 1 ≤ 140737488355328 := by have := HL2.out; omega
              have hl2 : (O1.length + 1) * 72 ≤ 140737488355328 := by have := HL2.out; omega
              go_wp2_with (at_builtin; refine wpList_append_L (RdLow B) rfl _ _ _ _ rfl Try.underlying26 5 72 _ Try.chgInfo rfl (by decide) B _ O1 rfl Hu8.out _ _ rfl Hb8.out rfl (by simp [Value.oneCell']) c HR8.out (fun q hq e => by have h1 := HLow.out q hq; have h2 := (Hu.out.lt q e).1; omega) Hz8.out hl1 hl2 ?_)
              apply Stop.go
              intro gL capL wL HL HbL HgL HwL
              go_wp2_with fail
              go_roundw
              case rel => exact ⟨k + 1, by omega, by go_num, by rw [Q1.out]; exact Hv8.out.keepLow HgL.out (fun q e => (Hu8.out.lt q e).1) Hap.out, by rw [Q2.out]; exact HL.out, Hap.out.grown (fun q e => (Hv8.out.lt q e).2) HwL.out.1, ⟨_, xn, xc, rfl, by rw [Q3.out]; exact Hx.out.1, Hx.out.2.1, by rw [Q3.out]; exact Hx.out.2.2⟩, (HB.out ▸ bt Hb3.out D8.out : Below B w3 w8).trans HbL.out⟩
              case measure => simp [intOf]; omega
            | cons y T =>
              have z2 : 0 < xn := by have := Hx.out.1; simp at this; omega
              have z3 : (0 : Int) < xn := by omega
              have d1 : decide (0 < xn) = true := by simpa using z2
              obtain ⟨ax, rfl, hy⟩ := Hx.out.2.2.int 0 (by simp)
              have cy : w4.cell? ax = some (.int .i64 y) := (D34.out.cell (block_lt_of_cell hy)).trans hy
              have cy0 : w4.cell? (ax.add 0) = some (.int .i64 y) := (D34.out.cell (block_lt_of_cell hy)).trans hy
              have e2 : (c.id == y) = false := by simpa using fun e => Q4.out y (by simp) e.symm
              clear hy
              go_wp2_with fail
              go_quiet (fail)
              have D5 := Lib.hid (bdrew w4 nq)
              have Hx5 := Lib.hid (Hb4.out.ext D5.out)
              generalize w4.drewN nq = w5 at *
              go_wp2_with (first | refine wpList_load_blk rfl _ _ rfl _ rfl _ _ Hx5.out _ Try.underlying59 rfl Try.chgSize ?_ | refine wpList_build_row rfl _ _ _ rfl Try.underlying26 5 72 _ Try.chgInfo (by decide) (by decide) #[.int .i64 c.id, .int .i64 c.block, .int .i64 c.p.at_, .slice Ad nd cd, .slice Am nm cm] rfl rfl ?_)
              apply Stop.go; intro w8 Hg8 Hb8
              have D8 := Lib.hid (bt (bt D4.out D5.out) Hg8.out.1)
              have Hu8 := Lib.hid (Hu.out.ext D8.out)
              have Hv8 := Lib.hid (Hv.out.ext D8.out)
              have HR8 := Lib.hid (show (RdLow B).R w8 _ c from ⟨(Hcv.out.below D8.out).rd, HLow.out⟩)
              have Hz8 := Lib.hid (Nat.le_trans HzB.out D8.out.size)
              have hl1 : O1.length + 1 ≤ 140737488355328 := by have := HL2.out; omega
              have hl2 : (O1.length + 1) * 72 ≤ 140737488355328 := by have := HL2.out; omega
              go_wp2_with (at_builtin; refine wpList_append_L (RdLow B) rfl _ _ _ _ rfl Try.underlying26 5 72 _ Try.chgInfo rfl (by decide) B _ O1 rfl Hu8.out _ _ rfl Hb8.out rfl (by simp [Value.oneCell']) c HR8.out (fun q hq e => by have h1 := HLow.out q hq; have h2 := (Hu.out.lt q e).1; omega) Hz8.out hl1 hl2 ?_)
              apply Stop.go
              intro gL capL wL HL HbL HgL HwL
              go_wp2_with fail
              go_roundw
              case rel => exact ⟨k + 1, by omega, by go_num, by rw [Q1.out]; exact Hv8.out.keepLow HgL.out (fun q e => (Hu8.out.lt q e).1) Hap.out, by rw [Q2.out]; exact HL.out, Hap.out.grown (fun q e => (Hv8.out.lt q e).2) HwL.out.1, ⟨_, xn, xc, rfl, by rw [Q3.out]; exact Hx.out.1, Hx.out.2.1, by rw [Q3.out]; exact Hx.out.2.2⟩, (HB.out ▸ bt Hb3.out D8.out : Below B w3 w8).trans HbL.out⟩
              case measure => simp [intOf]; omega
          · obtain ⟨p1, p2, p3⟩ := HP1.out HbE.out rfl
            have Q1 := Lib.hid p1
            have Q2 := Lib.hid p2
            have Q3 := Lib.hid p3
            clear p1 p2
            rw [p3] at Hx
            clear p3
            have z2 : 0 < xn := by have := Hx.out.1; simp at this; omega
            have z3 : (0 : Int) < xn := by omega
            have d1 : decide (0 < xn) = true := by simpa using z2
            obtain ⟨ax, rfl, hy⟩ := Hx.out.2.2.int 0 (by simp)
            have cy : w4.cell? ax = some (.int .i64 c.id) := (D34.out.cell (block_lt_of_cell hy)).trans hy
            have cy0 : w4.cell? (ax.add 0) = some (.int .i64 c.id) := (D34.out.cell (block_lt_of_cell hy)).trans hy
            have e2 : (c.id == c.id) = true := by simp
            clear hy
            go_wp2_with fail
            go_quiet (fail)
            have D5 := Lib.hid (bt D4.out (bdrew w4 nq))
            have Hx5 := Lib.hid (Hb4.out.ext (bdrew w4 nq))
            generalize w4.drewN nq = w5 at *
            have Hex := Lib.hid (bt D5.out (bdrew w5 1))
            go_wp2_with fail
            refine WH.start (S := fun w' : World => Blk w' wr.heap.size 59 #[.int .i64 c.id, .int .i64 c.block, .int .i64 c.p.at_, .slice Ad nd cd, .slice Am nm cm]) [false, false, false, false, false, false, false, false] 8 rfl rfl (by kernel_rfl) (Hx5.out.ext (bdrew w5 1)) (fun hSn => ?_)
            obtain ⟨wS, hwS⟩ : ∃ x, w5.drew = x := ⟨_, rfl⟩
            rw [show w5.drewN 1 = wS from hwS] at Hex
            rw [hwS] at hSn ⊢
            clear hwS
            refine WH.take 0 _ ?_ rfl (by kernel_rfl) (fun _ _ _ h => h) rfl (by assumption) ?_ ?_; rotate_left; (focus (intro w hSw; (try dsimp only at hSw); (first | (go_simp; done) | (go_simp; with_reducible rfl)))); simp only [Act.put, List.setIfInBounds_toArray, List.set_cons_zero, List.set_cons_succ]
            refine WH.take 1 _ _ rfl (by kernel_rfl) (fun _ _ _ h => h) rfl (by assumption) (fun w' hSw => exec_load_blk _ _ rfl _ rfl _ _ (hSw) _ (Try.underlying59) rfl (Try.chgSize)) ?_; simp only [Act.put, List.setIfInBounds_toArray, List.set_cons_zero, List.set_cons_succ]
            refine WH.take 4 _ ?_ rfl (by kernel_rfl) (fun _ _ _ h => h) rfl (by assumption) ?_ ?_; rotate_left; (focus (intro w hSw; (try dsimp only at hSw); (first | (go_simp; done) | (go_simp; with_reducible rfl)))); simp only [Act.put, List.setIfInBounds_toArray, List.set_cons_zero, List.set_cons_succ]
            refine WH.take 5 _ _ rfl (by kernel_rfl) (fun _ _ _ h => h) rfl (by assumption) (fun w' hSw => exec_slice_tail _ _ _ rfl _ Try.underlying30 Try.intSizeR (some ax) xn xc rfl z2 Hx.out.2.1) ?_; simp only [Act.put, List.setIfInBounds_toArray, List.set_cons_zero, List.set_cons_succ]
            refine WH.only 2 _ rfl (by kernel_rfl) rfl (fun K hK => ?_)
            refine ow_build_row _ _ _ rfl Try.underlying26 5 72 _ Try.chgInfo (by decide) (by decide) #[.int .i64 c.id, .int .i64 c.block, .int .i64 c.p.at_, .slice Ad nd cd, .slice Am nm cm] rfl rfl ?_
            apply Stop.go
            intro wB HgB HbB
            have D8 := Lib.hid (bt Hex.out HgB.out.1)
            have Hu8 := Lib.hid (Hu.out.ext D8.out)
            have Hv8 := Lib.hid (Hv.out.ext D8.out)
            have HR8 := Lib.hid (show (RdLow B).R wB _ c from ⟨(Hcv.out.below D8.out).rd, HLow.out⟩)
            have Hz8 := Lib.hid (Nat.le_trans HzB.out D8.out.size)
            have hl1 : I1.length + 1 ≤ 140737488355328 := by have := HL1.out; omega
            have hl2 : (I1.length + 1) * 72 ≤ 140737488355328 := by have := HL1.out; omega
            have hSn := hSn.ext HgB.out.1; refine hK _ _ hSn ?_; clear hK; clear K; simp only [Act.put, List.setIfInBounds_toArray, List.set_cons_zero, List.set_cons_succ]
            refine WH.only 3 _ rfl (by kernel_rfl) rfl (fun K hK => ?_)
            refine ow_append_L (RdLow B) _ _ _ _ rfl Try.underlying26 5 72 _ Try.chgInfo rfl (by decide) B _ I1 rfl Hv8.out _ _ rfl HbB.out rfl (by simp [Value.oneCell']) c HR8.out (fun q hq e => by have h1 := HLow.out q hq; have h2 := (Hv.out.lt q e).1; omega) Hz8.out hl1 hl2 ?_
            apply Stop.go
            intro gL capL wL HL HbL HgL HwL
            have hSn := Blk.grown hSn HgL.out (fun e => by have := (Hv.out.lt _ e.symm).2; omega); refine hK _ _ hSn ?_; clear hK; clear K; simp only [Act.put, List.setIfInBounds_toArray, List.set_cons_zero, List.set_cons_succ]
            refine WH.take 6 _ ?_ rfl (by kernel_rfl) (fun _ _ _ h => h) rfl (by assumption) ?_ ?_; rotate_left; (focus (intro w hSw; (try dsimp only at hSw); (first | (go_simp; done) | (go_simp; with_reducible rfl)))); simp only [Act.put, List.setIfInBounds_toArray, List.set_cons_zero, List.set_cons_succ]
            refine WH.take 7 _ ?_ rfl (by kernel_rfl) (fun _ _ _ h => h) rfl (by assumption) ?_ ?_; rotate_left; (focus (intro w hSw; (try dsimp only at hSw); (first | (go_simp; done) | (go_simp; with_reducible rfl)))); simp only [Act.put, List.setIfInBounds_toArray, List.set_cons_zero, List.set_cons_succ]
            refine WH.done (by kernel_rfl) ?_
            go_wp2_with fail
            go_roundw
            case rel => exact ⟨k + 1, by omega, by go_num, by rw [Q1.out]; exact HL.out, by rw [Q2.out]; exact Hu8.out.keepLow HgL.out (fun q e => (Hv8.out.lt q e).1) Hap.out.symm, (Hap.out.symm.grown (fun q e => (Hu8.out.lt q e).2) HwL.out.1).symm, ⟨_, xn - 1, xc - 1, rfl, by have := Hx.out.1; simp at this; omega, by have := Hx.out.2.1; omega, RC.tail Hx.out.2.2 (by have h1 := Hx.out.1; have := Hx.out.2.1; rw [List.length_cons] at h1; omega)⟩, (HB.out ▸ bt Hb3.out D8.out : Below B w3 wB).trans HbL.out⟩
            case measure => simp [intOf]; omega
        · have e1 : (c.block != block) = true := by simpa using hb
          obtain ⟨p1, p2, p3⟩ := HP0.out hb
          have Q1 := Lib.hid p1
          have Q2 := Lib.hid p2
          have Q3 := Lib.hid p3
          clear p1 p2 p3 hb
          go_wp2_with fail
          go_roundw
          case rel => exact ⟨k + 1, by omega, by go_num, by rw [Q1.out]; exact Hv.out.ext D4.out, by rw [Q2.out]; exact Hu.out.ext D4.out, Hap.out, ⟨Ax, xn, xc, rfl, by rw [Q3.out]; exact Hx.out.1, Hx.out.2.1, by rw [Q3.out]; exact Hx.out.2.2⟩, HB.out ▸ D34.out⟩
          case measure => simp [intOf]; omega
      · have d0 : decide ((k : Int) < n) = false := by simpa using hlt
        rw [inK_all (by rw [Hn.out]; omega)] at Hv
        rw [outK_all (by rw [Hn.out]; omega)] at Hu
        obtain ⟨A1, c1, hv, a1, a2, a3⟩ := Hv.out.plain.read
        obtain ⟨A2, c2, hu, b1, b2, b3⟩ := Hu.out.plain.read
        subst hv; subst hu
        have Ha := Lib.hid (And.intro a1 (And.intro a2 a3))
        have Hb := Lib.hid (And.intro b1 (And.intro b2 b3))
        clear a1 a2 a3 b1 b2 b3
        go_wp2_with fail
        go_ret2
        refine ⟨_, _, _, _, _, _, rfl, ?_, ?_, bt Hw3.out Hb3.out⟩
        · rw [Hin.out]; exact ⟨rfl, Ha.out.1, Ha.out.2.1, Ha.out.2.2⟩
        · rw [Hout.out]; exact ⟨rfl, Hb.out.1, Hb.out.2.1, Hb.out.2.2⟩

end Go.Proofs.Ytckkdfpmibipfaa

/-
  Contracts of package roll: View, Image, Held, Write, Back.
-/
namespace Go.Proofs.Ytckkdfpmibipfaa
open Go.RowKit

section
variable {P : Program} {a : Act} {w : World}
/-- Three results of which the first is an array. -/
theorem bodyPost_cell_tmp2 {R : Ending → World → Prop} {fn : Func} {p q r : Tmp} {t : TypeId} (hf : fn.results = #[ResultVar.cell p t, ResultVar.tmp q, ResultVar.tmp r]) (g : Nat) (hp : a.tmps.getD p undef = .pointer (some ⟨g, 0, none⟩)) (t' : TypeId) (cs : Array Value) (hg : Blk w g t' cs)
    (n : Nat) (e : TypeId) (hu : P.underlying t = some (.array n e)) (hi : (P.info? t).map (·.size) = some cs.size) (hd : a.defers = []) (v : Value) (hq : a.tmps.getD q undef = v) (u : Value) (hr : a.tmps.getD r undef = u) (hR : Stop (R (.returned (.tuple #[.agg cs, v, u])) w)) : bodyPost P fn R .ret a w := by
  refine bodyPost_ret (v := .tuple #[.agg cs, v, u]) ?_ hd hR
  have hp' : a.tmps[p]?.getD undef = .pointer (some ⟨g, 0, none⟩) := by simpa using hp
  have hq' : a.tmps[q]?.getD undef = v := by simpa using hq
  have hr' : a.tmps[r]?.getD undef = u := by simpa using hr
  simp [results, hf, hp', hq', hr', asAddr, run_loadVar_row w g t' t cs (0, 0) _ hg hu rfl hi]
end
/-- A result that is a block, and numbers. -/
def RetAI (w : World) (L : List UInt8) (ids : List Int) (e : Ending) (w' : World) : Prop := ∃ A n c, e = .returned (.tuple #[.agg (bcells L), .slice A n c]) ∧ (ids.length = n ∧ n ≤ c ∧ c ≤ maxLen ∧ RC w' A (ivals ids)) ∧ Below w.heap.size w w'
/-- .. a block, changes (all made by the call), and numbers. -/
def RetACI (w : World) (L : List UInt8) (l : List Cg) (ids : List Int) (e : Ending) (w' : World) : Prop := ∃ A n c A' n' c', e = .returned (.tuple #[.agg (bcells L), .slice A n c, .slice A' n' c']) ∧ (l.length = n ∧ n ≤ c ∧ c ≤ maxLen ∧ RdL (RdHi w.heap.size) w' A 5 l) ∧ (ids.length = n' ∧ n' ≤ c' ∧ c' ≤ maxLen ∧ RC w' A' (ivals ids)) ∧ Below w.heap.size w w'

theorem bcells_mem {M : List UInt8} {v : Value} (h : v ∈ (bcells M).toList) : ∃ z, v = .int .u8 z := by
  unfold bcells at h
  obtain ⟨x, _, rfl⟩ := List.mem_map.1 (by simpa using h)
  exact ⟨_, rfl⟩
/-- A store into a block of bytes leaves numbers. -/
theorem RC.past {w w' : World} {A : Option Addr} {ids : List Int} (h : RC w A (ivals ids)) {g : Nat} {t : TypeId} {M : List UInt8} (hg : Blk w g t (bcells M)) (ho : Only w w' g) : RC w' A (ivals ids) := RC.same h fun hl ad ha => ho.block _ fun e => by
  rw [ivals_len] at hl
  obtain ⟨ad', e', hc⟩ := h.int 0 hl
  rw [ha] at e'
  injection e' with e'
  subst e'
  obtain ⟨z, hz⟩ := bcells_mem (blk_cell_mem hg (by rw [block_of_add]; exact e) hc)
  cases hz
/-- .. and changes that lie apart from it. -/
theorem RdL.past {w w' : World} {B : Nat} {A : Option Addr} {l : List Cg} (h : RdL (RdHi B) w A 5 l) {g : Nat} {t : TypeId} {M : List UInt8} (hg : Blk w g t (bcells M)) (ho : Only w w' g) (hB : g < B) : RdL (RdHi B) w' A 5 l := by
  obtain ⟨rows, h1, h2, h3, h4⟩ := h
  refine ⟨rows, h1, fun k hk i hi => ?_, h3, fun k hk hk' => (RdHi B).stable (h4 k hk hk') fun q hq => ho.block _ (fun e => by have := (h4 k hk hk').2 q hq; omega)⟩
  obtain ⟨ad, x, e, hx, hc⟩ := h2 k hk i hi
  refine ⟨ad, x, e, hx, ?_⟩
  obtain ⟨v0, v1, v2, v3, v4, er, hcg⟩ := (h4 k hk (by omega)).1
  obtain ⟨ad0, x0, e0, hx0, hc0⟩ := h2 k hk 0 (by decide)
  rw [e] at e0
  injection e0 with e0
  subst e0
  rw [er] at hx0
  have hne : ad.block ≠ g := fun hb => by
    obtain ⟨z, hz⟩ := bcells_mem (blk_cell_mem hg (by rw [block_of_add]; exact hb) hc0)
    simp at hx0
    rw [← hx0, hcg.e0] at hz
    cases hz
  rw [World.cell?_of_block (w := w) (w' := w') (a := ad.add (k * 5 + i)) (by rw [block_of_add]; exact ho.block _ hne)]
  exact hc
theorem RdL.hiDown {w : World} {B B' : Nat} {A : Option Addr} {l : List Cg} (h : RdL (RdHi B) w A 5 l) (hB : B' ≤ B) : RdL (RdHi B') w A 5 l := by
  obtain ⟨rows, h1, h2, h3, h4⟩ := h
  exact ⟨rows, h1, h2, h3, fun k hk hk' => ⟨(h4 k hk hk').1, fun g hg => Nat.le_trans hB ((h4 k hk hk').2 g hg)⟩⟩

theorem ofC_len (l : List Cg) (block : Int) : (ofC l block).length ≤ l.length := List.length_filter_le _ _
theorem viewC_len {L : List UInt8} (hL : L.length = 256) (l : List Cg) (block : Int) : (viewC L l block).length = 256 := by
  unfold viewC
  split
  · exact laidC_len _ hL
  · exact hL
theorem imageC_len {L : List UInt8} (hL : L.length = 256) (l : List Cg) (block : Int) : (imageC L l block).length = 256 := laidC_len _ hL
theorem readyC_few {l : List Cg} {block : Int} : (readyC l block).length ≤ l.length := by
  have h := (readyC_sub (l := l) (block := block)).length_le
  rwa [List.length_map] at h
theorem doneC_wrong {l : List Cg} {block : Int} (h : mayC l = false) : doneC l block = [] := by
  unfold doneC
  rw [readyC_wrong h]
  exact List.filter_eq_nil_iff.2 (fun c _ => by simp)
theorem inP_eq (l : List Cg) (block : Int) : inP l block = doneC l block := by
  unfold inP
  split
  · rfl
  · rename_i h
    rw [doneC_wrong (by simpa using h)]
theorem inP_ids (l : List Cg) (block : Int) : (inP l block).map (·.id) = readyC l block := by
  cases hm : mayC l
  · rw [inP_eq, doneC_wrong hm, readyC_wrong hm]; rfl
  · rw [inP_eq, doneC_ids hm]
theorem outP_ids (l : List Cg) (block : Int) : (outP l block).map (·.id) = heldC l block := by
  unfold outP heldC
  split <;> rfl
theorem inP_len (l : List Cg) (block : Int) : (inP l block).length ≤ l.length := by
  have h := congrArg List.length (inP_ids l block)
  rw [List.length_map] at h
  rw [h]
  exact readyC_few
theorem outP_len (l : List Cg) (block : Int) : (outP l block).length ≤ l.length := by
  unfold outP restC
  split
  · exact Nat.le_trans (List.length_filter_le _ _) (ofC_len _ _)
  · exact Nat.zero_le _
theorem imageC_eq (L : List UInt8) (l : List Cg) (block : Int) : imageC L l block = laidC L (inP l block) := by rw [inP_eq]; rfl
theorem RdL.idsR {w : World} {A : Option Addr} {l : List Cg} (h : RdL RdC w A 5 l) : ∀ c ∈ l, -9223372036854775808 ≤ c.id ∧ c.id < 9223372036854775808 := fun c hc => by
  obtain ⟨k, hk, rfl⟩ := List.getElem_of_mem hc
  obtain ⟨ad, Ad, nd, cd, An, nn, cn, _, hcv, _⟩ := h.cg hk
  exact ⟨hcv.lo0, hcv.hi0⟩
theorem readyC_idsR {w : World} {A : Option Addr} {l : List Cg} (h : RdL RdC w A 5 l) {b : Int} : ∀ z ∈ readyC l b, -9223372036854775808 ≤ z ∧ z < 9223372036854775808 := fun z hz => by
  obtain ⟨c, hc, rfl⟩ := List.mem_map.1 (readyC_sub.subset hz)
  exact h.idsR c hc

set_option maxRecDepth 100000 in
set_option maxHeartbeats 4000000 in
theorem pview_any (L : List UInt8) (hL : L.length = 256) (A : Option Addr) (n cap : Nat) (l : List Cg) (hn : l.length = n) (hm : n ≤ 4096) (hD : ∀ c ∈ l, c.p.data.length ≤ 4096 ∧ c.needs.length ≤ 4096) (block : Int) (w : World) (hr : RdL RdC w A 5 l) :
    Calls Try.prog 10 #[.agg (bcells L), .slice A n cap, .int .i64 block] w (RetA w (viewC L l block)) := by
  have HL := Lib.hid hL
  have Hn := Lib.hid hn
  have Hr := Lib.hid hr
  have HDD := Lib.hid hD
  have HV := Lib.hid (show viewC L l block = if mayC l then laidC L (ofC l block) else L from rfl)
  generalize viewC L l block = V at *
  clear hL hn hr hD
  go_enter Try.func10, Try.ntmps10
  go_wp2_with (refine wpList_box_row rfl _ _ rfl _ rfl ?_)
  apply Stop.go; intro w1 Hg1 Hb1
  go_wp2_with (refine wpList_alloc_row rfl _ rfl _ Try.blockZero ?_)
  apply Stop.go; intro w2 Hg2 Hb2
  have Hw2 := Lib.hid (bt Hg1.out.1 Hg2.out.1)
  have Z1 := Lib.hid Hg1.out.2
  have Hy2 := Lib.hid (Hb1.out.ext Hg2.out.1)
  go_wp2_with fail
  refine (chk_any A n cap l Hn.out hm _ (Hr.out.below Hw2.out)).mono ?_; rintro e w3 ⟨rfl, hb3⟩
  have Hw3 := Lib.hid (bt Hw2.out hb3)
  have Hy3 := Lib.hid (Hy2.out.ext hb3)
  have Hz3 := Lib.hid (Hb2.out.ext hb3)
  clear hb3
  cases hmay : mayC l
  · rw [chkI_no hmay]
    rw [hmay] at HV
    clear hmay
    go_wp2_with (first | refine wpList_load_arr rfl _ _ rfl _ rfl _ _ Hy3.out _ _ Try.underlying28 (Try.blockFits HL.out) ?_ | refine wpList_store_arr rfl _ _ _ rfl _ (bcells L) rfl rfl _ _ Hz3.out (Try.blockFits HL.out) (by rw [bcells_size, bcells_size, HL.out, zeros_len]) (oneCell_bcells _) ?_)
    apply Stop.go; intro w6 Ho6 Hb6
    go_wp2_with ((with_reducible show bodyPost _ _ _ _ _ _); refine bodyPost_cell rfl _ rfl _ _ Hb6.out _ _ Try.underlying28 (Try.blockFits HL.out) rfl ?_)
    apply Stop.go
    exact ⟨by rw [HV.out]; rfl, bonly Hw3.out Ho6.out (by have := Z1.out; omega)⟩
  · rw [chkI_yes hmay]
    rw [hmay] at HV
    clear hmay
    have Hr4 := Lib.hid (Hr.out.below (bt Hw3.out (bdrew w3 1)))
    have HM := Lib.hid (laidC_len (ofC l block) HL.out)
    have Hol := Lib.hid (ofC_len l block)
    go_wp2_with fail
    refine WH.start (S := fun w' : World => Blk w' w.heap.size 28 (bcells L)) [false, false, false, false, false, false] 6 rfl rfl (by kernel_rfl) (Hy3.out.ext (bdrew w3 1)) (fun hSn => ?_)
    have Hex := Lib.hid (bdrew w3 1)
    obtain ⟨wS, hwS⟩ : ∃ x, w3.drew = x := ⟨_, rfl⟩
    rw [show w3.drewN 1 = wS from hwS] at Hex Hr4
    rw [hwS] at hSn ⊢
    clear hwS
    refine WH.take 0 _ _ rfl (by kernel_rfl) (fun _ _ _ h => h) rfl (by assumption) (fun w' hSw => run_load_arr _ _ rfl _ rfl _ _ (hSw) _ _ (Try.underlying28) (Try.blockFits HL.out)) ?_; simp only [Act.put, List.setIfInBounds_toArray, List.set_cons_zero, List.set_cons_succ]
    refine WH.take 1 _ ?_ rfl (by kernel_rfl) (fun _ _ _ h => h) rfl (by assumption) ?_ ?_; rotate_left; (focus (intro w hSw; (try dsimp only at hSw); (first | (go_simp; done) | (go_simp; with_reducible rfl)))); simp only [Act.put, List.setIfInBounds_toArray, List.set_cons_zero, List.set_cons_succ]
    refine WH.take 2 _ ?_ rfl (by kernel_rfl) (fun _ _ _ h => h) rfl (by assumption) ?_ ?_; rotate_left; (focus (intro w hSw; (try dsimp only at hSw); (first | (go_simp; done) | (go_simp; with_reducible rfl)))); simp only [Act.put, List.setIfInBounds_toArray, List.set_cons_zero, List.set_cons_succ]
    refine WH.only 3 _ rfl (by kernel_rfl) rfl (fun K hK => ?_); go_simp; refine (pof_any A n cap l Hn.out hm HDD.out block _ Hr4.out).mono ?_; rintro e wa ⟨A2, n2, c2, rfl, h1, h2, h3, h4, h5⟩; go_simp
    have H1 := Lib.hid h1
    have H4 := Lib.hid h4
    have Hex := Lib.hid (bt Hex.out h5)
    clear h1 h2 h3 h4
    have hSn := hSn.ext h5; refine hK _ _ hSn ?_; clear hK; clear K; simp only [List.set_cons_zero, List.set_cons_succ]
    clear h5
    refine WH.only 4 _ rfl (by kernel_rfl) rfl (fun K hK => ?_); go_simp; refine (laid_any L HL.out A2 n2 c2 (ofC l block) H1.out (by have := H1.out; have := Hol.out; have := Hn.out; omega) _ H4.out).mono ?_; rintro e wb ⟨rfl, h5⟩; go_simp
    have Hex := Lib.hid (bt Hex.out h5)
    have hSn := hSn.ext h5; refine hK _ _ hSn ?_; clear hK; clear K; simp only [List.set_cons_zero, List.set_cons_succ]
    clear h5
    have Hz5 := Lib.hid (Hz3.out.ext Hex.out)
    refine WH.only 5 _ rfl (by kernel_rfl) rfl (fun K hK => ?_)
    refine ow_store _ _ _ rfl _ (bcells (laidC L (ofC l block))) rfl rfl _ _ Hz5.out (Try.blockFits HM.out) (by rw [bcells_size, bcells_size, HM.out, zeros_len]) (oneCell_bcells _) ?_
    apply Stop.go
    intro w9 Ho9 Hb9
    have hSn := hSn.only Ho9.out (by have := Z1.out; omega); refine hK _ _ hSn ?_; clear hK; clear K; simp only [Act.put, List.set_cons_zero, List.set_cons_succ]
    refine WH.done (by kernel_rfl) ?_
    go_wp2_with ((with_reducible show bodyPost _ _ _ _ _ _); refine bodyPost_cell rfl _ rfl _ _ Hb9.out _ _ Try.underlying28 (Try.blockFits HM.out) rfl ?_)
    apply Stop.go
    exact ⟨by rw [HV.out]; rfl, bonly (bt Hw3.out Hex.out) Ho9.out (by have := Z1.out; omega)⟩

set_option maxRecDepth 100000 in
set_option maxHeartbeats 4000000 in
theorem pimage_any (L : List UInt8) (hL : L.length = 256) (A : Option Addr) (n cap : Nat) (l : List Cg) (hn : l.length = n) (hm : n ≤ 4096) (block : Int) (w : World) (hr : RdL RdC w A 5 l) :
    Calls Try.prog 11 #[.agg (bcells L), .slice A n cap, .int .i64 block] w (RetAI w (imageC L l block) (readyC l block)) := by
  have HL := Lib.hid hL
  have Hn := Lib.hid hn
  have Hr := Lib.hid hr
  have HV := Lib.hid (imageC_eq L l block)
  have HI := Lib.hid (inP_ids l block)
  have Hil := Lib.hid (inP_len l block)
  have HM := Lib.hid (laidC_len (inP l block) hL)
  generalize imageC L l block = V at *
  generalize readyC l block = R at *
  clear hL hn hr
  go_enter Try.func11, Try.ntmps11
  go_wp2_with (refine wpList_box_row rfl _ _ rfl _ rfl ?_)
  apply Stop.go; intro w1 Hg1 Hb1
  go_wp2_with (refine wpList_alloc_row rfl _ rfl _ Try.blockZero ?_)
  apply Stop.go; intro w2 Hg2 Hb2
  have Hw2 := Lib.hid (bt Hg1.out.1 Hg2.out.1)
  have Z1 := Lib.hid Hg1.out.2
  have Hy2 := Lib.hid (Hb1.out.ext Hg2.out.1)
  go_wp2_with fail
  refine (parted_any A n cap l Hn.out hm block _ (Hr.out.below Hw2.out)).mono ?_; rintro e w3 ⟨A2, n2, c2, A3, n3, c3, rfl, ⟨h1, h2, h3, h4⟩, -, h5⟩
  generalize inP l block = I at *
  have Hw3 := Lib.hid (bt Hw2.out h5)
  have Hy3 := Lib.hid (Hy2.out.ext h5)
  have Hz3 := Lib.hid (Hb2.out.ext h5)
  have H1 := Lib.hid h1
  have H4 := Lib.hid h4
  have Hm2 := Lib.hid (show n2 ≤ 4096 by have := Hil.out; have := Hn.out; omega)
  clear h1 h2 h3 h4 h5
  go_wp2_with (refine wpList_load_arr rfl _ _ rfl _ rfl _ _ Hy3.out _ _ Try.underlying28 (Try.blockFits HL.out) ?_)
  refine (laid_any L HL.out A2 n2 c2 I H1.out Hm2.out _ H4.out).mono ?_; rintro e w4 ⟨rfl, h5⟩
  have Hw4 := Lib.hid (bt Hw3.out h5)
  have Hz4 := Lib.hid (Hz3.out.ext h5)
  have H44 := Lib.hid (H4.out.below h5)
  clear h5
  go_wp2_with fail
  refine (ids_any A2 n2 c2 I H1.out Hm2.out _ H44.out).mono ?_; rintro e w5 ⟨Ai, ni, ci, rfl, g1, g2, g3, g4, h5⟩
  rw [HI.out] at g1 g4
  have Hw5 := Lib.hid (bt Hw4.out h5)
  have Hz5 := Lib.hid (Hz4.out.ext h5)
  have G := Lib.hid (And.intro g1 (And.intro g2 (And.intro g3 g4)))
  clear h5 g1 g2 g3 g4
  go_wp2_with (refine wpList_store_arr rfl _ _ _ rfl _ (bcells (laidC L I)) rfl rfl _ _ Hz5.out (Try.blockFits HM.out) (by rw [bcells_size, bcells_size, HM.out, zeros_len]) (oneCell_bcells _) ?_)
  apply Stop.go; intro w6 Ho6 Hb6
  go_wp2_with ((with_reducible show bodyPost _ _ _ _ _ _); refine bodyPost_cell_tmp rfl _ rfl _ _ Hb6.out _ _ Try.underlying28 (Try.blockFits HM.out) rfl _ rfl ?_)
  apply Stop.go
  exact ⟨Ai, ni, ci, by rw [HV.out], ⟨G.out.1, G.out.2.1, G.out.2.2.1, G.out.2.2.2.past Hz5.out Ho6.out⟩, bonly Hw5.out Ho6.out (by have := Z1.out; omega)⟩

set_option maxRecDepth 100000 in
set_option maxHeartbeats 4000000 in
theorem pheld_any (A : Option Addr) (n cap : Nat) (l : List Cg) (hn : l.length = n) (hm : n ≤ 4096) (block : Int) (w : World) (hr : RdL RdC w A 5 l) :
    Calls Try.prog 17 #[.slice A n cap, .int .i64 block] w (RetI w (heldC l block)) := by
  have Hn := Lib.hid hn
  have Hr := Lib.hid hr
  have HI := Lib.hid (outP_ids l block)
  have Hil := Lib.hid (outP_len l block)
  generalize heldC l block = R at *
  clear hn hr
  go_enter Try.func17, Try.ntmps17
  go_wp2_with fail
  refine (parted_any A n cap l Hn.out hm block _ Hr.out).mono ?_; rintro e w3 ⟨A2, n2, c2, A3, n3, c3, rfl, -, ⟨h1, h2, h3, h4⟩, h5⟩
  generalize outP l block = I at *
  have Hw3 := Lib.hid h5
  have H1 := Lib.hid h1
  have H4 := Lib.hid h4
  have Hm2 := Lib.hid (show n3 ≤ 4096 by have := Hil.out; have := Hn.out; omega)
  clear h1 h2 h3 h4 h5
  go_wp2_with fail
  refine (ids_any A3 n3 c3 I H1.out Hm2.out _ H4.out).mono ?_; rintro e w5 ⟨Ai, ni, ci, rfl, g1, g2, g3, g4, h5⟩
  rw [HI.out] at g1 g4
  have Hw5 := Lib.hid (bt Hw3.out h5)
  have G := Lib.hid (And.intro g1 (And.intro g2 (And.intro g3 g4)))
  clear h5 g1 g2 g3 g4
  go_wp2_with fail
  go_ret
  exact ⟨Ai, ni, ci, rfl, G.out.1, G.out.2.1, G.out.2.2.1, G.out.2.2.2, Hw5.out⟩

set_option maxRecDepth 100000 in
set_option maxHeartbeats 4000000 in
theorem pwrite_any (L : List UInt8) (hL : L.length = 256) (A : Option Addr) (n cap : Nat) (l : List Cg) (hn : l.length = n) (hm : n ≤ 4096) (hD : ∀ c ∈ l, c.p.data.length ≤ 4096 ∧ c.needs.length ≤ 4096) (block : Int) (w : World) (hr : RdL RdC w A 5 l) :
    Calls Try.prog 23 #[.agg (bcells L), .slice A n cap, .int .i64 block] w (RetACI w (imageC L l block) (leftC l block) (readyC l block)) := by
  have HL := Lib.hid hL
  have Hn := Lib.hid hn
  have Hr := Lib.hid hr
  have HDD := Lib.hid hD
  have HM := Lib.hid (imageC_len hL l block)
  have Hfew := Lib.hid (readyC_few (l := l) (block := block))
  have Hnb := Lib.hid (readyC_idsR hr (b := block))
  have HE := Lib.hid (show leftC l block = withoutC l (readyC l block) from rfl)
  have HCI := Lib.hid (fun w' (hb : Below w.heap.size w w') => pimage_any L hL A n cap l hn hm block w' (hr.below hb))
  generalize imageC L l block = V at *
  generalize leftC l block = T at *
  generalize readyC l block = R at *
  clear hL hn hr hD
  go_enter Try.func23, Try.ntmps23
  go_wp2_with (refine wpList_box_row rfl _ _ rfl _ rfl ?_)
  apply Stop.go; intro w1 Hg1 Hb1
  go_wp2_with (refine wpList_alloc_row rfl _ rfl _ Try.blockZero ?_)
  apply Stop.go; intro w2 Hg2 Hb2
  have Hw2 := Lib.hid (bt Hg1.out.1 Hg2.out.1)
  have Z1 := Lib.hid Hg1.out.2
  have Z2 := Lib.hid Hg2.out.2
  have Hy2 := Lib.hid (Hb1.out.ext Hg2.out.1)
  go_wp2_with (refine wpList_load_arr rfl _ _ rfl _ rfl _ _ Hy2.out _ _ Try.underlying28 (Try.blockFits HL.out) ?_)
  refine (HCI.out _ Hw2.out).mono ?_; rintro e w3 ⟨Ai, ni, ci, rfl, ⟨h1, h2, h3, h4⟩, h5⟩
  have Hw3 := Lib.hid (bt Hw2.out h5)
  have Hz3 := Lib.hid (Hb2.out.ext h5)
  have H1 := Lib.hid h1
  have H4 := Lib.hid (And.intro h2 (And.intro h3 h4))
  clear h1 h2 h3 h4 h5
  have Hmi := Lib.hid (show ni ≤ 4096 by have := Hfew.out; have := Hn.out; have := H1.out; omega)
  go_wp2_with (refine wpList_alloc_row rfl _ rfl _ Try.blockZero ?_)
  apply Stop.go; intro w4 Hg4 Hb4
  go_wp2_with (refine wpList_store_arr rfl _ _ _ rfl _ (bcells V) rfl rfl _ _ Hb4.out (Try.blockFits HM.out) (by rw [bcells_size, bcells_size, HM.out, zeros_len]) (oneCell_bcells _) ?_)
  apply Stop.go; intro w5 Ho5 Hb5
  have D5 := Lib.hid (bonly Hg4.out.1 Ho5.out (Nat.le_refl _))
  have Hw5 := Lib.hid (bt Hw3.out D5.out)
  have Hz5 := Lib.hid (Hz3.out.ext D5.out)
  have Hri := Lib.hid (H4.out.2.2.below D5.out)
  have Hex := Lib.hid (bt Hw5.out (bdrew w5 1))
  have Hex2 := Lib.hid (bdrew w5 1)
  go_wp2_with fail
  refine WH.start (S := fun w' : World => Blk w' w3.heap.size 28 (bcells V)) [false, false, false, false, false, false, false, false] 8 rfl rfl (by kernel_rfl) (Hb5.out.ext (bdrew w5 1)) (fun hSn => ?_)
  obtain ⟨wS, hwS⟩ : ∃ x, w5.drew = x := ⟨_, rfl⟩
  rw [show w5.drewN 1 = wS from hwS] at Hex Hex2
  rw [hwS] at hSn ⊢
  clear hwS
  refine WH.take 0 _ _ rfl (by kernel_rfl) (fun _ _ _ h => h) rfl (by assumption) (fun w' hSw => run_load_arr _ _ rfl _ rfl _ _ (hSw) _ _ (Try.underlying28) (Try.blockFits HM.out)) ?_; simp only [Act.put, List.setIfInBounds_toArray, List.set_cons_zero, List.set_cons_succ]
  refine WH.take 1 _ ?_ rfl (by kernel_rfl) (fun _ _ _ h => h) rfl (by assumption) ?_ ?_; rotate_left; (focus (intro w hSw; (try dsimp only at hSw); (first | (go_simp; done) | (go_simp; with_reducible rfl)))); simp only [Act.put, List.setIfInBounds_toArray, List.set_cons_zero, List.set_cons_succ]
  refine WH.take 2 _ ?_ rfl (by kernel_rfl) (fun _ _ _ h => h) rfl (by assumption) ?_ ?_; rotate_left; (focus (intro w hSw; (try dsimp only at hSw); (first | (go_simp; done) | (go_simp; with_reducible rfl)))); simp only [Act.put, List.setIfInBounds_toArray, List.set_cons_zero, List.set_cons_succ]
  refine WH.take 4 _ ?_ rfl (by kernel_rfl) (fun _ _ _ h => h) rfl (by assumption) ?_ ?_; rotate_left; (focus (intro w hSw; (try dsimp only at hSw); (first | (go_simp; done) | (go_simp; with_reducible rfl)))); simp only [Act.put, List.setIfInBounds_toArray, List.set_cons_zero, List.set_cons_succ]
  refine WH.only 3 _ rfl (by kernel_rfl) rfl (fun K hK => ?_); go_simp; refine (pwithoutH_any A n cap l Hn.out hm HDD.out Ai ni ci R H1.out Hmi.out Hnb.out _ (Hr.out.below Hex.out) (Hri.out.below Hex2.out)).mono ?_; rintro e wa ⟨A2, n2, c2, rfl, h1, h2, h3, h4, h5⟩; go_simp
  rw [← HE.out] at h1 h4
  have KK := Lib.hid (And.intro h1 (And.intro h2 (And.intro h3 h4)))
  have Hexa := Lib.hid (bt Hex.out h5)
  have Hexb := Lib.hid (bt Hex2.out h5)
  clear h1 h2 h3 h4
  have hSn := hSn.ext h5; refine hK _ _ hSn ?_; clear hK; clear K; simp only [List.set_cons_zero, List.set_cons_succ]
  clear h5
  have Hz6 := Lib.hid (Hz5.out.ext Hexb.out)
  refine WH.only 5 _ rfl (by kernel_rfl) rfl (fun K hK => ?_)
  refine ow_store _ _ _ rfl _ (bcells V) rfl rfl _ _ Hz6.out (Try.blockFits HM.out) (by rw [bcells_size, bcells_size, HM.out, zeros_len]) (oneCell_bcells _) ?_
  apply Stop.go
  intro w9 Ho9 Hb9
  have hSn := hSn.only Ho9.out (by have := Hw3.out.size; have := Z2.out; have := Z1.out; have := Hz3.out.lt; omega); refine hK _ _ hSn ?_; clear hK; clear K; simp only [Act.put, List.set_cons_zero, List.set_cons_succ]
  refine WH.take 6 _ ?_ rfl (by kernel_rfl) (fun _ _ _ h => h) rfl (by assumption) ?_ ?_; rotate_left; (focus (intro w hSw; (try dsimp only at hSw); (first | (go_simp; done) | (go_simp; with_reducible rfl)))); simp only [Act.put, List.setIfInBounds_toArray, List.set_cons_zero, List.set_cons_succ]
  refine WH.take 7 _ ?_ rfl (by kernel_rfl) (fun _ _ _ h => h) rfl (by assumption) ?_ ?_; rotate_left; (focus (intro w hSw; (try dsimp only at hSw); (first | (go_simp; done) | (go_simp; with_reducible rfl)))); simp only [Act.put, List.setIfInBounds_toArray, List.set_cons_zero, List.set_cons_succ]
  refine WH.done (by kernel_rfl) ?_
  go_wp2_with ((with_reducible show bodyPost _ _ _ _ _ _); refine bodyPost_cell_tmp2 rfl _ rfl _ _ Hb9.out _ _ Try.underlying28 (Try.blockFits HM.out) rfl _ rfl _ rfl ?_)
  apply Stop.go
  exact ⟨A2, n2, c2, Ai, ni, ci, rfl, ⟨KK.out.1, KK.out.2.1, KK.out.2.2.1, (KK.out.2.2.2.past Hz6.out Ho9.out (by have := Hz3.out.lt; have := D5.out.size; have := Hex2.out.size; omega)).hiDown Hex.out.size⟩, ⟨H1.out, H4.out.1, H4.out.2.1, (Hri.out.below Hexb.out).past Hz6.out Ho9.out⟩, bonly Hexa.out Ho9.out (by have := Z1.out; omega)⟩

set_option maxRecDepth 100000 in
set_option maxHeartbeats 4000000 in
theorem pback_any (L : List UInt8) (hL : L.length = 256) (A : Option Addr) (n cap : Nat) (l : List Cg) (hn : l.length = n) (hm : n ≤ 4096) (hD : ∀ c ∈ l, c.p.data.length ≤ 4096 ∧ c.needs.length ≤ 4096) (block : Int) (w : World) (hr : RdL RdC w A 5 l) :
    Calls Try.prog 21 #[.agg (bcells L), .slice A n cap, .int .i64 block] w (RetPL w (diffP (viewC L l block) (imageC L l block))) := by
  have HL := Lib.hid hL
  have HM := Lib.hid (imageC_len hL l block)
  have HN := Lib.hid (viewC_len hL l block)
  have HCI := Lib.hid (fun w' (hb : Below w.heap.size w w') => pimage_any L hL A n cap l hn hm block w' (hr.below hb))
  have HCV := Lib.hid (fun w' (hb : Below w.heap.size w w') => pview_any L hL A n cap l hn hm hD block w' (hr.below hb))
  generalize imageC L l block = V at *
  generalize viewC L l block = U at *
  clear hL hn hr hD
  go_enter Try.func21, Try.ntmps21
  go_wp2_with (refine wpList_box_row rfl _ _ rfl _ rfl ?_)
  apply Stop.go; intro w1 Hg1 Hb1
  go_wp2_with (refine wpList_load_arr rfl _ _ rfl _ rfl _ _ Hb1.out _ _ Try.underlying28 (Try.blockFits HL.out) ?_)
  refine (HCI.out _ Hg1.out.1).mono ?_; rintro e w3 ⟨Ai, ni, ci, rfl, -, h5⟩
  have Hw3 := Lib.hid (bt Hg1.out.1 h5)
  have Hy3 := Lib.hid (Hb1.out.ext h5)
  clear h5
  go_wp2_with (refine wpList_alloc_row rfl _ rfl _ Try.blockZero ?_)
  apply Stop.go; intro w4 Hg4 Hb4
  go_wp2_with (refine wpList_store_arr rfl _ _ _ rfl _ (bcells V) rfl rfl _ _ Hb4.out (Try.blockFits HM.out) (by rw [bcells_size, bcells_size, HM.out, zeros_len]) (oneCell_bcells _) ?_)
  apply Stop.go; intro w5 Ho5 Hb5
  have D5 := Lib.hid (bonly Hg4.out.1 Ho5.out (Nat.le_refl _))
  have Hw5 := Lib.hid (bt Hw3.out D5.out)
  have Hy5 := Lib.hid (Hy3.out.ext D5.out)
  have Hex := Lib.hid (bt Hw5.out (bdrew w5 1))
  go_wp2_with fail
  refine WH.start (S := fun w' : World => Below w5.heap.size w5 w') [false, false, false, false, false, false, false] 7 rfl rfl (by kernel_rfl) (bdrew w5 1) (fun hSn => ?_)
  obtain ⟨wS, hwS⟩ : ∃ x, w5.drew = x := ⟨_, rfl⟩
  rw [show w5.drewN 1 = wS from hwS] at Hex
  rw [hwS] at hSn ⊢
  clear hwS
  refine WH.take 0 _ _ rfl (by kernel_rfl) (fun _ _ _ h => h) rfl (by assumption) (fun w' hSw => run_load_arr _ _ rfl _ rfl _ _ (Hy5.out.ext hSw) _ _ (Try.underlying28) (Try.blockFits HL.out)) ?_; simp only [Act.put, List.setIfInBounds_toArray, List.set_cons_zero, List.set_cons_succ]
  refine WH.take 1 _ ?_ rfl (by kernel_rfl) (fun _ _ _ h => h) rfl (by assumption) ?_ ?_; rotate_left; (focus (intro w hSw; (try dsimp only at hSw); (first | (go_simp; done) | (go_simp; with_reducible rfl)))); simp only [Act.put, List.setIfInBounds_toArray, List.set_cons_zero, List.set_cons_succ]
  refine WH.take 2 _ ?_ rfl (by kernel_rfl) (fun _ _ _ h => h) rfl (by assumption) ?_ ?_; rotate_left; (focus (intro w hSw; (try dsimp only at hSw); (first | (go_simp; done) | (go_simp; with_reducible rfl)))); simp only [Act.put, List.setIfInBounds_toArray, List.set_cons_zero, List.set_cons_succ]
  refine WH.take 4 _ _ rfl (by kernel_rfl) (fun _ _ _ h => h) rfl (by assumption) (fun w' hSw => run_load_arr _ _ rfl _ rfl _ _ (Hb5.out.ext hSw) _ _ (Try.underlying28) (Try.blockFits HM.out)) ?_; simp only [Act.put, List.setIfInBounds_toArray, List.set_cons_zero, List.set_cons_succ]
  refine WH.only 3 _ rfl (by kernel_rfl) rfl (fun K hK => ?_); go_simp; refine (HCV.out _ Hex.out).mono ?_; rintro e wa ⟨rfl, h5⟩; go_simp
  have Hex := Lib.hid (bt Hex.out h5)
  have hSn := bt hSn h5; refine hK _ _ hSn ?_; clear hK; clear K; simp only [List.set_cons_zero, List.set_cons_succ]
  clear h5
  refine WH.only 5 _ rfl (by kernel_rfl) rfl (fun K hK => ?_); go_simp; refine (pdiff_any U V HN.out HM.out _).mono ?_; rintro e wb ⟨A2, n2, c2, rfl, h1, h2, h3, h4, h5⟩; go_simp
  have KK := Lib.hid (And.intro h1 (And.intro h2 (And.intro h3 h4)))
  have Hexb := Lib.hid (bt Hex.out h5)
  have hSn := bt hSn h5; refine hK _ _ hSn ?_; clear hK; clear K; simp only [List.set_cons_zero, List.set_cons_succ]
  clear h1 h2 h3 h4 h5
  refine WH.take 6 _ ?_ rfl (by kernel_rfl) (fun _ _ _ h => h) rfl (by assumption) ?_ ?_; rotate_left; (focus (intro w hSw; (try dsimp only at hSw); (first | (go_simp; done) | (go_simp; with_reducible rfl)))); simp only [Act.put, List.setIfInBounds_toArray, List.set_cons_zero, List.set_cons_succ]
  refine WH.done (by kernel_rfl) ?_
  go_wp2_with fail
  go_ret
  exact ⟨A2, n2, c2, rfl, KK.out.1, KK.out.2.1, KK.out.2.2.1, KK.out.2.2.2, Hexb.out⟩

end Go.Proofs.Ytckkdfpmibipfaa

/-
  Small facts for the walks of the laws of stage 10.
-/
namespace Go.Proofs.Ytckkdfpmibipfaa
open Go.RowKit

theorem Try.arrFits {l : List UInt8} (h : l.length = 256) : (Try.prog.info? 22).map (·.size) = some (bcells l).size := by rw [bcells_size, h]; kernel_rfl
section
variable {P : Program} {a : Act} {w : World}
theorem exec_eql_arr {o : Oper} (t t' : TypeId) (x y : Operand) (ho : o.op = .binOp .eql t x y t') (hm : P.eqGuardType P.depth t = false) (n e : Nat) (ht : P.underlying t = some (.array n e)) (he : P.underlying e = some (.int .u8)) (hs : (P.info? e).map (·.size) = some 1)
    (xs ys : List UInt8) (hx : a.eval x = .agg (bcells xs)) (hy : a.eval y = .agg (bcells ys)) (hxl : xs.length = n) (hyl : ys.length = n) (r : Bool) (hr : (xs == ys) = r) : (execOp a.eval o).run P w = .ok (.value (.bool r)) w := by
  have hrun : (binOp .eql t (.agg (bcells xs)) (.agg (bcells ys))).run P w = .ok (.bool (xs == ys)) w := run_eql_bytes w t e n ht he (sizeOf_of hs) xs ys hxl hyl
  rw [hr] at hrun
  unfold execOp
  simp only [ho, hx, hy, Sem.run_bind, run_eqGuard_agg w .eql t x y (bcells xs) (bcells ys) hm, Result.andThen_ok, hrun]
  rfl
end
section
variable {P : Program} {ops : Array Oper} {rest : List Oper} {o : Oper} {a : Act} {w : World} {Q : Exit → Act → World → Prop}
/-- A whole array as a slice. -/
theorem wpList_slice_all (hgd : Region.wanted o (yielded ops a.tmps) = true) (t : TypeId) (x : Operand) (ho : o.op = .slice t x none none none) (N e : Nat) (hu : P.underlying t = some (.array N e)) (hs : (P.info? e).map (·.size) = some 1)
    (g : Nat) (hx : a.eval x = .pointer (some ⟨g, 0, none⟩)) (h3 : 0 < N) (h : wpList P ops Q rest (a.put o.dst (.slice (some ⟨g, 0, none⟩) N N)) w) : wpList P ops Q (o :: rest) a w := by
  refine wpList_wanted hgd fun K hK => ?_
  have hr := exec_slice_all (P := P) (a := a) (w := w) t x ho N e hu hs g hx h3
  unfold Oper.wp
  rw [hr]
  exact hK _ _ h
end
theorem leftC_len (l : List Cg) (block : Int) : (leftC l block).length + (readyC l block).length = l.length := by
  cases hm : mayC l
  · rw [leftC_wrong hm, readyC_wrong hm]; rfl
  · exact withoutC_len hm
theorem leftC_mem {l : List Cg} {block : Int} {c : Cg} (h : c ∈ leftC l block) : c ∈ l := (List.mem_filter.1 h).1

end Go.Proofs.Ytckkdfpmibipfaa

/-
  The contract of the law's works.
-/
namespace Go.Proofs.Ytckkdfpmibipfaa
open Go.RowKit

section
variable {P : Program} {ops : Array Oper} {rest : List Oper} {o : Oper} {a : Act} {w : World} {K : Act → World → Prop} {Q : Exit → Act → World → Prop}
/-- A slice of three structs. -/
theorem run_build_row3 (P : Program) (w : World) (t e : TypeId) (ht : P.underlying t = some (.slice e)) (N by_ : Nat) (z : Value) (hi : (P.info? e).map (fun i => (i.zero, i.size, i.bytes)) = some (some z, N, by_)) (h0 : 0 < N) (hN : N ≤ 10000) (c0 c1 c2 : Array Value) (hc0 : c0.size = N) (hc1 : c1.size = N) (hc2 : c2.size = N) :
    (Instr.buildSlice t 3 #[(0, .agg c0), (1, .agg c1), (2, .agg c2)]).run P w = .ok (.slice (some ⟨w.heap.size, 0, none⟩) 3 3) (w.alloc (.cells (c0.toList ++ c1.toList ++ c2.toList).toArray e)) := by
  obtain ⟨i, h1, h2, h3, h4⟩ := info_parts hi
  have hsz : ((Array.range (3 * N)).map (z.cells[· % z.cells.size]!)).size = 3 * N := by rw [Array.size_map, Array.size_range]
  have hf : Instr.fill (fun j => some (j * N, N)) ((Array.range (3 * N)).map (z.cells[· % z.cells.size]!)) [(0, .agg c0), (1, .agg c1), (2, .agg c2)] = some (c0.toList ++ c1.toList ++ c2.toList).toArray := by
    generalize (Array.range (3 * N)).map (z.cells[· % z.cells.size]!) = cc at hsz
    have hw := Go.Great.fill_whole (s := N) h0 [.agg c0, .agg c1, .agg c2] cc (fun v hv => by
      simp only [List.mem_cons, List.mem_nil_iff, or_false] at hv
      rcases hv with rfl | rfl | rfl
      · exact hc0
      · exact hc1
      · exact hc2) (by rw [hsz]; rfl)
    have e1 : (([.agg c0, .agg c1, .agg c2] : List Value).flatMap fun v => v.cells.toList).toArray = (c0.toList ++ c1.toList ++ c2.toList).toArray := by
      simp [List.flatMap_cons, Value.cells]
    rw [e1] at hw
    exact hw
  exact run_buildSlice (P := P) w t e 3 #[(0, .agg c0), (1, .agg c1), (2, .agg c2)] _ i z ht h1 h2 (by rw [h3]; omega) (by rw [h3]; omega) (by rw [h3]; exact hf)
theorem wpList_build_row3 (hgd : Region.wanted o (yielded ops a.tmps) = true) (t e : TypeId) (x y z' : Operand) (ho : o.op = .buildSlice t 3 #[(0, x), (1, y), (2, z')]) (ht : P.underlying t = some (.slice e)) (N by_ : Nat) (z : Value) (hi : (P.info? e).map (fun i => (i.zero, i.size, i.bytes)) = some (some z, N, by_)) (h0 : 0 < N) (hN : N ≤ 10000)
    (c0 c1 c2 : Array Value) (hx : a.eval x = .agg c0) (hy : a.eval y = .agg c1) (hz : a.eval z' = .agg c2) (hc0 : c0.size = N) (hc1 : c1.size = N) (hc2 : c2.size = N) (cs : Array Value) (hcs : (c0.toList ++ c1.toList ++ c2.toList).toArray = cs)
    (h : Stop (∀ w', Hid (Grew w w') → Hid (Blk w' w.heap.size e cs) → wpList P ops Q rest (a.put o.dst (.slice (some ⟨w.heap.size, 0, none⟩) 3 3)) w')) : wpList P ops Q (o :: rest) a w := by
  refine wpList_wanted hgd fun K hK => ?_
  subst hcs
  unfold Oper.wp execOp
  simp only [ho, hx, hy, hz, Sem.run_bind, List.map_toArray, List.map_cons, List.map_nil, run_build_row3 P w t e ht N by_ z hi h0 hN c0 c1 c2 hc0 hc1 hc2, Result.andThen_ok]
  exact hK _ _ (h _ (Grew.alloc w _) (Blk.new w e _))
/-- .. of two. -/
theorem run_build_row2 (P : Program) (w : World) (t e : TypeId) (ht : P.underlying t = some (.slice e)) (N by_ : Nat) (z : Value) (hi : (P.info? e).map (fun i => (i.zero, i.size, i.bytes)) = some (some z, N, by_)) (h0 : 0 < N) (hN : N ≤ 10000) (c0 c1 : Array Value) (hc0 : c0.size = N) (hc1 : c1.size = N) :
    (Instr.buildSlice t 2 #[(0, .agg c0), (1, .agg c1)]).run P w = .ok (.slice (some ⟨w.heap.size, 0, none⟩) 2 2) (w.alloc (.cells (c0.toList ++ c1.toList).toArray e)) := by
  obtain ⟨i, h1, h2, h3, h4⟩ := info_parts hi
  have hsz : ((Array.range (2 * N)).map (z.cells[· % z.cells.size]!)).size = 2 * N := by rw [Array.size_map, Array.size_range]
  have hf : Instr.fill (fun j => some (j * N, N)) ((Array.range (2 * N)).map (z.cells[· % z.cells.size]!)) [(0, .agg c0), (1, .agg c1)] = some (c0.toList ++ c1.toList).toArray := by
    generalize (Array.range (2 * N)).map (z.cells[· % z.cells.size]!) = cc at hsz
    have hw := Go.Great.fill_whole (s := N) h0 [.agg c0, .agg c1] cc (fun v hv => by
      simp only [List.mem_cons, List.mem_nil_iff, or_false] at hv
      rcases hv with rfl | rfl
      · exact hc0
      · exact hc1) (by rw [hsz]; rfl)
    have e1 : (([.agg c0, .agg c1] : List Value).flatMap fun v => v.cells.toList).toArray = (c0.toList ++ c1.toList).toArray := by
      simp [List.flatMap_cons, Value.cells]
    rw [e1] at hw
    exact hw
  exact run_buildSlice (P := P) w t e 2 #[(0, .agg c0), (1, .agg c1)] _ i z ht h1 h2 (by rw [h3]; omega) (by rw [h3]; omega) (by rw [h3]; exact hf)
theorem wpList_build_row2 (hgd : Region.wanted o (yielded ops a.tmps) = true) (t e : TypeId) (x y : Operand) (ho : o.op = .buildSlice t 2 #[(0, x), (1, y)]) (ht : P.underlying t = some (.slice e)) (N by_ : Nat) (z : Value) (hi : (P.info? e).map (fun i => (i.zero, i.size, i.bytes)) = some (some z, N, by_)) (h0 : 0 < N) (hN : N ≤ 10000)
    (c0 c1 : Array Value) (hx : a.eval x = .agg c0) (hy : a.eval y = .agg c1) (hc0 : c0.size = N) (hc1 : c1.size = N) (cs : Array Value) (hcs : (c0.toList ++ c1.toList).toArray = cs)
    (h : Stop (∀ w', Hid (Grew w w') → Hid (Blk w' w.heap.size e cs) → wpList P ops Q rest (a.put o.dst (.slice (some ⟨w.heap.size, 0, none⟩) 2 2)) w')) : wpList P ops Q (o :: rest) a w := by
  refine wpList_wanted hgd fun K hK => ?_
  subst hcs
  unfold Oper.wp execOp
  simp only [ho, hx, hy, Sem.run_bind, List.map_toArray, List.map_cons, List.map_nil, run_build_row2 P w t e ht N by_ z hi h0 hN c0 c1 hc0 hc1, Result.andThen_ok]
  exact hK _ _ (h _ (Grew.alloc w _) (Blk.new w e _))
/-- A slice of one value of one cell. -/
theorem wpList_build_one1 (hgd : Region.wanted o (yielded ops a.tmps) = true) (t e : TypeId) (x : Operand) (ho : o.op = .buildSlice t 1 #[(0, x)]) (ht : P.underlying t = some (.slice e)) (by_ : Nat) (z : Value) (hi : (P.info? e).map (fun i => (i.zero, i.size, i.bytes)) = some (some z, 1, by_))
    (v : Value) (hx : a.eval x = v) (hv : v.cells = #[v]) (_ : z.cells = #[z])
    (h : Stop (∀ w', Hid (Grew w w') → Hid (Blk w' w.heap.size e #[v]) → wpList P ops Q rest (a.put o.dst (.slice (some ⟨w.heap.size, 0, none⟩) 1 1)) w')) : wpList P ops Q (o :: rest) a w := by
  refine wpList_wanted hgd fun K hK => ?_
  obtain ⟨i, h1, h2, h3, h4⟩ := info_parts hi
  have hf : Instr.fill (fun j => some (j * 1, 1)) ((Array.range (1 * 1)).map (z.cells[· % z.cells.size]!)) [(0, v)] = some #[v] := by
    have hsz : ((Array.range (1 * 1)).map (z.cells[· % z.cells.size]!)).size = 1 := by simp
    generalize (Array.range (1 * 1)).map (z.cells[· % z.cells.size]!) = cc at hsz
    obtain ⟨l⟩ := cc
    match l, hsz with
    | [c], _ => simp [Instr.fill, hv]
  have hr := run_buildSlice (P := P) w t e 1 #[(0, v)] #[v] i z ht h1 h2 (by omega) (by omega) (by rw [h3]; exact hf)
  unfold Oper.wp execOp
  simp only [ho, hx, Sem.run_bind, List.map_toArray, List.map_cons, List.map_nil, hr, Result.andThen_ok]
  exact hK _ _ (h _ (Grew.alloc w _) (Blk.new w e _))
/-- .. of two. -/
theorem wpList_build_two1 (hgd : Region.wanted o (yielded ops a.tmps) = true) (t e : TypeId) (x y : Operand) (ho : o.op = .buildSlice t 2 #[(0, x), (1, y)]) (ht : P.underlying t = some (.slice e)) (by_ : Nat) (z : Value) (hi : (P.info? e).map (fun i => (i.zero, i.size, i.bytes)) = some (some z, 1, by_))
    (v u : Value) (hx : a.eval x = v) (hy : a.eval y = u) (hv : v.cells = #[v]) (hu : u.cells = #[u]) (_ : z.cells = #[z])
    (h : Stop (∀ w', Hid (Grew w w') → Hid (Blk w' w.heap.size e #[v, u]) → wpList P ops Q rest (a.put o.dst (.slice (some ⟨w.heap.size, 0, none⟩) 2 2)) w')) : wpList P ops Q (o :: rest) a w := by
  refine wpList_wanted hgd fun K hK => ?_
  obtain ⟨i, h1, h2, h3, h4⟩ := info_parts hi
  have hf : Instr.fill (fun j => some (j * 1, 1)) ((Array.range (2 * 1)).map (z.cells[· % z.cells.size]!)) [(0, v), (1, u)] = some #[v, u] := by
    have hsz : ((Array.range (2 * 1)).map (z.cells[· % z.cells.size]!)).size = 2 := by simp
    generalize (Array.range (2 * 1)).map (z.cells[· % z.cells.size]!) = cc at hsz
    obtain ⟨l⟩ := cc
    match l, hsz with
    | [c, d], _ => simp [Instr.fill, hv, hu]
  have hr := run_buildSlice (P := P) w t e 2 #[(0, v), (1, u)] #[v, u] i z ht h1 h2 (by omega) (by omega) (by rw [h3]; exact hf)
  unfold Oper.wp execOp
  simp only [ho, hx, hy, Sem.run_bind, List.map_toArray, List.map_cons, List.map_nil, hr, Result.andThen_ok]
  exact hK _ _ (h _ (Grew.alloc w _) (Blk.new w e _))
end
theorem RC.of_blk1 {w : World} {g : Nat} {t : TypeId} {x : Int} (h : Blk w g t #[.int .i64 x]) : RC w (some ⟨g, 0, none⟩) (ivals [x]) := fun k hk => by
  obtain rfl : k = 0 := by simp [ivals] at hk; omega
  exact ⟨_, rfl, h.cell 0⟩
theorem RC.of_blk2 {w : World} {g : Nat} {t : TypeId} {x y : Int} (h : Blk w g t #[.int .i64 x, .int .i64 y]) : RC w (some ⟨g, 0, none⟩) (ivals [x, y]) := fun k hk => by
  have hk' : k = 0 ∨ k = 1 := by simp [ivals] at hk; omega
  rcases hk' with rfl | rfl
  · exact ⟨_, rfl, h.cell 0⟩
  · exact ⟨_, rfl, h.cell 1⟩
theorem RB.of_blk1 {w : World} {g : Nat} {t : TypeId} (h : Blk w g t #[.int .u8 1]) : RB w (some ⟨g, 0, none⟩) [1] := fun k hk => by
  obtain rfl : k = 0 := by simp at hk; omega
  exact ⟨_, rfl, h.cell 0⟩
theorem RB.of_blk9 {w : World} {g : Nat} {t : TypeId} (h : Blk w g t #[.int .u8 9]) : RB w (some ⟨g, 0, none⟩) [9] := fun k hk => by
  obtain rfl : k = 0 := by simp at hk; omega
  exact ⟨_, rfl, h.cell 0⟩
theorem RCL.drop {w : World} {ad : Addr} {l : List Cg} (h : RCL w (some ad) l) (m : Nat) : RCL w (some (ad.add (m * 5))) (l.drop m) := fun k hk => by
  have hk' : m + k < l.length := by simp at hk; omega
  obtain ⟨ad', v0, v1, v2, v3, v4, e, h0, h1, h2, h3, h4, hr⟩ := h (m + k) hk'
  injection e with e
  subst e
  have e0 : ∀ i, (ad.add (m * 5)).add (k * 5 + i) = ad.add ((m + k) * 5 + i) := fun i => by rw [add_of_add]; congr 1; omega
  refine ⟨_, v0, v1, v2, v3, v4, rfl, ?_, ?_, ?_, ?_, ?_, ?_⟩
  · have := e0 0
    rw [Nat.add_zero, Nat.add_zero] at this
    rw [this]; exact h0
  · rw [e0]; exact h1
  · rw [e0]; exact h2
  · rw [e0]; exact h3
  · rw [e0]; exact h4
  · simpa using hr


end Go.Proofs.Ytckkdfpmibipfaa

/-
  The contract of the law's works.
-/
namespace Go.Proofs.Ytckkdfpmibipfaa
open Go.RowKit

/-- The page's example. -/
def ey1 : Cg := ⟨1, 5, ⟨0, [9]⟩, []⟩
def ey2 : Cg := ⟨2, 6, ⟨0, [9]⟩, [1]⟩
theorem ey_a : readyC [ey1, ey2] 6 = [] := by decide +kernel
theorem ey_b : readyC [ey1, ey2] 5 = [1] := by decide +kernel
theorem ey_c : heldC [ey1, ey2] 6 = [2] := by decide +kernel
theorem ey_d : doneC [ey1, ey2] 6 = [] := by decide +kernel
theorem ey_e : imageC (zeros 256) [ey1, ey2] 6 = zeros 256 := by unfold imageC; rw [ey_d]; rfl
theorem ey_f : (imageC (zeros 256) [ey1, ey2] 5)[0]? = some 9 := by decide +kernel
theorem ey_g : (viewC (zeros 256) [ey1, ey2] 6)[0]? = some 9 := by decide +kernel

set_option maxRecDepth 100000 in
set_option maxHeartbeats 8000000 in
theorem works10_any (w : World) : Calls Try.prog 8 #[] w fun e w' => e = .returned (.bool true) ∧ Below w.heap.size w w' := by
  go_enter Try.func8, Try.ntmps8
  go_wp2_with (refine wpList_build_one1 rfl _ _ _ rfl Try.underlying33 1 _ Try.byteInfo (.int .u8 9) rfl rfl rfl ?_)
  apply Stop.go; intro w1 Hg1 Hb1
  go_wp2_with (refine wpList_alloc_row rfl _ rfl _ Try.patchZero ?_)
  apply Stop.go; intro w2 Hg2 Hb2
  go_wp2_with (refine wpList_store_arr rfl _ _ _ rfl _ #[.int .i64 0, .slice (some ⟨w.heap.size, 0, none⟩) 1 1] rfl rfl _ _ Hb2.out Try.patchSize rfl (by simp [Value.oneCell']) ?_)
  apply Stop.go; intro w3 Ho3 Hb3
  have Hp3 := Lib.hid ((Hb1.out.ext Hg2.out.1).only Ho3.out (by have := Hg1.out.2; omega))
  have Hw3 := Lib.hid (bonly (bt Hg1.out.1 Hg2.out.1) Ho3.out Hg1.out.1.size)
  clear Hb1 Hb2 Hg1 Hg2 Ho3
  go_wp2_with (first | refine wpList_load_blk rfl _ _ rfl _ rfl _ _ Hb3.out _ Try.underlying57 rfl Try.patchSize ?_ | refine wpList_build_one1 rfl _ _ _ rfl Try.underlying30 8 _ Try.infoInt (.int .i64 1) rfl rfl rfl ?_)
  apply Stop.go; intro w4 Hg4 Hb4
  go_wp2_with (refine wpList_build_row2 rfl _ _ _ _ rfl Try.underlying26 5 72 _ Try.chgInfo (by decide) (by decide) #[.int .i64 1, .int .i64 5, .int .i64 0, .slice (some ⟨w.heap.size, 0, none⟩) 1 1, .slice none 0 0] #[.int .i64 2, .int .i64 6, .int .i64 0, .slice (some ⟨w.heap.size, 0, none⟩) 1 1, .slice (some ⟨w3.heap.size, 0, none⟩) 1 1] rfl rfl rfl rfl _ rfl ?_)
  apply Stop.go; intro w6 Hg6 Hb6
  have HL : Hid (RCL w6 (some ⟨w4.heap.size, 0, none⟩) [ey1, ey2]) := Lib.hid (fun k hk => by
    have p6 := (Hp3.out.ext Hg4.out.1).ext Hg6.out.1
    have q6 := Hb4.out.ext Hg6.out.1
    have hk' : k = 0 ∨ k = 1 := by simp at hk; omega
    have b6 := Hb6.out
    rcases hk' with rfl | rfl
    · exact ⟨_, _, _, _, _, _, rfl, b6.cell 0, b6.cell 1, b6.cell 2, b6.cell 3, b6.cell 4, CV.rcg (c := ey1) (nd := 1) (nn := 0) ⟨by decide, by decide, by decide, by decide, ⟨by decide, by decide, rfl, Nat.le_refl _, by unfold maxLen; omega, RB.of_blk9 p6⟩, rfl, Nat.le_refl _, by unfold maxLen; omega, RC.nil_ _ _, by decide⟩⟩
    · exact ⟨_, _, _, _, _, _, rfl, b6.cell 5, b6.cell 6, b6.cell 7, b6.cell 8, b6.cell 9, CV.rcg (c := ey2) (nd := 1) (nn := 1) ⟨by decide, by decide, by decide, by decide, ⟨by decide, by decide, rfl, Nat.le_refl _, by unfold maxLen; omega, RB.of_blk9 p6⟩, rfl, Nat.le_refl _, by unfold maxLen; omega, RC.of_blk1 q6, by decide⟩⟩)
  have Hw6 := Lib.hid (show Below w.heap.size w w6 from Hw3.out.trans ((bt Hg4.out.1 Hg6.out.1).mono Hw3.out.size))
  generalize w4.heap.size = g at *
  clear Hb4 Hg4 Hg6 Hb3 Hp3 Hb6 Hw3
  have HD : ∀ c ∈ [ey1, ey2], c.p.data.length ≤ 4096 ∧ c.needs.length ≤ 4096 := by decide
  have HA := Lib.hid (fun w' (hb : Below w6.heap.size w6 w') => pimage_any (zeros 256) (zeros_len 256) (some ⟨g, 0, none⟩) 2 2 [ey1, ey2] rfl (by decide) 6 w' (HL.out.rd.below hb))
  have HB := Lib.hid (fun w' (hb : Below w6.heap.size w6 w') => pimage_any (zeros 256) (zeros_len 256) (some ⟨g, 0, none⟩) 2 2 [ey1, ey2] rfl (by decide) 5 w' (HL.out.rd.below hb))
  have HC := Lib.hid (fun w' (hb : Below w6.heap.size w6 w') => pview_any (zeros 256) (zeros_len 256) (some ⟨g, 0, none⟩) 2 2 [ey1, ey2] rfl (by decide) HD 6 w' (HL.out.rd.below hb))
  have HH := Lib.hid (fun w' (hb : Below w6.heap.size w6 w') => pheld_any (some ⟨g, 0, none⟩) 2 2 [ey1, ey2] rfl (by decide) 6 w' (HL.out.rd.below hb))
  rw [ey_c] at HH
  rw [ey_a, ey_e] at HA
  rw [ey_b] at HB
  have HF := Lib.hid ey_f
  have HG := Lib.hid ey_g
  have HFl := Lib.hid (imageC_len (zeros_len 256) [ey1, ey2] 5)
  generalize imageC (zeros 256) [ey1, ey2] 5 = X at *
  generalize viewC (zeros 256) [ey1, ey2] 6 = Y at *
  clear HL HD
  go_wp2_with (refine wpList_build_zero rfl _ rfl _ Try.blockZero _ _ Try.underlying28 Try.byteSize ?_)
  refine (HA.out _ (Below.refl _ _)).mono ?_; rintro e w7 ⟨A7, n7, c7, rfl, ⟨h1, -, -, -⟩, h5⟩
  obtain rfl : n7 = 0 := h1.symm
  clear h1
  have Hw7 := Lib.hid h5
  clear h5
  go_wp2_with (refine wpList_alloc_row rfl _ rfl _ Try.blockZero ?_)
  apply Stop.go; intro w8 Hg8 Hb8
  go_wp2_with (refine wpList_store_arr rfl _ _ _ rfl _ (bcells (zeros 256)) rfl rfl _ _ Hb8.out (Try.blockFits (zeros_len 256)) rfl (oneCell_bcells _) ?_)
  apply Stop.go; intro w9 Ho9 Hb9
  have Hw9 := Lib.hid (bt Hw7.out (bonly Hg8.out.1 Ho9.out (Nat.le_refl _)))
  clear Hw7 Hg8 Hb8 Ho9
  go_wp2_with (refine wpList_build_zero rfl _ rfl _ Try.blockZero _ _ Try.underlying28 Try.byteSize ?_)
  refine (HB.out _ Hw9.out).mono ?_; rintro e w10 ⟨A10, n10, c10, rfl, ⟨h1, h2, h3, h4⟩, h5⟩
  obtain rfl : n10 = 1 := h1.symm
  have Hw10 := Lib.hid (bt Hw9.out h5)
  have Hx10 := Lib.hid (Hb9.out.ext h5)
  have Hi10 := Lib.hid h4
  clear h1 h2 h3 h4 h5
  go_wp2_with (refine wpList_alloc_row rfl _ rfl _ Try.blockZero ?_)
  apply Stop.go; intro w11 Hg11 Hb11
  go_wp2_with (refine wpList_store_arr rfl _ _ _ rfl _ (bcells X) rfl rfl _ _ Hb11.out (Try.blockFits HFl.out) (by rw [bcells_size, bcells_size, HFl.out, zeros_len]) (oneCell_bcells _) ?_)
  apply Stop.go; intro w12 Ho12 Hb12
  have D12 := Lib.hid (bonly Hg11.out.1 Ho12.out (Nat.le_refl _))
  have Hw12 := Lib.hid (bt Hw10.out D12.out)
  have Hx12 := Lib.hid (Hx10.out.ext D12.out)
  have Hi12 := Lib.hid (Hi10.out.below D12.out)
  clear Hw9 Hb9 Hx10 Hi10 Hg11 Hb11 Ho12
  go_wp2_with (first | refine wpList_load_arr rfl _ _ rfl _ rfl _ _ Hx12.out _ _ Try.underlying28 (Try.blockFits (zeros_len 256)) ?_ | refine wpList_build_zero rfl _ rfl _ Try.blockZero _ _ Try.underlying28 Try.byteSize ?_ | refine wpList_eql_arr rfl _ _ _ _ rfl (by kernel_rfl) _ _ Try.underlying28 Try.underlying5 Try.byteSize (zeros 256) (zeros 256) rfl rfl (zeros_len 256) (zeros_len 256) true (by simp) ?_)
  refine (HC.out _ Hw12.out).mono ?_; rintro e w13 ⟨rfl, h5⟩
  have Hw13 := Lib.hid (bt Hw12.out h5)
  have Hb13 := Lib.hid (Hb12.out.ext h5)
  have Hi13 := Lib.hid (Hi12.out.below h5)
  clear h5
  have c0 : w13.cell? ⟨w10.heap.size, 0, none⟩ = some (.int .u8 9) := by
    rw [Hb13.out.cell, bcells_get, HF.out]; rfl
  go_wp2_with (first | refine wpList_index_byte rfl _ _ _ rfl _ _ Try.underlying28 Try.underlying5 Try.byteSize _ rfl _ _ rfl 0 rfl (by decide) 9 HG.out ?_ | refine wpList_build_one1 rfl _ _ _ rfl Try.underlying30 8 _ Try.infoInt (.int .i64 1) rfl rfl rfl ?_)
  apply Stop.go; intro w14 Hg14 Hb14
  clear c0
  go_wp2_with fail
  refine (ints_any A10 1 c10 [1] rfl (some ⟨w13.heap.size, 0, none⟩) 1 1 [1] rfl (by decide) (by decide) _ (Hi13.out.below Hg14.out.1) (RC.of_blk1 Hb14.out)).mono ?_; rintro e w15 ⟨rfl, q15, rfl⟩
  rw [show decide (([1] : List Int) = [1]) = true from by decide]
  have Hw15 := Lib.hid (bt (bt Hw13.out Hg14.out.1) (bdrew w14 q15))
  generalize w14.drewN q15 = w15 at *
  clear Hg14 Hb14 Hi13 Hi12
  go_wp2_with fail
  refine (HH.out _ Hw15.out).mono ?_; rintro e w16 ⟨A16, n16, c16, rfl, h1, h2, h3, h4, h5⟩
  obtain rfl : n16 = 1 := h1.symm
  have Hw16 := Lib.hid (bt Hw15.out h5)
  have Hi16 := Lib.hid h4
  clear h1 h2 h3 h4 h5
  go_wp2_with (refine wpList_build_one1 rfl _ _ _ rfl Try.underlying30 8 _ Try.infoInt (.int .i64 2) rfl rfl rfl ?_)
  apply Stop.go; intro w17 Hg17 Hb17
  go_wp2_with fail
  refine (ints_any A16 1 c16 [2] rfl (some ⟨w16.heap.size, 0, none⟩) 1 1 [2] rfl (by decide) (by decide) _ (Hi16.out.below Hg17.out.1) (RC.of_blk1 Hb17.out)).mono ?_; rintro e w18 ⟨rfl, q18, rfl⟩
  rw [show decide (([2] : List Int) = [2]) = true from by decide]
  have Hw18 := Lib.hid (bt (bt Hw16.out Hg17.out.1) (bdrew w17 q18))
  generalize w17.drewN q18 = w18 at *
  go_wp2_with fail
  go_ret
  exact ⟨rfl, bt Hw6.out Hw18.out⟩

end Go.Proofs.Ytckkdfpmibipfaa
