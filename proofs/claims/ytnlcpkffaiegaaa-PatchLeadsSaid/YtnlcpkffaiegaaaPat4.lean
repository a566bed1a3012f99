/-
  Contracts of package patch: All, Bytes.
-/
import Derived.Test.YtnlcpkffaiegaaaPat3
import Derived.Test.YtnlcpkffaiegaaaPatchB
namespace Go.Proofs.Ytnlcpkffaiegaaa
open Go.RowKit

set_option maxHeartbeats 800000 in
theorem pall_any (L : List UInt8) (hL : L.length = 256) (A : Option Addr) (n c : Nat) (l : List Pt) (hn : l.length = n) (hm : n ≤ 4096) (w : World) (hr : RPL w A l) :
    Calls Try.prog 24 #[.agg (bcells L), .slice A n c] w (RetA w (layAll L l)) := by
  have HL := Lib.hid hL
  have Hn := Lib.hid hn
  have Hr := Lib.hid hr
  clear hL hn hr
  go_enter Try.func24, Try.ntmps24
  go_wp2_with (refine wpList_box_row rfl _ _ rfl _ rfl ?_)
  apply Stop.go; intro w1 Hg1 Hb1
  go_wp2_with (refine wpList_alloc_row rfl _ rfl _ Try.blockZero ?_)
  apply Stop.go; intro w2 Hg2 Hb2
  have Hw2 := Lib.hid (bt Hg1.out.1 Hg2.out.1)
  have Hx2 := Lib.hid (Hb1.out.ext Hg2.out.1)
  have Z1 := Lib.hid Hg1.out.2
  have Z2 := Lib.hid Hg2.out.2
  go_wp2_with fail
  go_loopw [9] (fun i wr => ∃ k : Nat, k ≤ n ∧ i = .int .i64 k ∧ Blk wr w.heap.size 27 (bcells (layAll L (l.take k))) ∧ Blk wr w1.heap.size 27 (bcells (zeros 256)) ∧ Below w.heap.size w wr) (fun i _ => n - (intOf i).toNat)
  case atStart => exact ⟨0, Nat.zero_le _, rfl, Hx2.out, Hb2.out, Hw2.out⟩
  case round =>
    obtain ⟨k, hk, rfl, hbk, hbz, hbw⟩ := hrel
    have Hbk := Lib.hid hbk
    have Hbz := Lib.hid hbz
    have Hbw := Lib.hid hbw
    clear hbk hbz hbw
    by_cases hlt : k < n
    · have d0 : decide ((k : Int) < n) = true := by simpa using hlt
      have hkl : k < l.length := by rw [Hn.out]; exact hlt
      obtain ⟨ad, v0, v1, rfl, c0, c1, hp⟩ := (Hr.out.below Hbw.out) k hkl
      obtain ⟨A', n', c', rfl, rfl, hq⟩ := hp.pv
      have Hp := Lib.hid hq
      have Ht := Lib.hid (show layAll L (l.take (k + 1)) = layP (layAll L (l.take k)) l[k] by rw [← layAll_snoc, ← List.take_succ_eq_append_getElem hkl])
      have HM := Lib.hid (layAll_len (l.take k) HL.out)
      have HM2 := Lib.hid (layAll_len (l.take (k + 1)) HL.out)
      generalize l[k] = p at *
      rw [Ht.out] at HM2
      generalize layAll L (l.take k) = M at *
      have C0 := Lib.hid c0
      have C1 := Lib.hid c1
      clear hp hq c0 c1
      go_wp2_with (first | refine wpList_load_pair rfl _ _ rfl (ad.add (k * 2)) rfl _ _ C0.out (by rw [add_of_add]; exact C1.out) _ Try.underlying29 Try.patchSize ?_ | refine wpList_alloc_row rfl _ rfl _ Try.patchZero ?_)
      apply Stop.go; intro w3 Hg3 Hb3
      go_wp2_with (refine wpList_store_arr rfl _ _ _ rfl _ #[.int .i64 p.at_, .slice A' n' c'] rfl rfl _ _ Hb3.out Try.patchSize rfl (by simp [Value.oneCell']) ?_)
      apply Stop.go; intro w4 Ho4 Hb4
      have D4 := Lib.hid (bonly Hg3.out.1 Ho4.out (Nat.le_refl _))
      have Hk4 := Lib.hid (Hbk.out.ext D4.out)
      have Hz4 := Lib.hid (Hbz.out.ext D4.out)
      have Hp4 := Lib.hid (Hp.out.below D4.out)
      go_wp2_with (first | refine wpList_load_arr rfl _ _ rfl _ rfl _ _ Hk4.out _ _ Try.underlying27 (Try.blockFits HM.out) ?_ | refine wpList_load_blk rfl _ _ rfl _ rfl _ _ Hb4.out _ Try.underlying29 rfl Try.patchSize ?_)
      refine (play_any M HM.out p A' n' c' _ Hp4.out).mono ?_; rintro e w5 ⟨rfl, hb5⟩
      have Hb5 := Lib.hid (bt D4.out hb5)
      have Hk5 := Lib.hid (Hk4.out.ext hb5)
      clear hb5
      go_wp2_with (refine wpList_store_arr rfl _ _ _ rfl _ _ rfl rfl _ _ Hk5.out (Try.blockFits HM2.out) (by rw [bcells_size, bcells_size, HM2.out, HM.out]) (oneCell_bcells _) ?_)
      apply Stop.go; intro w6 Ho6 Hb6
      go_wp2_with fail
      go_roundw
      case rel => exact ⟨k + 1, by omega, by go_num, by rw [Ht.out]; exact Hb6.out, (Hbz.out.ext Hb5.out).only Ho6.out (by rw [Z1.out]; omega), bonly (bt Hbw.out Hb5.out) Ho6.out (Nat.le_refl _)⟩
      case measure => simp [intOf]; omega
    · have d0 : decide ((k : Int) < n) = false := by simpa using hlt
      have e1 : l.take k = l := List.take_of_length_le (by rw [Hn.out]; omega)
      rw [e1] at Hbk
      have HM := Lib.hid (layAll_len l HL.out)
      clear e1
      go_wp2_with (first | refine wpList_load_arr rfl _ _ rfl _ rfl _ _ Hbk.out _ _ Try.underlying27 (Try.blockFits HM.out) ?_ | refine wpList_store_arr rfl _ _ _ rfl _ _ rfl rfl _ _ Hbz.out (Try.blockFits HM.out) (by rw [bcells_size, bcells_size, HM.out, zeros_len]) (oneCell_bcells _) ?_)
      apply Stop.go; intro w6 Ho6 Hb6
      go_wp2_with ((with_reducible show bodyPost _ _ _ _ _ _); refine bodyPost_cell rfl _ rfl _ _ Hb6.out _ _ Try.underlying27 (Try.blockFits HM.out) rfl ?_)
      apply Stop.go
      exact ⟨rfl, bonly Hbw.out Ho6.out (by rw [Z1.out]; omega)⟩

/-- N bools as cells. -/
def fbools (N : Nat) (f : Nat → Bool) : Array Value := ((List.range N).map fun k => Value.bool (f k)).toArray
theorem fbools_size (N : Nat) (f : Nat → Bool) : (fbools N f).size = N := by simp [fbools]
theorem fbools_get (N : Nat) (f : Nat → Bool) (k : Nat) (h : k < N) : (fbools N f)[k]? = some (.bool (f k)) := by
  unfold fbools
  rw [List.getElem?_toArray, List.getElem?_map, List.getElem?_range h]
  rfl
theorem fbools_set (N : Nat) (f : Nat → Bool) (p : Nat) : (fbools N f).setIfInBounds p (.bool true) = fbools N (fun i => f i || decide (i = p)) := by
  unfold fbools
  rw [List.setIfInBounds_toArray]
  congr 1
  apply List.ext_getElem?
  intro k
  rw [List.getElem?_set, List.length_map, List.length_range, List.getElem?_map, List.getElem?_map]
  by_cases hk : k < N
  · rw [List.getElem?_range hk]
    simp only [Option.map_some]
    by_cases hp : p = k
    · subst hp
      rw [if_pos rfl, if_pos hk, decide_eq_true rfl, Bool.or_true]
    · rw [if_neg hp, decide_eq_false (fun h => hp h.symm), Bool.or_false]
  · rw [List.getElem?_eq_none (by rw [List.length_range]; omega)]
    by_cases hp : p = k
    · rw [if_pos hp, if_neg (by omega)]
      rfl
    · rw [if_neg hp]
      rfl
theorem fbools_congr {N : Nat} {f g : Nat → Bool} (h : ∀ i, f i = g i) : fbools N f = fbools N g := by rw [show f = g from funext h]
theorem cntB_put (f : Nat → Bool) (j K : Nat) (hj : j < K) (h : f j = false) : cntB (fun i => f i || decide (i = j)) K = cntB f K + 1 := by
  rw [cntB_or f (fun i => decide (i = j)) K (fun i _ hi => decide_eq_false (fun e => by rw [e, h] at hi; cases hi))]
  have key := cntB_span j 1 K (by omega)
  rw [← key]
  congr 1
  exact cntB_congr (fun i _ => by
    by_cases hi : i = j
    · rw [decide_eq_true hi, decide_eq_true (by omega)]
    · rw [decide_eq_false hi, decide_eq_false (by omega)])
theorem Try.boolsZero : (Try.prog.info? 63).map (·.zero) = some (some (.agg (fbools 256 fun _ => false))) := by kernel_rfl
theorem Try.boolSize : (Try.prog.info? 4).map (·.size) = some 1 := by kernel_rfl
/-- In one of the first k, or from a place on up to j. -/
def inTo (l : List Pt) (lo j : Nat) (i : Nat) : Bool := l.any (fun p => p.has i) || decide (lo ≤ i ∧ i < j)
theorem inTo_start (l : List Pt) (lo i : Nat) : inTo l lo lo i = l.any (fun p => p.has i) := by
  unfold inTo
  rw [decide_eq_false (by omega), Bool.or_false]
theorem inTo_next (l : List Pt) (lo j : Nat) (h : lo ≤ j) (i : Nat) : (inTo l lo j i || decide (i = j)) = inTo l lo (j + 1) i := by
  unfold inTo
  rw [Bool.or_assoc]
  congr 1
  by_cases h1 : i = j
  · rw [decide_eq_true h1, Bool.or_true, decide_eq_true (by omega)]
  · rw [decide_eq_false h1, Bool.or_false]
    by_cases h2 : lo ≤ i ∧ i < j
    · rw [decide_eq_true h2, decide_eq_true (by omega)]
    · rw [decide_eq_false h2, decide_eq_false (by omega)]
theorem inTo_end (l : List Pt) (p : Pt) (h : p.right = true) (i : Nat) : inTo l p.lo (p.lo + p.data.length) i = (l ++ [p]).any (fun p => p.has i) := by
  unfold inTo
  rw [List.any_append, List.any_cons, List.any_nil, Bool.or_false]
  unfold Pt.has
  rw [h, Bool.true_and]
theorem any_wrong (l : List Pt) (p : Pt) (h : p.right = false) (i : Nat) : l.any (fun p => p.has i) = (l ++ [p]).any (fun p => p.has i) := by
  rw [List.any_append, List.any_cons, List.any_nil, Bool.or_false]
  have : p.has i = false := by unfold Pt.has; rw [h]; rfl
  rw [this, Bool.or_false]
set_option maxHeartbeats 1600000 in
theorem pbytes_any (A : Option Addr) (n c : Nat) (l : List Pt) (hn : l.length = n) (hm : n ≤ 4096) (w : World) (hr : RPL w A l) :
    Calls Try.prog 27 #[.slice A n c] w fun e w' => e = .returned (.int .i64 (bytesP l : Nat)) ∧ Below w.heap.size w w' := by
  have Hn := Lib.hid hn
  have Hr := Lib.hid hr
  clear hn hr
  go_enter Try.func27, Try.ntmps27
  go_wp2_with (refine wpList_alloc_row rfl _ rfl _ Try.boolsZero ?_)
  apply Stop.go; intro w1 Hg1 Hb1
  have Hz0 := Lib.hid (show cntB (fun i => ([] : List Pt).any fun p => p.has i) 256 = 0 from bytesP_runs (b := zeros 256) (zeros_len 256) [] (by simp) List.Pairwise.nil)
  go_wp2_with fail
  go_loopw [4, 10] (fun t i wr => ∃ k : Nat, k ≤ n ∧ i = .int .i64 k ∧ t = .int .i64 (cntB (fun i => (l.take k).any fun p => p.has i) 256 : Nat) ∧ Blk wr w.heap.size 63 (fbools 256 fun i => (l.take k).any fun p => p.has i) ∧ Below w.heap.size w wr) (fun _ i _ => n - (intOf i).toNat)
  case atStart => exact ⟨0, Nat.zero_le _, rfl, by rw [List.take_zero, Hz0.out]; rfl, Hb1.out, Hg1.out.1⟩
  case round =>
    obtain ⟨k, hk, rfl, rfl, hbk, hbw⟩ := hrel
    have Hbk := Lib.hid hbk
    have Hbw := Lib.hid hbw
    clear hbk hbw
    by_cases hlt : k < n
    · have d0 : decide ((k : Int) < n) = true := by simpa using hlt
      have hkl : k < l.length := by rw [Hn.out]; exact hlt
      obtain ⟨ad, v0, v1, rfl, c0, c1, hp⟩ := Hr.out k hkl
      obtain ⟨A', n', c', rfl, rfl, hq⟩ := hp.pv
      have c0 := (Hbw.out.cell (block_lt_of_cell c0)).trans c0
      have c1 := (Hbw.out.cell (block_lt_of_cell c1)).trans c1
      have Hp0 := Lib.hid hq
      have Hp := Lib.hid (hq.below Hbw.out)
      have Ht := Lib.hid (show l.take (k + 1) = l.take k ++ [l[k]] from List.take_succ_eq_append_getElem hkl)
      generalize l[k] = p at *
      generalize l.take k = m at *
      have C0 := Lib.hid c0
      have C1 := Lib.hid c1
      clear hp hq c0 c1
      go_wp2_with (first | refine wpList_load_pair rfl _ _ rfl (ad.add (k * 2)) rfl _ _ C0.out (by rw [add_of_add]; exact C1.out) _ Try.underlying29 Try.patchSize ?_ | refine wpList_alloc_row rfl _ rfl _ Try.patchZero ?_)
      apply Stop.go; intro w3 Hg3 Hb3
      go_wp2_with (refine wpList_store_arr rfl _ _ _ rfl _ #[.int .i64 p.at_, .slice A' n' c'] rfl rfl _ _ Hb3.out Try.patchSize rfl (by simp [Value.oneCell']) ?_)
      apply Stop.go; intro w4 Ho4 Hb4
      have D4 := Lib.hid (bonly Hg3.out.1 Ho4.out (Nat.le_refl _))
      have Hk4 := Lib.hid (Hbk.out.ext D4.out)
      have Hp4 := Lib.hid (Hp.out.below D4.out)
      go_wp2_with (refine wpList_load_blk rfl _ _ rfl _ rfl _ _ Hb4.out _ Try.underlying29 rfl Try.patchSize ?_)
      refine (mayBe_any p A' n' c' _ Hp4.out).mono ?_; rintro e w5 ⟨rfl, hb5⟩
      have Hb5 := Lib.hid (bt Hbw.out (bt D4.out hb5))
      have Hk5 := Lib.hid (Hk4.out.ext hb5)
      have Hp5 := Lib.hid (Hp4.out.below hb5)
      have Hx5 := Lib.hid (Hb4.out.ext hb5)
      have Z5 := Lib.hid (show w.heap.size < wr.heap.size from Hbk.out.lt)
      clear hb5
      cases hpr : p.right
      · have Hv := Lib.hid (any_wrong m p hpr)
        rw [show (fun i => m.any fun p => p.has i) = fun i => (m ++ [p]).any fun p => p.has i from funext Hv.out] at Hk5 ⊢
        rw [← Ht.out] at Hk5 ⊢
        clear hpr
        go_wp2_with fail
        go_roundw
        case rel => exact ⟨k + 1, by omega, by go_num, rfl, Hk5.out, Hb5.out⟩
        case measure => simp [intOf]; omega
      · have h := Pt.right_iff.1 hpr
        rw [Hp.out.len] at h
        obtain ⟨h1, h2, h3, h4⟩ := h
        obtain ⟨q, hq⟩ := Int.eq_ofNat_of_zero_le h3
        have Hlo := Lib.hid (show p.lo = q by unfold Pt.lo; rw [hq]; rfl)
        have Hq := Lib.hid hq
        obtain ⟨T, hT⟩ : ∃ T, q + n' = T := ⟨_, rfl⟩
        have h5 : T ≤ 256 := by omega
        have h6 : q ≤ T := by omega
        have He := Lib.hid (show p.at_ + (n' : Int) = (T : Int) by rw [hq]; omega)
        have HT := Lib.hid hT
        have Hpr := Lib.hid hpr
        have Hst := Lib.hid (fun i => inTo_start m q i)
        have c0 : w5.cell? ⟨wr.heap.size, 0, none⟩ = some (.int .i64 p.at_) := Hx5.out.cell 0
        rw [hq] at c0
        rw [show (fun i => m.any fun p => p.has i) = inTo m q q from funext fun i => (Hst.out i).symm] at Hk5 ⊢
        clear hpr h3 h4 hq hT
        go_wp2_with fail
        generalize hw9 : w5 = w9 at *
        clear hw9
        go_loopw [4, 7] (fun t i wq => ∃ j : Nat, q ≤ j ∧ j ≤ T ∧ i = .int .i64 j ∧ t = .int .i64 (cntB (inTo m q j) 256 : Nat) ∧ Blk wq w.heap.size 63 (fbools 256 (inTo m q j)) ∧ Blk wq wr.heap.size 29 #[.int .i64 p.at_, .slice A' n' c'] ∧ PV wq p A' n' c' ∧ Below w.heap.size w wq) (fun _ i _ => T - (intOf i).toNat)
        case atStart => exact ⟨q, Nat.le_refl _, h6, rfl, rfl, Hk5.out, Hx5.out, Hp5.out, Hb5.out⟩
        case round =>
          obtain ⟨j, hj1, hj2, rfl, rfl, hkj, hxj, hpj, hbj⟩ := hrel
          have Hkj := Lib.hid hkj
          have Hxj := Lib.hid hxj
          have Hpj := Lib.hid hpj
          have Hbj := Lib.hid hbj
          clear hkj hxj hpj hbj
          go_wp2_with (refine wpList_load_blk rfl _ _ rfl _ rfl _ _ Hxj.out _ Try.underlying29 rfl Try.patchSize ?_)
          refine (end_any p A' n' c' _ Hpj.out Hpr.out).mono ?_; rintro e w6 ⟨rfl, hb6⟩
          rw [He.out]
          have Hb6 := Lib.hid (bt Hbj.out hb6)
          have Hk6 := Lib.hid (Hkj.out.ext hb6)
          have Hx6 := Lib.hid (Hxj.out.ext hb6)
          have Hp6 := Lib.hid (Hpj.out.below hb6)
          clear hb6
          by_cases hjt : j < T
          · have d1 : decide (j < T) = true := by simpa using hjt
            have hj3 : j < 256 := by omega
            have hj4 : (j : Int) < 256 := by omega
            have hcm := cntB_max (inTo m q j) 256
            have c2 : w6.cell? ⟨w.heap.size, j, none⟩ = some (.bool (inTo m q j j)) := by rw [Hk6.out.cell, fbools_get _ _ _ hj3]
            have Hnx := Lib.hid (inTo_next m q j hj1)
            cases hin : inTo m q j j
            · have Hc := Lib.hid (cntB_put (inTo m q j) j 256 hj3 hin)
              rw [hin] at c2
              rw [show (fun i => inTo m q j i || decide (i = j)) = inTo m q (j + 1) from funext Hnx.out] at Hc
              generalize cntB (inTo m q j) 256 = N at *
              clear hin
              go_wp2_with (refine wpList_store_cell rfl _ _ _ rfl Try.boolSize _ j rfl (.bool true) rfl rfl rfl _ _ Hk6.out (by rw [fbools_size]; exact hj3) ?_)
              apply Stop.go; intro w7 Ho7 Hk7
              rw [fbools_set, show (fun i => inTo m q j i || decide (i = j)) = inTo m q (j + 1) from funext Hnx.out] at Hk7
              have Hx7 := Lib.hid (Hx6.out.only Ho7.out (Nat.ne_of_gt Z5.out))
              have Hb7 := Lib.hid (bonly Hb6.out Ho7.out (Nat.le_refl _))
              have Hp7 := Lib.hid (show PV w7 p A' n' c' from ⟨Hp6.out.lo, Hp6.out.hi, Hp6.out.len, Hp6.out.cap, Hp6.out.max, Hp0.out.read.below Hb7.out⟩)
              go_wp2_with fail
              go_roundw
              case rel => exact ⟨j + 1, by omega, by omega, by go_num, by rw [Hc.out]; go_num, Hk7.out, Hx7.out, Hp7.out, Hb7.out⟩
              case measure => simp [intOf]; omega
            · rw [hin] at c2
              have Hsm := Lib.hid (show inTo m q (j + 1) = inTo m q j from funext fun i => by
                rw [← Hnx.out i]
                by_cases hi : i = j
                · rw [hi, hin]; rfl
                · rw [decide_eq_false hi, Bool.or_false])
              clear hin
              go_wp2_with fail
              go_roundw
              case rel => exact ⟨j + 1, by omega, by omega, by go_num, by rw [Hsm.out], by rw [Hsm.out]; exact Hk6.out, Hx6.out, Hp6.out, Hb6.out⟩
              case measure => simp [intOf]; omega
          · have d1 : decide (j < T) = false := by simpa using hjt
            have Hen := Lib.hid (show inTo m q j = fun i => (m ++ [p]).any fun p => p.has i from funext fun i => by
              rw [← inTo_end m p Hpr.out i, Hlo.out, Hp0.out.len, HT.out, show j = T by omega])
            rw [Hen.out] at Hk6 ⊢
            rw [← Ht.out] at Hk6 ⊢
            go_wp2_with fail
            go_roundw
            case rel => exact ⟨k + 1, by omega, by go_num, rfl, Hk6.out, Hb6.out⟩
            case measure => simp [intOf]; omega
    · have d0 : decide ((k : Int) < n) = false := by simpa using hlt
      have e1 : l.take k = l := List.take_of_length_le (by rw [Hn.out]; omega)
      have Hf := Lib.hid (show bytesP l = cntB (fun i => (l.take k).any fun p => p.has i) 256 by rw [e1]; rfl)
      clear e1
      go_wp2_with fail
      go_ret
      rw [Hf.out]
      exact ⟨rfl, Hbw.out⟩

end Go.Proofs.Ytnlcpkffaiegaaa
