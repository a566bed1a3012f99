/-
  Contracts of the document's answers 04: With, Make, Set, First, Ints.
-/
import Derived.Test.YtcoefbgidfgblaaRef04
import Derived.Test.YtcoefbgidfgblaaChart2
namespace Go.Proofs.Ytcoefbgidfgblaa
open Go.RowKit

theorem bvals_set (l : List Bool) (i : Nat) (b : Bool) : (bvals l).set i (.bool b) = bvals (l.set i b) := by simp [bvals, List.map_set]
/-- Bools in a block of their own, one of them written anew. -/
theorem RC.of_set {w : World} {g : Nat} {t : TypeId} {cur : Array Value} {l : List Bool} (i : Nat) (b : Bool) (h : Blk w g t (cur.setIfInBounds i (.bool b))) (hl : cur.toList.take (bvals l).length = bvals l) : RC w (some ⟨g, 0, none⟩) (bvals (l.set i b)) := by
  refine RC.of_blk h _ ?_
  rw [bvals_len] at hl
  rw [bvals_len, List.length_set, Array.toList_setIfInBounds, take_set_same, hl, bvals_set]
theorem bits_withL (l : List UInt8) (n : Nat) (hn : l.length = n) (p : Nat) (on : Bool) : blockL n (fun k => ((bitsN l (8 * n)).set p on).getD k false) = withL l p on := by
  unfold withL
  rw [hn]
  refine blockL_congr fun k hk => ?_
  unfold setF
  simp only [List.getD, List.getElem?_set, bitsN_len]
  by_cases h : p = k
  · subst h
    simp [hk]
  · rw [if_neg h, if_neg (by omega)]
    simp [bitsN, hk]
theorem bits_block (l : List UInt8) (n : Nat) (hn : l.length = n) : blockL n (fun k => (bitsN l (8 * n)).getD k false) = l := by
  refine Eq.trans (blockL_congr fun k hk => ?_) (hn ▸ blockL_bits l)
  simp [bitsN, List.getD, hk]

set_option maxHeartbeats 1600000 in
theorem rwith_any (A : Option Addr) (n cap : Nat) (l : List UInt8) (hn : l.length = n) (hm : n ≤ 4096) (i : Int) (on : Bool) (w : World) (hr : RB w A l) :
    Calls Try.prog 9 #[.slice A n cap, .int .i64 i, .bool on] w fun e w' => ∃ g, e = .returned (.slice (some ⟨g, 0, none⟩) n n) ∧ Blk w' g 5 (bcells (withL l i on)) ∧ Below w.heap.size w w' := by
  have Hn := Lib.hid hn
  have hnn : (n : Int) ≤ 4096 := by omega
  clear hn
  go_enter Try.func9, Try.ntmps9
  go_wp2_with fail
  refine (bits_any A n cap l Hn.out hm _ hr).mono ?_; rintro e w1 ⟨v, rfl, hv, hb1⟩
  have Hb1 := Lib.hid hb1
  clear hb1 hr
  by_cases h0 : 0 ≤ i
  · obtain ⟨p, rfl⟩ := Int.eq_ofNat_of_zero_le h0
    have hpw : decide (0 ≤ (p : Int)) = true := by simp
    by_cases h1 : p < 8 * n
    · obtain ⟨g, c, cur, rfl, hg, hbk, hc1, hc2, hc3, hc4⟩ := hv.blk (by rw [bvals_len, bitsN_len]; omega)
      rw [bvals_len, bitsN_len] at hc1 ⊢
      have HT := Lib.hid hc4
      have Hbk := Lib.hid hbk
      have Hgb := Lib.hid hg
      have Hc3 := Lib.hid (show p < cur.size by omega)
      have d1 : decide ((p : Int) < 8 * n) = true := by simp; omega
      clear hv hc1 hc2 hc3 hc4 hbk hg
      go_wp2_with (refine wpList_store_cell rfl _ _ _ rfl Try.boolSize _ p rfl (.bool on) rfl rfl rfl _ _ Hbk.out Hc3.out ?_)
      apply Stop.go; intro w2 Ho2 Hb2
      have Hw2 := Lib.hid (bonly Hb1.out Ho2.out Hgb.out)
      have HR := Lib.hid (RC.of_set p on Hb2.out HT.out)
      have HB := Lib.hid (bits_withL l n Hn.out p on)
      go_wp2_with fail
      refine (block_any _ (8 * n) _ ((bitsN l (8 * n)).set p on) (by rw [List.length_set, bitsN_len]) n rfl hm _ HR.out).mono ?_; rintro e w3 ⟨rfl, hb3, hw3⟩
      rw [HB.out] at hb3
      have Hb3 := Lib.hid hb3
      have Hw3 := Lib.hid (bt Hw2.out hw3)
      clear hb3 hw3
      go_wp2_with fail
      go_ret
      exact ⟨_, rfl, Hb3.out, Hw3.out⟩
    · have d1 : decide ((p : Int) < 8 * n) = false := by simp; omega
      obtain ⟨Av, cv, rfl, hv1, hv2, hv3⟩ := hv.bools
      rw [bitsN_len] at hv1 ⊢
      have Hv3 := Lib.hid hv3
      have HB := Lib.hid (bits_block l n Hn.out)
      have HW := Lib.hid (withL_out l p on (Or.inr (by rw [Hn.out]; omega)))
      clear hv hv3
      go_wp2_with fail
      refine (block_any _ (8 * n) _ (bitsN l (8 * n)) (by rw [bitsN_len]) n rfl hm _ Hv3.out).mono ?_; rintro e w3 ⟨rfl, hb3, hw3⟩
      rw [HB.out] at hb3
      have Hb3 := Lib.hid hb3
      have Hw3 := Lib.hid (bt Hb1.out hw3)
      clear hb3 hw3
      go_wp2_with fail
      go_ret
      refine ⟨_, rfl, ?_, Hw3.out⟩
      rw [HW.out]
      exact Hb3.out
  · have d0 : decide (0 ≤ i) = false := by simpa using h0
    obtain ⟨Av, cv, rfl, hv1, hv2, hv3⟩ := hv.bools
    rw [bitsN_len] at hv1 ⊢
    have Hv3 := Lib.hid hv3
    have HB := Lib.hid (bits_block l n Hn.out)
    have HW := Lib.hid (withL_out l i on (Or.inl (by omega)))
    clear hv hv3
    go_wp2_with fail
    refine (block_any _ (8 * n) _ (bitsN l (8 * n)) (by rw [bitsN_len]) n rfl hm _ Hv3.out).mono ?_; rintro e w3 ⟨rfl, hb3, hw3⟩
    rw [HB.out] at hb3
    have Hb3 := Lib.hid hb3
    have Hw3 := Lib.hid (bt Hb1.out hw3)
    clear hb3 hw3
    go_wp2_with fail
    go_ret
    refine ⟨_, rfl, ?_, Hw3.out⟩
    rw [HW.out]
    exact Hb3.out

def makeBits (N : Nat) (l : List Int) : List Bool := (List.range N).map (makeF l)
theorem makeBits_len (N : Nat) (l : List Int) : (makeBits N l).length = N := by unfold makeBits; rw [List.length_map, List.length_range]
theorem makeBits_nil (N : Nat) : (List.replicate N (Value.bool false)).toArray = (bvals (makeBits N [])).toArray := by
  congr 1
  apply List.ext_getElem?
  intro k
  unfold bvals makeBits
  rw [List.getElem?_replicate, List.getElem?_map, List.getElem?_map]
  by_cases h : k < N
  · rw [if_pos h, List.getElem?_range h]
    simp [makeF]
  · rw [if_neg h, List.getElem?_eq_none (by rw [List.length_range]; omega)]
    rfl
theorem makeBits_on (N : Nat) (l : List Int) (p : Nat) : ((bvals (makeBits N l)).set p (.bool true)).toArray = (bvals (makeBits N (l ++ [(p : Int)]))).toArray := by
  rw [bvals_set]
  congr 2
  apply List.ext_getElem?
  intro k
  rw [List.getElem?_set, makeBits_len]
  unfold makeBits
  rw [List.getElem?_map, List.getElem?_map]
  by_cases hk : k < N
  · rw [List.getElem?_range hk]
    simp only [Option.map_some]
    rw [makeF_snoc]
    unfold setF
    by_cases hp : p = k
    · subst hp
      rw [if_pos rfl, if_pos hk, if_pos rfl]
    · rw [if_neg hp, if_neg (by omega)]
  · rw [List.getElem?_eq_none (by rw [List.length_range]; omega)]
    by_cases hp : p = k
    · rw [if_pos hp, if_neg (by omega)]
      rfl
    · rw [if_neg hp]
      rfl
theorem makeBits_off (N : Nat) (l : List Int) (z : Int) (h : z < 0 ∨ N ≤ z) : makeBits N (l ++ [z]) = makeBits N l := by
  unfold makeBits
  apply List.map_congr_left
  intro k hk
  rw [List.mem_range] at hk
  rw [makeF_snoc]
  unfold setF
  rw [if_neg (by omega)]
theorem makeBits_block (m : Nat) (l : List Int) : blockL m (fun k => (makeBits (8 * m) l).getD k false) = blockL m (makeF l) :=
  blockL_congr fun k hk => by
    unfold makeBits
    rw [List.getD_eq_getElem?_getD, List.getElem?_map, List.getElem?_range hk]
    rfl
set_option maxHeartbeats 1600000 in
theorem rmake_any (A : Option Addr) (n cap : Nat) (l : List Int) (hn : l.length = n) (hm : n ≤ maxLen) (w : World) (hr : RC w A (ivals l)) :
    Calls Try.prog 22 #[.slice A n cap] w fun e w' => ∃ g, e = .returned (.slice (some ⟨g, 0, none⟩) 256 256) ∧ Blk w' g 5 (bcells (blockL 256 (makeF l))) ∧ Below w.heap.size w w' := by
  unfold maxLen at hm
  have Hn := Lib.hid hn
  have Hr := Lib.hid hr
  clear hn hr
  go_enter Try.func22, Try.ntmps22
  go_wp2_with (refine wpList_make_zero rfl _ _ _ _ rfl Try.underlying48 (.bool false) 1 Try.boolInfo rfl _ _ _ _ 2048 rfl rfl (by omega) (by omega) (by omega) (by omega) _ (makeBits_nil 2048) ?_)
  apply Stop.go; intro w1 Hg1 Hb1
  go_wp2_with fail
  go_loopw [4] (fun i wr => ∃ k : Nat, k ≤ n ∧ i = .int .i64 k ∧ Blk wr w.heap.size 4 (bvals (makeBits 2048 (l.take k))).toArray ∧ Below w.heap.size w wr) (fun i _ => n - (intOf i).toNat)
  case atStart => exact ⟨0, Nat.zero_le _, rfl, by rw [List.take_zero]; exact Hb1.out, Hg1.out.1⟩
  case round =>
    obtain ⟨k, hk, rfl, hb, hbw⟩ := hrel
    have Hb := Lib.hid hb
    have Hbw := Lib.hid hbw
    clear hb hbw
    by_cases hlt : k < n
    · have d0 : decide ((k : Int) < n) = true := by simpa using hlt
      have hkl : k < l.length := by rw [Hn.out]; exact hlt
      obtain ⟨ad, rfl, hc⟩ := (Hr.out.below Hbw.out).int k hkl
      have Hon := Lib.hid (makeBits_on 2048 (l.take k))
      have Hoff := Lib.hid (makeBits_off 2048 (l.take k) l[k])
      have Htk := Lib.hid (List.take_succ_eq_append_getElem hkl)
      have Hsz := Lib.hid (show (bvals (makeBits 2048 (l.take k))).toArray.size = 2048 by rw [List.size_toArray, bvals_len, makeBits_len])
      generalize l[k] = z at *
      by_cases h0 : 0 ≤ z
      · obtain ⟨p, rfl⟩ := Int.eq_ofNat_of_zero_le h0
        by_cases h1 : p < 2048
        · have d1 : decide ((p : Int) < 2048) = true := by simp; omega
          have hp0 : (p : Int) < 2048 := by omega
          go_wp2_with (refine wpList_store_cell rfl _ _ _ rfl Try.boolSize _ p rfl (.bool true) rfl rfl rfl _ _ Hb.out (by rw [Hsz.out]; exact h1) ?_)
          apply Stop.go; intro w2 Ho2 Hb2
          rw [Hon.out p, ← Htk.out] at Hb2
          go_wp2_with fail
          go_roundw
          case rel => exact ⟨k + 1, by omega, by go_num, Hb2.out, bonly Hbw.out Ho2.out (Nat.le_refl _)⟩
          case measure => simp [intOf]; omega
        · have d1 : decide ((p : Int) < 2048) = false := by simp; omega
          have HO := Lib.hid (Hoff.out (Or.inr (by omega)))
          go_wp2_with fail
          go_roundw
          case rel => exact ⟨k + 1, by omega, by go_num, by rw [Htk.out, HO.out]; exact Hb.out, Hbw.out⟩
          case measure => simp [intOf]; omega
      · have d1 : decide (0 ≤ z) = false := by simpa using h0
        have HO := Lib.hid (Hoff.out (Or.inl (by omega)))
        go_wp2_with fail
        go_roundw
        case rel => exact ⟨k + 1, by omega, by go_num, by rw [Htk.out, HO.out]; exact Hb.out, Hbw.out⟩
        case measure => simp [intOf]; omega
    · have d0 : decide ((k : Int) < n) = false := by simpa using hlt
      have Hl := Lib.hid (show l.take k = l from List.take_of_length_le (by rw [Hn.out]; omega))
      rw [Hl.out] at Hb
      have HR := Lib.hid (RC.of_blk Hb.out (bvals (makeBits 2048 l)) (by rw [List.take_length]))
      have HB := Lib.hid (makeBits_block 256 l)
      go_wp2_with fail
      refine (block_any _ 2048 _ (makeBits 2048 l) (makeBits_len 2048 l) 256 rfl (by omega) _ HR.out).mono ?_; rintro e w3 ⟨rfl, hb3, hw3⟩
      rw [HB.out] at hb3
      have Hb3 := Lib.hid hb3
      have Hw3 := Lib.hid (bt Hbw.out hw3)
      clear hb3 hw3
      go_wp2_with fail
      go_ret
      exact ⟨_, rfl, Hb3.out, Hw3.out⟩

set_option maxHeartbeats 800000 in
theorem ints_any (A : Option Addr) (n cap : Nat) (l : List Int) (hn : l.length = n) (A' : Option Addr) (n' cap' : Nat) (l' : List Int) (hn' : l'.length = n') (hm : n ≤ maxLen) (hm' : n' ≤ maxLen) (w : World) (hr : RC w A (ivals l)) (hr' : RC w A' (ivals l')) :
    Calls Try.prog 19 #[.slice A n cap, .slice A' n' cap'] w (RetQ (.bool (decide (l = l'))) w) := by
  unfold maxLen at hm hm'
  have Hn := Lib.hid hn
  have Hn' := Lib.hid hn'
  by_cases hne : n = n'
  · subst hne
    clear hn hn'
    have hb : ((n : Int) != (n : Int)) = false := by simp
    go_enter Try.func19, Try.ntmps19
    go_wp2_with fail
    go_loopw [5] (fun i wr => ∃ k : Nat, k ≤ n ∧ i = .int .i64 k ∧ l.take k = l'.take k ∧ ∃ m, wr = w.drewN m) (fun i _ => n - (intOf i).toNat)
    case atStart => exact ⟨0, Nat.zero_le _, rfl, rfl, 0, rfl⟩
    case round =>
      obtain ⟨k, hk, rfl, heq, m, rfl⟩ := hrel
      have Heq := Lib.hid heq
      clear heq
      by_cases hlt : k < n
      · have hkl : k < l.length := by rw [Hn.out]; exact hlt
        have hkl' : k < l'.length := by rw [Hn'.out]; exact hlt
        obtain ⟨ad, rfl, hc⟩ := hr.int k hkl
        obtain ⟨ad', rfl, hc'⟩ := hr'.int k hkl'
        have Htk := Lib.hid (List.take_succ_eq_append_getElem hkl)
        have Htk' := Lib.hid (List.take_succ_eq_append_getElem hkl')
        have Hdif := Lib.hid (show l = l' → l[k] = l'[k] from fun h => by subst h; rfl)
        generalize l[k] = x at *
        generalize l'[k] = x' at *
        by_cases hx : x = x'
        · subst hx
          have hxb : (x != x) = false := by simp
          go_wp2_with fail
          go_quiet (fail)
          go_wp2_with fail
          go_roundw
          case rel =>
            refine ⟨k + 1, by omega, by go_num, by rw [Htk.out, Htk'.out, Heq.out], m + nq, ?_⟩
            first | rfl | simp only [World.drewN_drewN]
          case measure => simp [intOf]; omega
        · have hxb : (x != x') = true := by simpa using hx
          have Hx := Lib.hid hx
          clear hx
          go_wp2_with fail
          go_quiet (fail)
          go_wp2_with fail
          go_ret
          refine ⟨?_, m + nq, ?_⟩
          · rw [decide_eq_false (fun h => Hx.out (Hdif.out h))]; rfl
          · first | rfl | simp only [World.drewN_drewN]
      · go_wp2_with fail
        go_ret
        refine ⟨?_, m, rfl⟩
        have : l = l' := by
          have h := Heq.out
          rwa [List.take_of_length_le (by rw [Hn.out]; omega), List.take_of_length_le (by rw [Hn'.out]; omega)] at h
        rw [decide_eq_true this]; rfl
  · have hb : ((n : Int) != (n' : Int)) = true := by simp; omega
    clear hn hn'
    go_enter Try.func19, Try.ntmps19
    go_wp2_with fail
    go_ret
    refine ⟨?_, 0, rfl⟩
    rw [decide_eq_false (fun h => hne (by rw [← Hn.out, ← Hn'.out, h]))]; rfl

end Go.Proofs.Ytcoefbgidfgblaa
