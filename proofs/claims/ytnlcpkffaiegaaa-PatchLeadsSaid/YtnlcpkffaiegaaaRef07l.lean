/-
  Contracts of the document's answer 07 on lists: Much, All, Bytes, SameAll.
-/
import Derived.Test.YtnlcpkffaiegaaaRef07
namespace Go.Proofs.Ytnlcpkffaiegaaa
open Go.RowKit

/-- More than is gone through? -/
def muchB (l : List Pt) (N : Nat) : Bool := decide (N < l.length) || l.any (fun p => decide (600 < p.data.length))
set_option maxHeartbeats 800000 in
theorem rmuch_any (A : Option Addr) (n c : Nat) (l : List Pt) (hn : l.length = n) (hm : n ≤ maxLen) (w : World) (hr : RPL w A l) :
    Calls Try.prog 23 #[.slice A n c, .int .i64 20] w fun e w' => e = .returned (.bool (muchB l 20)) ∧ w = w' := by
  unfold maxLen at hm
  have Hn := Lib.hid hn
  have Hr := Lib.hid hr
  clear hn hr
  by_cases h20 : n ≤ 20
  · have d0 : decide ((20 : Int) < n) = false := by simp; omega
    have Hd := Lib.hid (show muchB l 20 = l.any (fun p => decide (600 < p.data.length)) by unfold muchB; rw [decide_eq_false (by rw [Hn.out]; omega), Bool.false_or])
    go_enter Try.func23, Try.ntmps23
    go_wp2_with fail
    go_loop [5] (fun i => ∃ k : Nat, k ≤ n ∧ i = .int .i64 k ∧ ∀ j (h : j < l.length), j < k → decide (600 < l[j].data.length) = false) (fun i => n - (intOf i).toNat)
    case atStart => exact ⟨0, Nat.zero_le _, rfl, fun j _ h => absurd h (Nat.not_lt_zero _)⟩
    case round =>
      obtain ⟨k, hk, rfl, hno⟩ := hrel
      have Hno := Lib.hid hno
      clear hno
      by_cases hlt : k < n
      · have d1 : decide ((k : Int) < n) = true := by simpa using hlt
        have hkl : k < l.length := by rw [Hn.out]; exact hlt
        obtain ⟨ad, v0, v1, rfl, c0, c1, hp⟩ := Hr.out k hkl
        obtain ⟨A', n', c', rfl, rfl, hq⟩ := hp.pv
        have Hq := Lib.hid hq.len
        have c2 := cell_field c0 c1
        clear hp hq c0 c1
        by_cases h6 : 600 < n'
        · have d2 : decide ((600 : Int) < n') = true := by simp; omega
          have Ha := Lib.hid (show l.any (fun p => decide (600 < p.data.length)) = true from List.any_eq_true.2 ⟨l[k], List.getElem_mem hkl, by rw [Hq.out]; simpa using h6⟩)
          go_wp2_with fail
          go_ret
          rw [Hd.out, Ha.out]
          exact ⟨rfl, rfl⟩
        · have d2 : decide ((600 : Int) < n') = false := by simp; omega
          go_wp2_with fail
          refine ⟨⟨k + 1, by omega, by go_num, fun j hj hjk => ?_⟩, by simp [intOf]; omega⟩
          by_cases h : j = k
          · subst h
            rw [Hq.out]
            simpa using h6
          · exact Hno.out j hj (by omega)
      · have d1 : decide ((k : Int) < n) = false := by simpa using hlt
        have Ha := Lib.hid (show l.any (fun p => decide (600 < p.data.length)) = false from List.any_eq_false.2 fun p hp => by
          obtain ⟨j, hj, rfl⟩ := List.getElem_of_mem hp
          rw [Hno.out j hj (by have := Hn.out; omega)]
          simp)
        go_wp2_with fail
        go_ret
        rw [Hd.out, Ha.out]
        exact ⟨rfl, rfl⟩
  · have d0 : decide ((20 : Int) < n) = true := by simp; omega
    have Hd := Lib.hid (show muchB l 20 = true by unfold muchB; rw [decide_eq_true (by rw [Hn.out]; omega), Bool.true_or])
    go_enter Try.func23, Try.ntmps23
    go_wp2_with fail
    go_ret
    rw [Hd.out]
    exact ⟨rfl, rfl⟩

set_option maxHeartbeats 800000 in
theorem rall_any (B : Option Addr) (nb cb : Nat) (L : List UInt8) (hL : L.length = 256) (hnb : L.length = nb) (hcb : nb ≤ cb) (hmb : cb ≤ maxLen) (A : Option Addr) (n c : Nat) (l : List Pt) (hn : l.length = n) (hm : n ≤ 4096) (w : World) (hb : RB w B L) (hr : RPL w A l) :
    Calls Try.prog 26 #[.slice B nb cb, .slice A n c] w (RetB w (layAll L l)) := by
  have HL := Lib.hid hL
  have Hn := Lib.hid hn
  have Hr := Lib.hid hr
  have Hb := Lib.hid hb
  have Hnb := Lib.hid hnb
  clear hL hn hr hb hnb
  go_enter Try.func26, Try.ntmps26
  go_wp2_with fail
  go_loopw [0, 5] (fun v i wr => ∃ (k : Nat) (B' : Option Addr) (nb' cb' : Nat), k ≤ n ∧ i = .int .i64 k ∧ v = .slice B' nb' cb' ∧ (layAll L (l.take k)).length = nb' ∧ nb' ≤ cb' ∧ cb' ≤ maxLen ∧ RB wr B' (layAll L (l.take k)) ∧ Below w.heap.size w wr) (fun _ i _ => n - (intOf i).toNat)
  case atStart => exact ⟨0, B, nb, cb, Nat.zero_le _, rfl, rfl, Hnb.out, hcb, hmb, Hb.out, Below.refl _ _⟩
  case round =>
    obtain ⟨k, B', nb', cb', hk, rfl, rfl, hl, hc1, hc2, hb', hbw⟩ := hrel
    have Hl := Lib.hid hl
    have Hb' := Lib.hid hb'
    have Hbw := Lib.hid hbw
    have Hc := Lib.hid (show nb' ≤ cb' ∧ cb' ≤ maxLen from ⟨hc1, hc2⟩)
    clear hl hb' hbw hc1 hc2
    by_cases hlt : k < n
    · have d0 : decide ((k : Int) < n) = true := by simpa using hlt
      have hkl : k < l.length := by rw [Hn.out]; exact hlt
      obtain ⟨ad, v0, v1, rfl, c0, c1, hp⟩ := (Hr.out.below Hbw.out) k hkl
      obtain ⟨A', n', c', rfl, rfl, hq⟩ := hp.pv
      have Hp := Lib.hid hq
      have Ht := Lib.hid (show layAll L (l.take (k + 1)) = layP (layAll L (l.take k)) l[k] by rw [← layAll_snoc, ← List.take_succ_eq_append_getElem hkl])
      have HM := Lib.hid (layAll_len (l.take k) HL.out)
      generalize l[k] = p at *
      generalize layAll L (l.take k) = M at *
      have C0 := Lib.hid c0
      have C1 := Lib.hid c1
      clear hp hq c0 c1
      go_wp2_with (refine wpList_load_pair rfl _ _ rfl (ad.add (k * 2)) rfl _ _ C0.out (by rw [add_of_add]; exact C1.out) _ Try.underlying25 Try.rpatchSize ?_)
      refine (rlayp_any B' nb' cb' M HM.out Hl.out Hc.out.1 Hc.out.2 p A' n' c' _ Hb'.out Hp.out).mono ?_; rintro e w2 ⟨B2, n2, c2, rfl, h1, h2, h3, h4, h5⟩
      have H1 := Lib.hid h1
      have H4 := Lib.hid h4
      have H5 := Lib.hid (bt Hbw.out h5)
      have H2 := Lib.hid (show n2 ≤ c2 ∧ c2 ≤ maxLen from ⟨h2, h3⟩)
      clear h1 h2 h3 h4 h5
      go_wp2_with fail
      go_roundw
      case rel => exact ⟨k + 1, B2, n2, c2, by omega, by go_num, rfl, by rw [Ht.out]; exact H1.out, H2.out.1, H2.out.2, by rw [Ht.out]; exact H4.out, H5.out⟩
      case measure => simp [intOf]; omega
    · have d0 : decide ((k : Int) < n) = false := by simpa using hlt
      have e1 : l.take k = l := List.take_of_length_le (by rw [Hn.out]; omega)
      rw [e1] at Hl Hb'
      clear e1
      go_wp2_with fail
      go_ret
      exact ⟨_, _, _, rfl, Hl.out, Hc.out.1, Hc.out.2, Hb'.out, Hbw.out⟩

set_option maxHeartbeats 1600000 in
theorem rbytesp_any (A : Option Addr) (n c : Nat) (l : List Pt) (hn : l.length = n) (hm : n ≤ 4096) (w : World) (hr : RPL w A l) :
    Calls Try.prog 28 #[.slice A n c] w fun e w' => e = .returned (.int .i64 (bytesP l : Nat)) ∧ Below w.heap.size w w' := by
  have Hn := Lib.hid hn
  have Hr := Lib.hid hr
  clear hn hr
  go_enter Try.func28, Try.ntmps28
  go_wp2_with fail
  go_loopw [3, 4] (fun t i wr => ∃ k : Nat, k ≤ 256 ∧ i = .int .i64 k ∧ t = .int .i64 (cntB (fun i => l.any fun p => p.has i) k : Nat) ∧ Below w.heap.size w wr) (fun _ i _ => 256 - (intOf i).toNat)
  case atStart => exact ⟨0, by omega, rfl, rfl, Below.refl _ _⟩
  case round =>
    obtain ⟨k, hk, rfl, rfl, hbw⟩ := hrel
    have Hbw := Lib.hid hbw
    clear hbw
    by_cases hlt : k < 256
    · have d0 : decide ((k : Int) < 256) = true := by simp; omega
      have hcm := cntB_max (fun i => l.any fun p => p.has i) k
      have Hcs := Lib.hid (show cntB (fun i => l.any fun p => p.has i) (k + 1) = cntB (fun i => l.any fun p => p.has i) k + (l.any fun p => p.has k).toNat from rfl)
      generalize cntB (fun i => l.any fun p => p.has i) k = N at *
      go_wp2_with fail
      generalize hw9 : wr = w9 at *
      clear hw9
      go_loopw [5, 6] (fun b i wq => ∃ j : Nat, j ≤ n ∧ i = .int .i64 j ∧ b = .bool ((l.take j).any fun p => p.has k) ∧ Below w.heap.size w wq) (fun _ i _ => n - (intOf i).toNat)
      case atStart => exact ⟨0, Nat.zero_le _, rfl, rfl, Hbw.out⟩
      case round =>
        obtain ⟨j, hj, rfl, rfl, hbj⟩ := hrel
        have Hbj := Lib.hid hbj
        clear hbj
        by_cases hjt : j < n
        · have d1 : decide ((j : Int) < n) = true := by simpa using hjt
          have hjl : j < l.length := by rw [Hn.out]; exact hjt
          obtain ⟨ad, v0, v1, rfl, c0, c1, hp⟩ := (Hr.out.below Hbj.out) j hjl
          obtain ⟨A', n', c', rfl, rfl, hq⟩ := hp.pv
          have Hp := Lib.hid hq
          have Ht := Lib.hid (show ((l.take (j + 1)).any fun p => p.has k) = (((l.take j).any fun p => p.has k) || l[j].has k) by rw [List.take_succ_eq_append_getElem hjl, List.any_append, List.any_cons, List.any_nil, Bool.or_false])
          generalize l[j] = p at *
          generalize ((l.take j).any fun p => p.has k) = b at *
          have C0 := Lib.hid c0
          have C1 := Lib.hid c1
          clear hp hq c0 c1
          cases b
          · go_wp2_with (refine wpList_load_pair rfl _ _ rfl (ad.add (j * 2)) rfl _ _ C0.out (by rw [add_of_add]; exact C1.out) _ Try.underlying25 Try.rpatchSize ?_)
            refine (rin_any p A' n' c' k hlt _ Hp.out).mono ?_; rintro e w3 ⟨rfl, hb3⟩
            have Hb3 := Lib.hid (bt Hbj.out hb3)
            clear hb3
            go_wp2_with fail
            go_roundw
            case rel => exact ⟨j + 1, by omega, by go_num, by rw [Ht.out]; rfl, Hb3.out⟩
            case measure => simp [intOf]; omega
          · go_wp2_with fail
            go_roundw
            case rel => exact ⟨j + 1, by omega, by go_num, by rw [Ht.out]; rfl, Hbj.out⟩
            case measure => simp [intOf]; omega
        · have d1 : decide ((j : Int) < n) = false := by simpa using hjt
          have e1 : l.take j = l := List.take_of_length_le (by rw [Hn.out]; omega)
          rw [e1]
          clear e1
          cases hb : (l.any fun p => p.has k)
          · rw [hb] at Hcs
            clear hb
            go_wp2_with fail
            go_roundw
            case rel => exact ⟨k + 1, by omega, by go_num, by rw [Hcs.out]; rfl, Hbj.out⟩
            case measure => simp [intOf]; omega
          · rw [hb] at Hcs
            clear hb
            go_wp2_with fail
            go_roundw
            case rel => exact ⟨k + 1, by omega, by go_num, by rw [Hcs.out]; go_num, Hbj.out⟩
            case measure => simp [intOf]; omega
    · have d0 : decide ((k : Int) < 256) = false := by simp; omega
      obtain rfl : k = 256 := by omega
      have Hf := Lib.hid (show bytesP l = cntB (fun i => l.any fun p => p.has i) 256 from rfl)
      go_wp2_with fail
      go_ret
      rw [Hf.out]
      exact ⟨rfl, Hbw.out⟩

set_option maxHeartbeats 1600000 in
/-- Two that read as the same list are told so. -/
theorem rsameAll_any (A : Option Addr) (n c : Nat) (A' : Option Addr) (c' : Nat) (l : List Pt) (hn : l.length = n) (hm : n ≤ maxLen) (w : World) (hr : RPL w A l) (hr' : RPL w A' l) :
    Calls Try.prog 29 #[.slice A n c, .slice A' n c'] w fun e w' => e = .returned (.bool true) ∧ Below w.heap.size w w' := by
  unfold maxLen at hm
  have Hn := Lib.hid hn
  have Hr := Lib.hid hr
  have Hr' := Lib.hid hr'
  clear hn hr hr'
  have hb : ((n : Int) != (n : Int)) = false := by simp
  go_enter Try.func29, Try.ntmps29
  go_wp2_with fail
  go_loopw [5] (fun i wr => ∃ k : Nat, k ≤ n ∧ i = .int .i64 k ∧ Below w.heap.size w wr) (fun i _ => n - (intOf i).toNat)
  case atStart => exact ⟨0, Nat.zero_le _, rfl, Below.refl _ _⟩
  case round =>
    obtain ⟨k, hk, rfl, hbw⟩ := hrel
    have Hbw := Lib.hid hbw
    clear hbw
    by_cases hlt : k < n
    · have d0 : decide ((k : Int) < n) = true := by simpa using hlt
      have hkl : k < l.length := by rw [Hn.out]; exact hlt
      obtain ⟨ad, v0, v1, rfl, c0, c1, hp⟩ := (Hr.out.below Hbw.out) k hkl
      obtain ⟨B, m, cb, rfl, rfl, hq⟩ := hp.pv
      obtain ⟨ad', v0', v1', rfl, c0', c1', hp'⟩ := (Hr'.out.below Hbw.out) k hkl
      obtain ⟨B', m', cb', rfl, rfl, hq'⟩ := hp'.pv
      have Hq := Lib.hid hq
      have Hq' := Lib.hid hq'
      have C0 := Lib.hid c0
      have C1 := Lib.hid c1
      have C0' := Lib.hid c0'
      have C1' := Lib.hid c1'
      generalize l[k] = p at *
      have Hs := Lib.hid (sameP_self p)
      clear hp hq hp' hq' c0 c1 c0' c1'
      go_wp2_with fail
      refine WH.start (S := fun w' : World => Below wr.heap.size wr w') (List.replicate 10 false) 10 rfl rfl (by kernel_rfl) (bdrew wr 1) (fun hSn => ?_)
      simp only [List.replicate]
      refine WH.take 0 _ ?_ rfl (by kernel_rfl) (fun _ _ _ h => h) rfl (by assumption) ?_ ?_; rotate_left; (focus (intro w hSw; (try dsimp only at hSw); (first | (go_simp; done) | (go_simp; with_reducible rfl)))); simp only [Act.put, List.setIfInBounds_toArray, List.set_cons_zero, List.set_cons_succ]
      refine WH.take 1 _ ?_ rfl (by kernel_rfl) (fun _ _ _ h => h) rfl (by assumption) ?_ ?_; rotate_left; (focus (intro w hSw; (try dsimp only at hSw); (first | (go_simp; done) | (go_simp; with_reducible rfl)))); simp only [Act.put, List.setIfInBounds_toArray, List.set_cons_zero, List.set_cons_succ]
      refine WH.take 2 _ ?_ rfl (by kernel_rfl) (fun _ _ _ h => h) rfl (by assumption) ?_ ?_; rotate_left; (focus (intro w hSw; (try dsimp only at hSw); (first | (go_simp; done) | (go_simp; with_reducible rfl)))); simp only [Act.put, List.setIfInBounds_toArray, List.set_cons_zero, List.set_cons_succ]
      refine WH.take 3 _ _ rfl (by kernel_rfl) (fun _ _ _ h => h) rfl (by assumption) (fun w' hSw => exec_load_pair _ _ rfl (ad.add (k * 2)) rfl (.int .i64 p.at_) (.slice B m cb) ((hSw.cell (block_lt_of_cell C0.out)).trans C0.out) (by rw [add_of_add]; exact (hSw.cell (block_lt_of_cell C1.out)).trans C1.out) _ Try.underlying25 Try.rpatchSize) ?_; simp only [Act.put, List.setIfInBounds_toArray, List.set_cons_zero, List.set_cons_succ]
      refine WH.take 4 _ ?_ rfl (by kernel_rfl) (fun _ _ _ h => h) rfl (by assumption) ?_ ?_; rotate_left; (focus (intro w hSw; (try dsimp only at hSw); (first | (go_simp; done) | (go_simp; with_reducible rfl)))); simp only [Act.put, List.setIfInBounds_toArray, List.set_cons_zero, List.set_cons_succ]
      refine WH.take 5 _ ?_ rfl (by kernel_rfl) (fun _ _ _ h => h) rfl (by assumption) ?_ ?_; rotate_left; (focus (intro w hSw; (try dsimp only at hSw); (first | (go_simp; done) | (go_simp; with_reducible rfl)))); simp only [Act.put, List.setIfInBounds_toArray, List.set_cons_zero, List.set_cons_succ]
      refine WH.take 6 _ ?_ rfl (by kernel_rfl) (fun _ _ _ h => h) rfl (by assumption) ?_ ?_; rotate_left; (focus (intro w hSw; (try dsimp only at hSw); (first | (go_simp; done) | (go_simp; with_reducible rfl)))); simp only [Act.put, List.setIfInBounds_toArray, List.set_cons_zero, List.set_cons_succ]
      refine WH.take 7 _ _ rfl (by kernel_rfl) (fun _ _ _ h => h) rfl (by assumption) (fun w' hSw => exec_load_pair _ _ rfl (ad'.add (k * 2)) rfl (.int .i64 p.at_) (.slice B' m' cb') ((hSw.cell (block_lt_of_cell C0'.out)).trans C0'.out) (by rw [add_of_add]; exact (hSw.cell (block_lt_of_cell C1'.out)).trans C1'.out) _ Try.underlying25 Try.rpatchSize) ?_; simp only [Act.put, List.setIfInBounds_toArray, List.set_cons_zero, List.set_cons_succ]
      refine WH.only 8 _ rfl (by kernel_rfl) rfl (fun K hK => ?_); go_simp; refine (rsamep_any p B m cb p B' m' cb' _ (Hq.out.below hSn) (Hq'.out.below hSn)).mono ?_; rintro e w3 ⟨rfl, hb3⟩; go_simp
      rw [Hs.out]
      have hSn := bt hSn hb3; refine hK _ _ hSn ?_; clear hK; clear K; simp only [List.set_cons_zero, List.set_cons_succ]
      refine WH.take 9 _ ?_ rfl (by kernel_rfl) (fun _ _ _ h => h) rfl (by assumption) ?_ ?_; rotate_left; (focus (intro w hSw; (try dsimp only at hSw); (first | (go_simp; done) | (go_simp; with_reducible rfl)))); simp only [Act.put, List.setIfInBounds_toArray, List.set_cons_zero, List.set_cons_succ]
      refine WH.done (by kernel_rfl) ?_
      have Hb3 := Lib.hid (bt Hbw.out hSn)
      clear hSn hb3
      go_wp2_with fail
      go_roundw
      case rel => exact ⟨k + 1, by omega, by go_num, Hb3.out⟩
      case measure => simp [intOf]; omega
    · have d0 : decide ((k : Int) < n) = false := by simpa using hlt
      go_wp2_with fail
      go_ret
      exact ⟨rfl, Hbw.out⟩

end Go.Proofs.Ytnlcpkffaiegaaa
