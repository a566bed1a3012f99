/-
  The walk of ChartApart.
-/
import Derived.Test.YtcoefbgidfgblaaLaw04
namespace Go.Proofs.Ytcoefbgidfgblaa
open Go.RowKit

/-- N whole numbers as cells. -/
def lcells (N : Nat) (f : Nat → Int) : Array Value := ((List.range N).map fun k => Value.int .i64 (f k)).toArray
theorem lcells_size (N : Nat) (f : Nat → Int) : (lcells N f).size = N := by simp [lcells]
theorem lcells_get (N : Nat) (f : Nat → Int) (k : Nat) (h : k < N) : (lcells N f)[k]? = some (.int .i64 (f k)) := by
  unfold lcells
  rw [List.getElem?_toArray, List.getElem?_map, List.getElem?_range h]
  rfl
def updF (f : Nat → Int) (p : Nat) (v : Int) (k : Nat) : Int := if k = p then v else f k
theorem lcells_set (N : Nat) (f : Nat → Int) (p : Nat) (v : Int) : (lcells N f).setIfInBounds p (.int .i64 v) = lcells N (updF f p v) := by
  unfold lcells
  rw [List.setIfInBounds_toArray]
  congr 1
  apply List.ext_getElem?
  intro k
  rw [List.getElem?_set, List.length_map, List.length_range, List.getElem?_map, List.getElem?_map]
  by_cases hk : k < N
  · rw [List.getElem?_range hk]
    simp only [Option.map_some]
    unfold updF
    by_cases hp : p = k
    · subst hp
      rw [if_pos rfl, if_pos hk, if_pos rfl]
    · rw [if_neg hp, if_neg (fun h => hp h.symm)]
  · rw [List.getElem?_eq_none (by rw [List.length_range]; omega)]
    by_cases hp : p = k
    · rw [if_pos hp, if_neg (by omega)]
      rfl
    · rw [if_neg hp]
      rfl
theorem Try.lastZero : (Try.prog.info? 49).map (·.zero) = some (some (.agg (lcells 2048 fun _ => 0))) := by kernel_rfl
theorem Try.intSize : (Try.prog.info? 3).map (·.size) = some 1 := by kernel_rfl
/-- What was set last, and what stands. -/
def Marks (L X : List UInt8) (f : Nat → Int) : Prop := ∀ k, k < 2048 → (f k = 0 ∧ bitAt X k = bitAt L k) ∨ (f k = 1 ∧ bitAt X k = false) ∨ (f k = 2 ∧ bitAt X k = true)
theorem Marks.start (L : List UInt8) : Marks L L fun _ => 0 := fun _ _ => Or.inl ⟨rfl, rfl⟩
theorem Marks.step {L X : List UInt8} {f : Nat → Int} (h : Marks L X f) (hX : X.length = 256) (p : Nat) (on : Bool) : Marks L (withL X p on) (updF f p (if on then 2 else 1)) := fun k hk => by
  rw [bitAt_withL X p on k (by omega)]
  unfold updF
  by_cases hp : k = p
  · subst hp
    rw [if_pos rfl, if_pos rfl]
    cases on
    · exact Or.inr (Or.inl ⟨rfl, rfl⟩)
    · exact Or.inr (Or.inr ⟨rfl, rfl⟩)
  · simp only [if_neg hp, if_neg (show ¬ (k : Int) = p by omega)]
    exact h k hk
theorem updF_twice (f : Nat → Int) (p : Nat) (u v : Int) : updF (updF f p u) p v = updF f p v := by
  funext k
  unfold updF
  split <;> rfl
theorem hasB_nat (L : List UInt8) (k : Nat) (h : k < 2048) : hasB L (k : Int) = bitAt L k := by
  unfold hasB isBitB
  rw [decide_eq_true (by omega)]
  rfl
theorem kept {u w' w'' : World} {ad : Addr} {v : Value} (h : w'.cell? ad = some v ∧ Below u.heap.size u w') (hb : Below w'.heap.size w' w'') : w''.cell? ad = some v ∧ Below u.heap.size u w'' :=
  ⟨by rw [hb.cell (block_lt_of_cell h.1), h.1], bt h.2 hb⟩
set_option maxHeartbeats 4000000 in
theorem chartApart_any (L : List UInt8) (hL : L.length = 256) (A : Option Addr) (n cap : Nat) (l : List Int) (hn : l.length = n) (hm : n ≤ maxLen) (hw : ∀ z ∈ l, 0 ≤ z ∧ z ≤ 65535) (A' : Option Addr) (n' cap' : Nat) (l' : List Bool) (hn' : l'.length = n') (w : World) (hr : RC w A (l.map (Value.int .u16))) (hr' : RC w A' (bvals l')) :
    Calls Try.prog 6 #[.agg (bcells L), .slice A n cap, .slice A' n' cap'] w fun e w' => e = .returned (.bool true) ∧ Below w.heap.size w w' := by
  unfold maxLen at hm
  have HL := Lib.hid hL
  have Hn := Lib.hid hn
  have Hn' := Lib.hid hn'
  have Hw := Lib.hid hw
  have Hr := Lib.hid hr
  have Hr' := Lib.hid hr'
  clear hL hn hn' hw hr hr'
  by_cases h1 : n ≤ 60
  · have d1 : decide ((60 : Int) < n) = false := by simp; omega
    go_enter Try.func6, Try.ntmps6
    go_wp2_with (refine wpList_box_row rfl _ _ rfl _ rfl ?_)
    apply Stop.go; intro w1 Hg1 Hb1
    go_wp2_with (first | refine wpList_load_arr rfl _ _ rfl _ rfl _ _ Hb1.out _ _ Try.underlying22 (Try.arr256Fits HL.out) ?_ | refine wpList_alloc_row rfl _ rfl _ Try.blockZero ?_)
    apply Stop.go; intro w2 Hg2 Hx2
    go_wp2_with (refine wpList_store_arr rfl _ _ _ rfl _ _ rfl rfl _ _ Hx2.out (Try.blockFits HL.out) (by rw [bcells_size, bcells_size, HL.out, zeros_len]) (oneCell_bcells _) ?_)
    apply Stop.go; intro w3 Ho3 Hx3
    have Hw3 := Lib.hid (bonly (bt Hg1.out.1 Hg2.out.1) Ho3.out Hg1.out.1.size)
    have Hb3 := Lib.hid ((Hb1.out.ext Hg2.out.1).only Ho3.out (Nat.ne_of_lt Hb1.out.lt))
    go_wp2_with (refine wpList_alloc_row rfl _ rfl _ Try.lastZero ?_)
    apply Stop.go; intro w4 Hg4 Hl4
    have Z1 := Lib.hid Hg1.out.2
    have Z3 := Lib.hid Hx3.out.lt
    go_wp2_with fail
    go_loopw [9] (fun i wr => ∃ (k : Nat) (X : List UInt8) (f : Nat → Int), k ≤ n ∧ i = .int .i64 k ∧ X.length = 256 ∧ Marks L X f ∧ Blk wr w.heap.size 22 (bcells L) ∧ Blk wr w1.heap.size 23 (bcells X) ∧ Blk wr w3.heap.size 49 (lcells 2048 f) ∧ Below w.heap.size w wr) (fun i _ => n - (intOf i).toNat)
    case atStart => exact ⟨0, L, fun _ => 0, Nat.zero_le _, rfl, HL.out, Marks.start L, Hb3.out.ext Hg4.out.1, Hx3.out.ext Hg4.out.1, Hl4.out, bt Hw3.out Hg4.out.1⟩
    case round =>
      obtain ⟨k, X, f, hk, rfl, hX, hM, hb, hx, hl, hbw⟩ := hrel
      have HX := Lib.hid hX
      have HM := Lib.hid hM
      have Hb := Lib.hid hb
      have Hx := Lib.hid hx
      have Hl := Lib.hid hl
      have Hbw := Lib.hid hbw
      clear hX hM hb hx hl hbw
      by_cases hlt : k < n
      · have d0 : decide ((k : Int) < n) = true := by simpa using hlt
        have hkl : k < l.length := by rw [Hn.out]; exact hlt
        obtain ⟨ad, rfl, hc⟩ := (Hr.out.below Hbw.out) k (by rw [List.length_map]; exact hkl)
        rw [List.getElem_map] at hc
        have hz := Hw.out l[k] (List.getElem_mem hkl)
        generalize l[k] = z at *
        obtain ⟨p, hp⟩ := Int.eq_ofNat_of_zero_le (show 0 ≤ z % 2048 by omega)
        have hz1 := hz.1
        have hz2 := hz.2
        have hp2 : p < 2048 := by omega
        have hpi : (p : Int) < 2048 := by omega
        clear hz
        by_cases hln : k < n'
        · have d2 : decide ((k : Int) < n') = true := by simpa using hln
          have hkl' : k < l'.length := by rw [Hn'.out]; exact hln
          obtain ⟨ad', rfl, hc'⟩ := (Hr'.out.below Hbw.out).bool k hkl'
          generalize l'[k] = b at *
          cases b
          · have HX2 := Lib.hid (show (withL X p false).length = 256 by rw [withL_len, HX.out])
            have HM2 := Lib.hid (show Marks L (withL X p false) (updF f p 1) from HM.out.step HX.out p false)
            go_wp2_with (refine wpList_load_arr rfl _ _ rfl _ rfl _ _ Hx.out _ _ Try.underlying23 (Try.blockFits HX.out) ?_)
            refine (cwith_any X HX.out (p : Int) false _).mono ?_; rintro e w5 ⟨rfl, hb5⟩
            have Hb5 := Lib.hid (Hb.out.ext hb5)
            have Hx5 := Lib.hid (Hx.out.ext hb5)
            have Hl5 := Lib.hid (Hl.out.ext hb5)
            have Hw5 := Lib.hid (bt Hbw.out hb5)
            clear hb5
            go_wp2_with (refine wpList_store_arr rfl _ _ _ rfl _ _ rfl rfl _ _ Hx5.out (Try.blockFits HX2.out) (by rw [bcells_size, bcells_size, HX2.out, HX.out]) (oneCell_bcells _) ?_)
            apply Stop.go; intro w6 Ho6 Hx6
            have Hb6 := Lib.hid (Hb5.out.only Ho6.out (by rw [Z1.out]; omega))
            have Hl6 := Lib.hid (Hl5.out.only Ho6.out (Ne.symm (Nat.ne_of_lt Z3.out)))
            have Hw6 := Lib.hid (bonly Hw5.out Ho6.out (by rw [Z1.out]; omega))
            go_wp2_with (refine wpList_store_cell rfl _ _ _ rfl Try.intSize _ p rfl (.int .i64 1) rfl rfl rfl _ _ Hl6.out (by rw [lcells_size]; exact hp2) ?_)
            apply Stop.go; intro w7 Ho7 Hl7
            rw [lcells_set] at Hl7
            have Hb7 := Lib.hid (Hb6.out.only Ho7.out (by have := Z3.out; have := Z1.out; omega))
            have Hx7 := Lib.hid (Hx6.out.only Ho7.out (Nat.ne_of_lt Z3.out))
            have Hw7 := Lib.hid (bonly Hw6.out Ho7.out (by have := Z3.out; have := Z1.out; omega))
            go_wp2_with fail
            go_roundw
            case rel => exact ⟨k + 1, _, _, by omega, by go_num, HX2.out, HM2.out, Hb7.out, Hx7.out, Hl7.out, Hw7.out⟩
            case measure => simp [intOf]; omega
          · have HX2 := Lib.hid (show (withL X p true).length = 256 by rw [withL_len, HX.out])
            have HM2 := Lib.hid (show Marks L (withL X p true) (updF f p 2) from HM.out.step HX.out p true)
            go_wp2_with (refine wpList_load_arr rfl _ _ rfl _ rfl _ _ Hx.out _ _ Try.underlying23 (Try.blockFits HX.out) ?_)
            refine (cwith_any X HX.out (p : Int) true _).mono ?_; rintro e w5 ⟨rfl, hb5⟩
            have Hb5 := Lib.hid (Hb.out.ext hb5)
            have Hx5 := Lib.hid (Hx.out.ext hb5)
            have Hl5 := Lib.hid (Hl.out.ext hb5)
            have Hw5 := Lib.hid (bt Hbw.out hb5)
            clear hb5
            go_wp2_with (refine wpList_store_arr rfl _ _ _ rfl _ _ rfl rfl _ _ Hx5.out (Try.blockFits HX2.out) (by rw [bcells_size, bcells_size, HX2.out, HX.out]) (oneCell_bcells _) ?_)
            apply Stop.go; intro w6 Ho6 Hx6
            have Hb6 := Lib.hid (Hb5.out.only Ho6.out (by rw [Z1.out]; omega))
            have Hl6 := Lib.hid (Hl5.out.only Ho6.out (Ne.symm (Nat.ne_of_lt Z3.out)))
            have Hw6 := Lib.hid (bonly Hw5.out Ho6.out (by rw [Z1.out]; omega))
            go_wp2_with (refine wpList_store_cell rfl _ _ _ rfl Try.intSize _ p rfl (.int .i64 1) rfl rfl rfl _ _ Hl6.out (by rw [lcells_size]; exact hp2) ?_)
            apply Stop.go; intro w7 Ho7 Hl7
            rw [lcells_set] at Hl7
            have Hb7 := Lib.hid (Hb6.out.only Ho7.out (by have := Z3.out; have := Z1.out; omega))
            have Hx7 := Lib.hid (Hx6.out.only Ho7.out (Nat.ne_of_lt Z3.out))
            have Hw7 := Lib.hid (bonly Hw6.out Ho7.out (by have := Z3.out; have := Z1.out; omega))
            go_wp2_with (refine wpList_store_cell rfl _ _ _ rfl Try.intSize _ p rfl (.int .i64 2) rfl rfl rfl _ _ Hl7.out (by rw [lcells_size]; exact hp2) ?_)
            apply Stop.go; intro w8 Ho8 Hl8
            rw [lcells_set, updF_twice] at Hl8
            have Hb8 := Lib.hid (Hb7.out.only Ho8.out (by have := Z3.out; have := Z1.out; omega))
            have Hx8 := Lib.hid (Hx7.out.only Ho8.out (Nat.ne_of_lt Z3.out))
            have Hw8 := Lib.hid (bonly Hw7.out Ho8.out (by have := Z3.out; have := Z1.out; omega))
            go_wp2_with fail
            go_roundw
            case rel => exact ⟨k + 1, _, _, by omega, by go_num, HX2.out, HM2.out, Hb8.out, Hx8.out, Hl8.out, Hw8.out⟩
            case measure => simp [intOf]; omega
        · have d2 : decide ((k : Int) < n') = false := by simpa using hln
          have HX2 := Lib.hid (show (withL X p false).length = 256 by rw [withL_len, HX.out])
          have HM2 := Lib.hid (show Marks L (withL X p false) (updF f p 1) from HM.out.step HX.out p false)
          go_wp2_with (refine wpList_load_arr rfl _ _ rfl _ rfl _ _ Hx.out _ _ Try.underlying23 (Try.blockFits HX.out) ?_)
          refine (cwith_any X HX.out (p : Int) false _).mono ?_; rintro e w5 ⟨rfl, hb5⟩
          have Hb5 := Lib.hid (Hb.out.ext hb5)
          have Hx5 := Lib.hid (Hx.out.ext hb5)
          have Hl5 := Lib.hid (Hl.out.ext hb5)
          have Hw5 := Lib.hid (bt Hbw.out hb5)
          clear hb5
          go_wp2_with (refine wpList_store_arr rfl _ _ _ rfl _ _ rfl rfl _ _ Hx5.out (Try.blockFits HX2.out) (by rw [bcells_size, bcells_size, HX2.out, HX.out]) (oneCell_bcells _) ?_)
          apply Stop.go; intro w6 Ho6 Hx6
          have Hb6 := Lib.hid (Hb5.out.only Ho6.out (by rw [Z1.out]; omega))
          have Hl6 := Lib.hid (Hl5.out.only Ho6.out (Ne.symm (Nat.ne_of_lt Z3.out)))
          have Hw6 := Lib.hid (bonly Hw5.out Ho6.out (by rw [Z1.out]; omega))
          go_wp2_with (refine wpList_store_cell rfl _ _ _ rfl Try.intSize _ p rfl (.int .i64 1) rfl rfl rfl _ _ Hl6.out (by rw [lcells_size]; exact hp2) ?_)
          apply Stop.go; intro w7 Ho7 Hl7
          rw [lcells_set] at Hl7
          have Hb7 := Lib.hid (Hb6.out.only Ho7.out (by have := Z3.out; have := Z1.out; omega))
          have Hx7 := Lib.hid (Hx6.out.only Ho7.out (Nat.ne_of_lt Z3.out))
          have Hw7 := Lib.hid (bonly Hw6.out Ho7.out (by have := Z3.out; have := Z1.out; omega))
          go_wp2_with fail
          go_roundw
          case rel => exact ⟨k + 1, _, _, by omega, by go_num, HX2.out, HM2.out, Hb7.out, Hx7.out, Hl7.out, Hw7.out⟩
          case measure => simp [intOf]; omega
      · have d0 : decide ((k : Int) < n) = false := by simpa using hlt
        go_wp2_with fail
        generalize wr = w9 at *
        go_loopw [12] (fun i wr => ∃ j : Nat, j ≤ 2048 ∧ i = .int .i64 j ∧ Below w9.heap.size w9 wr) (fun i _ => 2048 - (intOf i).toNat)
        case atStart => exact ⟨0, Nat.zero_le _, rfl, Below.refl _ _⟩
        case round =>
          obtain ⟨j, hj, rfl, hbw2⟩ := hrel
          have Hbw2 := Lib.hid hbw2
          have Hb2 := Lib.hid (Hb.out.ext hbw2)
          have Hx2 := Lib.hid (Hx.out.ext hbw2)
          have Hl2 := Lib.hid (Hl.out.ext hbw2)
          clear hbw2
          by_cases hlj : j < 2048
          · have d2 : decide ((j : Int) < 2048) = true := by simp; omega
            have hji : (j : Int) < 2048 := by omega
            have HJX := Lib.hid (hasB_nat X j hlj)
            have HJL := Lib.hid (hasB_nat L j hlj)
            have hcj : wr.cell? ⟨w3.heap.size, j, none⟩ = some (.int .i64 (f j)) := by rw [Hl2.out.cell, lcells_get _ _ _ hlj]
            rcases HM.out j hlj with ⟨hf, hbit⟩ | ⟨hf, hbit⟩ | ⟨hf, hbit⟩
            all_goals
              rw [hf] at hcj
              rw [hbit] at HJX
              clear hf hbit
            · generalize bitAt L j = b at *
              go_wp2_with fail
              refine WH.start (S := fun w' : World => w'.cell? ⟨w3.heap.size, j, none⟩ = some (.int .i64 0) ∧ Below wr.heap.size wr w') [false, false, false, false, false, false, false, false, false, false, false, false, false, false, false, false, false, false, false, false, false, false, false, false, false, false, false, false, false, false, false, false, false, false, false, false] 36 rfl rfl (by kernel_rfl) ⟨hcj, bdrew wr 1⟩ (fun hSn => ?_)
              refine WH.take 0 _ ?_ rfl (by kernel_rfl) (fun _ _ _ h => h) rfl (by assumption) ?_ ?_; rotate_left; (focus (intro w hSw; (try dsimp only at hSw); (first | (go_simp; done) | (go_simp; with_reducible rfl)))); simp only [Act.put, List.setIfInBounds_toArray, List.set_cons_zero, List.set_cons_succ]
              refine WH.take 1 _ ?_ rfl (by kernel_rfl) (fun _ _ _ h => h) rfl (by assumption) ?_ ?_; rotate_left; (focus (intro w hSw; (try dsimp only at hSw); (first | (go_simp; done) | (go_simp; with_reducible rfl)))); simp only [Act.put, List.setIfInBounds_toArray, List.set_cons_zero, List.set_cons_succ]
              refine WH.take 2 _ ?_ rfl (by kernel_rfl) (fun _ _ _ h => h) rfl (by assumption) ?_ ?_; rotate_left; (focus (intro w hSw; (try dsimp only at hSw); (first | (go_simp; done) | (go_simp; with_reducible rfl)))); simp only [Act.put, List.setIfInBounds_toArray, List.set_cons_zero, List.set_cons_succ]
              refine WH.take 3 _ ?_ rfl (by kernel_rfl) (fun _ _ _ h => h) rfl (by assumption) ?_ ?_; rotate_left; (focus (intro w hSw; (try dsimp only at hSw); (first | (go_simp; done) | (go_simp; with_reducible rfl)))); simp only [Act.put, List.setIfInBounds_toArray, List.set_cons_zero, List.set_cons_succ]
              refine WH.take 4 _ ?_ rfl (by kernel_rfl) (fun _ _ _ h => h) rfl (by assumption) ?_ ?_; rotate_left; (focus (intro w hSw; (try dsimp only at hSw); (first | (go_simp; done) | (go_simp; with_reducible rfl)))); simp only [Act.put, List.setIfInBounds_toArray, List.set_cons_zero, List.set_cons_succ]
              refine WH.take 5 _ _ rfl (by kernel_rfl) (fun _ _ _ h => h) rfl (by assumption) (fun w' hSw => run_load_arr _ _ rfl _ rfl _ _ (Hx2.out.ext hSw.2) _ _ (Try.underlying23) (Try.blockFits HX.out)) ?_; simp only [Act.put, List.setIfInBounds_toArray, List.set_cons_zero, List.set_cons_succ]
              refine WH.take 6 _ ?_ rfl (by kernel_rfl) (fun _ _ _ h => h) rfl (by assumption) ?_ ?_; rotate_left; (focus (intro w hSw; (try dsimp only at hSw); (first | (go_simp; done) | (go_simp; with_reducible rfl)))); simp only [Act.put, List.setIfInBounds_toArray, List.set_cons_zero, List.set_cons_succ]
              refine WH.take 8 _ _ rfl (by kernel_rfl) (fun _ _ _ h => h) rfl (by assumption) (fun w' hSw => run_load_arr _ _ rfl _ rfl _ _ (Hb2.out.ext hSw.2) _ _ (Try.underlying22) (Try.arr256Fits HL.out)) ?_; simp only [Act.put, List.setIfInBounds_toArray, List.set_cons_zero, List.set_cons_succ]
              refine WH.take 9 _ ?_ rfl (by kernel_rfl) (fun _ _ _ h => h) rfl (by assumption) ?_ ?_; rotate_left; (focus (intro w hSw; (try dsimp only at hSw); (first | (go_simp; done) | (go_simp; with_reducible rfl)))); simp only [Act.put, List.setIfInBounds_toArray, List.set_cons_zero, List.set_cons_succ]
              refine WH.only 7 _ rfl (by kernel_rfl) rfl (fun K hK => ?_); go_simp; refine (has_any X HX.out _ _).mono ?_; rintro e wa ⟨rfl, hwa⟩; go_simp
              rw [HJX.out]
              have hSn := kept hSn hwa; refine hK _ _ hSn ?_; clear hK; clear K; simp only [List.set_cons_zero, List.set_cons_succ]
              refine WH.only 10 _ rfl (by kernel_rfl) rfl (fun K hK => ?_); go_simp; refine (has_any L HL.out _ _).mono ?_; rintro e wb ⟨rfl, hwb⟩; go_simp
              rw [HJL.out]
              have hSn := kept hSn hwb; refine hK _ _ hSn ?_; clear hK; clear K; simp only [List.set_cons_zero, List.set_cons_succ]
              refine WH.take 11 _ ?_ rfl (by kernel_rfl) (fun _ _ _ h => h) rfl (by assumption) ?_ ?_; rotate_left; (focus (intro w hSw; (try dsimp only at hSw); (first | (go_simp; done) | (go_simp; with_reducible rfl)))); simp only [Act.put, List.setIfInBounds_toArray, List.set_cons_zero, List.set_cons_succ]
              refine WH.take 12 _ ?_ rfl (by kernel_rfl) (fun _ _ _ h => h) rfl (by assumption) ?_ ?_; rotate_left; (focus (intro w hSw; (try dsimp only at hSw); (first | (go_simp; done) | (go_simp; with_reducible rfl)))); simp only [Act.put, List.setIfInBounds_toArray, List.set_cons_zero, List.set_cons_succ]
              refine WH.take 13 _ ?_ rfl (by kernel_rfl) (fun _ _ _ h => h) rfl (by assumption) ?_ ?_; rotate_left; (focus (intro w hSw; (try dsimp only at hSw); (first | (go_simp; done) | (go_simp; with_reducible rfl)))); simp only [Act.put, List.setIfInBounds_toArray, List.set_cons_zero, List.set_cons_succ]
              refine WH.take 14 _ ?_ rfl (by kernel_rfl) (fun _ _ _ h => h) rfl (by assumption) ?_ ?_; rotate_left; (focus (intro w hSw; (try dsimp only at hSw); (first | (go_simp; done) | (go_simp; with_reducible rfl)))); simp only [Act.put, List.setIfInBounds_toArray, List.set_cons_zero, List.set_cons_succ]
              refine WH.take 15 _ ?_ rfl (by kernel_rfl) (fun _ _ _ h => h) rfl (by assumption) ?_ ?_; rotate_left; (focus (intro w hSw; (try dsimp only at hSw); (first | (go_simp; done) | (go_simp; with_reducible rfl)))); simp only [Act.put, List.setIfInBounds_toArray, List.set_cons_zero, List.set_cons_succ]
              refine WH.take 16 _ ?_ rfl (by kernel_rfl) (fun _ _ _ h => h) rfl (by assumption) ?_ ?_; rotate_left; (focus (intro w hSw; (try dsimp only at hSw); (first | (go_simp; done) | (go_simp; with_reducible rfl)))); simp only [Act.put, List.setIfInBounds_toArray, List.set_cons_zero, List.set_cons_succ]
              refine WH.take 17 _ ?_ rfl (by kernel_rfl) (fun _ _ _ h => h) rfl (by assumption) ?_ ?_; rotate_left; (focus (intro w hSw; (try dsimp only at hSw); (first | (go_simp; done) | (go_simp; with_reducible rfl)))); simp only [Act.put, List.setIfInBounds_toArray, List.set_cons_zero, List.set_cons_succ]
              refine WH.take 18 _ ?_ rfl (by kernel_rfl) (fun _ _ _ h => h) rfl (by assumption) ?_ ?_; rotate_left; (focus (intro w hSw; (try dsimp only at hSw); (first | (go_simp; done) | (go_simp; with_reducible rfl)))); simp only [Act.put, List.setIfInBounds_toArray, List.set_cons_zero, List.set_cons_succ]
              refine WH.skip 19 _ rfl (by kernel_rfl) (fun _ _ _ h => h) rfl (by assumption) ?_; simp only [Act.put, List.setIfInBounds_toArray, List.set_cons_zero, List.set_cons_succ]
              refine WH.skip 20 _ rfl (by kernel_rfl) (fun _ _ _ h => h) rfl (by assumption) ?_; simp only [Act.put, List.setIfInBounds_toArray, List.set_cons_zero, List.set_cons_succ]
              refine WH.onlySkip 21 _ rfl (by kernel_rfl) rfl (by assumption) ?_; simp only [Act.put, List.setIfInBounds_toArray, List.set_cons_zero, List.set_cons_succ]
              refine WH.take 22 _ ?_ rfl (by kernel_rfl) (fun _ _ _ h => h) rfl (by assumption) ?_ ?_; rotate_left; (focus (intro w hSw; (try dsimp only at hSw); (first | (go_simp; done) | (go_simp; with_reducible rfl)))); simp only [Act.put, List.setIfInBounds_toArray, List.set_cons_zero, List.set_cons_succ]
              refine WH.take 23 _ ?_ rfl (by kernel_rfl) (fun _ _ _ h => h) rfl (by assumption) ?_ ?_; rotate_left; (focus (intro w hSw; (try dsimp only at hSw); (first | (go_simp; done) | (go_simp; with_reducible rfl)))); simp only [Act.put, List.setIfInBounds_toArray, List.set_cons_zero, List.set_cons_succ]
              refine WH.take 24 _ ?_ rfl (by kernel_rfl) (fun _ _ _ h => h) rfl (by assumption) ?_ ?_; rotate_left; (focus (intro w hSw; (try dsimp only at hSw); (first | (go_simp; done) | (go_simp; with_reducible rfl)))); simp only [Act.put, List.setIfInBounds_toArray, List.set_cons_zero, List.set_cons_succ]
              refine WH.take 25 _ ?_ rfl (by kernel_rfl) (fun _ _ _ h => h) rfl (by assumption) ?_ ?_; rotate_left; (focus (intro w hSw; (try dsimp only at hSw); (first | (go_simp; done) | (go_simp; with_reducible rfl)))); simp only [Act.put, List.setIfInBounds_toArray, List.set_cons_zero, List.set_cons_succ]
              refine WH.take 26 _ ?_ rfl (by kernel_rfl) (fun _ _ _ h => h) rfl (by assumption) ?_ ?_; rotate_left; (focus (intro w hSw; (try dsimp only at hSw); (first | (go_simp; done) | (go_simp; with_reducible rfl)))); simp only [Act.put, List.setIfInBounds_toArray, List.set_cons_zero, List.set_cons_succ]
              refine WH.take 27 _ ?_ rfl (by kernel_rfl) (fun _ _ _ h => h) rfl (by assumption) ?_ ?_; rotate_left; (focus (intro w hSw; (try dsimp only at hSw); (first | (go_simp; done) | (go_simp; with_reducible rfl)))); simp only [Act.put, List.setIfInBounds_toArray, List.set_cons_zero, List.set_cons_succ]
              refine WH.take 28 _ ?_ rfl (by kernel_rfl) (fun _ _ _ h => h) rfl (by assumption) ?_ ?_; rotate_left; (focus (intro w hSw; (try dsimp only at hSw); (first | (go_simp; done) | (go_simp; with_reducible rfl)))); simp only [Act.put, List.setIfInBounds_toArray, List.set_cons_zero, List.set_cons_succ]
              refine WH.take 29 _ ?_ rfl (by kernel_rfl) (fun _ _ _ h => h) rfl (by assumption) ?_ ?_; rotate_left; (focus (intro w hSw; (try dsimp only at hSw); (first | (go_simp; done) | (go_simp; with_reducible rfl)))); simp only [Act.put, List.setIfInBounds_toArray, List.set_cons_zero, List.set_cons_succ]
              refine WH.skip 30 _ rfl (by kernel_rfl) (fun _ _ _ h => h) rfl (by assumption) ?_; simp only [Act.put, List.setIfInBounds_toArray, List.set_cons_zero, List.set_cons_succ]
              refine WH.skip 31 _ rfl (by kernel_rfl) (fun _ _ _ h => h) rfl (by assumption) ?_; simp only [Act.put, List.setIfInBounds_toArray, List.set_cons_zero, List.set_cons_succ]
              refine WH.onlySkip 32 _ rfl (by kernel_rfl) rfl (by assumption) ?_; simp only [Act.put, List.setIfInBounds_toArray, List.set_cons_zero, List.set_cons_succ]
              refine WH.skip 33 _ rfl (by kernel_rfl) (fun _ _ _ h => h) rfl (by assumption) ?_; simp only [Act.put, List.setIfInBounds_toArray, List.set_cons_zero, List.set_cons_succ]
              refine WH.take 34 _ ?_ rfl (by kernel_rfl) (fun _ _ _ h => h) rfl (by assumption) ?_ ?_; rotate_left; (focus (intro w hSw; (try dsimp only at hSw); (first | (go_simp; done) | (go_simp; with_reducible rfl)))); simp only [Act.put, List.setIfInBounds_toArray, List.set_cons_zero, List.set_cons_succ]
              refine WH.take 35 _ ?_ rfl (by kernel_rfl) (fun _ _ _ h => h) rfl (by assumption) ?_ ?_; rotate_left; (focus (intro w hSw; (try dsimp only at hSw); (first | (go_simp; done) | (go_simp; with_reducible rfl)))); simp only [Act.put, List.setIfInBounds_toArray, List.set_cons_zero, List.set_cons_succ]
              refine WH.done (by kernel_rfl) ?_
              have Hfin := Lib.hid (bt Hbw2.out hSn.2)
              clear hSn
              go_wp2_with fail
              go_roundw
              case rel => exact ⟨j + 1, by omega, by go_num, Hfin.out⟩
              case measure => simp [intOf]; omega
            · go_wp2_with fail
              refine WH.start (S := fun w' : World => w'.cell? ⟨w3.heap.size, j, none⟩ = some (.int .i64 1) ∧ Below wr.heap.size wr w') [false, false, false, false, false, false, false, false, false, false, false, false, false, false, false, false, false, false, false, false, false, false, false, false, false, false, false, false, false, false, false, false, false, false, false, false] 36 rfl rfl (by kernel_rfl) ⟨hcj, bdrew wr 1⟩ (fun hSn => ?_)
              refine WH.take 0 _ ?_ rfl (by kernel_rfl) (fun _ _ _ h => h) rfl (by assumption) ?_ ?_; rotate_left; (focus (intro w hSw; (try dsimp only at hSw); (first | (go_simp; done) | (go_simp; with_reducible rfl)))); simp only [Act.put, List.setIfInBounds_toArray, List.set_cons_zero, List.set_cons_succ]
              refine WH.take 1 _ ?_ rfl (by kernel_rfl) (fun _ _ _ h => h) rfl (by assumption) ?_ ?_; rotate_left; (focus (intro w hSw; (try dsimp only at hSw); (first | (go_simp; done) | (go_simp; with_reducible rfl)))); simp only [Act.put, List.setIfInBounds_toArray, List.set_cons_zero, List.set_cons_succ]
              refine WH.take 2 _ ?_ rfl (by kernel_rfl) (fun _ _ _ h => h) rfl (by assumption) ?_ ?_; rotate_left; (focus (intro w hSw; (try dsimp only at hSw); (first | (go_simp; done) | (go_simp; with_reducible rfl)))); simp only [Act.put, List.setIfInBounds_toArray, List.set_cons_zero, List.set_cons_succ]
              refine WH.take 3 _ ?_ rfl (by kernel_rfl) (fun _ _ _ h => h) rfl (by assumption) ?_ ?_; rotate_left; (focus (intro w hSw; (try dsimp only at hSw); (first | (go_simp; done) | (go_simp; with_reducible rfl)))); simp only [Act.put, List.setIfInBounds_toArray, List.set_cons_zero, List.set_cons_succ]
              refine WH.take 4 _ ?_ rfl (by kernel_rfl) (fun _ _ _ h => h) rfl (by assumption) ?_ ?_; rotate_left; (focus (intro w hSw; (try dsimp only at hSw); (first | (go_simp; done) | (go_simp; with_reducible rfl)))); simp only [Act.put, List.setIfInBounds_toArray, List.set_cons_zero, List.set_cons_succ]
              refine WH.skip 5 _ rfl (by kernel_rfl) (fun _ _ _ h => h) rfl (by assumption) ?_; simp only [Act.put, List.setIfInBounds_toArray, List.set_cons_zero, List.set_cons_succ]
              refine WH.skip 6 _ rfl (by kernel_rfl) (fun _ _ _ h => h) rfl (by assumption) ?_; simp only [Act.put, List.setIfInBounds_toArray, List.set_cons_zero, List.set_cons_succ]
              refine WH.skip 8 _ rfl (by kernel_rfl) (fun _ _ _ h => h) rfl (by assumption) ?_; simp only [Act.put, List.setIfInBounds_toArray, List.set_cons_zero, List.set_cons_succ]
              refine WH.skip 9 _ rfl (by kernel_rfl) (fun _ _ _ h => h) rfl (by assumption) ?_; simp only [Act.put, List.setIfInBounds_toArray, List.set_cons_zero, List.set_cons_succ]
              refine WH.onlySkip 7 _ rfl (by kernel_rfl) rfl (by assumption) ?_; simp only [Act.put, List.setIfInBounds_toArray, List.set_cons_zero, List.set_cons_succ]
              refine WH.onlySkip 10 _ rfl (by kernel_rfl) rfl (by assumption) ?_; simp only [Act.put, List.setIfInBounds_toArray, List.set_cons_zero, List.set_cons_succ]
              refine WH.skip 11 _ rfl (by kernel_rfl) (fun _ _ _ h => h) rfl (by assumption) ?_; simp only [Act.put, List.setIfInBounds_toArray, List.set_cons_zero, List.set_cons_succ]
              refine WH.take 12 _ ?_ rfl (by kernel_rfl) (fun _ _ _ h => h) rfl (by assumption) ?_ ?_; rotate_left; (focus (intro w hSw; (try dsimp only at hSw); (first | (go_simp; done) | (go_simp; with_reducible rfl)))); simp only [Act.put, List.setIfInBounds_toArray, List.set_cons_zero, List.set_cons_succ]
              refine WH.take 13 _ ?_ rfl (by kernel_rfl) (fun _ _ _ h => h) rfl (by assumption) ?_ ?_; rotate_left; (focus (intro w hSw; (try dsimp only at hSw); (first | (go_simp; done) | (go_simp; with_reducible rfl)))); simp only [Act.put, List.setIfInBounds_toArray, List.set_cons_zero, List.set_cons_succ]
              refine WH.take 14 _ ?_ rfl (by kernel_rfl) (fun _ _ _ h => h) rfl (by assumption) ?_ ?_; rotate_left; (focus (intro w hSw; (try dsimp only at hSw); (first | (go_simp; done) | (go_simp; with_reducible rfl)))); simp only [Act.put, List.setIfInBounds_toArray, List.set_cons_zero, List.set_cons_succ]
              refine WH.take 15 _ ?_ rfl (by kernel_rfl) (fun _ _ _ h => h) rfl (by assumption) ?_ ?_; rotate_left; (focus (intro w hSw; (try dsimp only at hSw); (first | (go_simp; done) | (go_simp; with_reducible rfl)))); simp only [Act.put, List.setIfInBounds_toArray, List.set_cons_zero, List.set_cons_succ]
              refine WH.take 16 _ ?_ rfl (by kernel_rfl) (fun _ _ _ h => h) rfl (by assumption) ?_ ?_; rotate_left; (focus (intro w hSw; (try dsimp only at hSw); (first | (go_simp; done) | (go_simp; with_reducible rfl)))); simp only [Act.put, List.setIfInBounds_toArray, List.set_cons_zero, List.set_cons_succ]
              refine WH.take 17 _ ?_ rfl (by kernel_rfl) (fun _ _ _ h => h) rfl (by assumption) ?_ ?_; rotate_left; (focus (intro w hSw; (try dsimp only at hSw); (first | (go_simp; done) | (go_simp; with_reducible rfl)))); simp only [Act.put, List.setIfInBounds_toArray, List.set_cons_zero, List.set_cons_succ]
              refine WH.take 18 _ ?_ rfl (by kernel_rfl) (fun _ _ _ h => h) rfl (by assumption) ?_ ?_; rotate_left; (focus (intro w hSw; (try dsimp only at hSw); (first | (go_simp; done) | (go_simp; with_reducible rfl)))); simp only [Act.put, List.setIfInBounds_toArray, List.set_cons_zero, List.set_cons_succ]
              refine WH.take 19 _ _ rfl (by kernel_rfl) (fun _ _ _ h => h) rfl (by assumption) (fun w' hSw => run_load_arr _ _ rfl _ rfl _ _ (Hx2.out.ext hSw.2) _ _ (Try.underlying23) (Try.blockFits HX.out)) ?_; simp only [Act.put, List.setIfInBounds_toArray, List.set_cons_zero, List.set_cons_succ]
              refine WH.take 20 _ ?_ rfl (by kernel_rfl) (fun _ _ _ h => h) rfl (by assumption) ?_ ?_; rotate_left; (focus (intro w hSw; (try dsimp only at hSw); (first | (go_simp; done) | (go_simp; with_reducible rfl)))); simp only [Act.put, List.setIfInBounds_toArray, List.set_cons_zero, List.set_cons_succ]
              refine WH.only 21 _ rfl (by kernel_rfl) rfl (fun K hK => ?_); go_simp; refine (has_any X HX.out _ _).mono ?_; rintro e wa ⟨rfl, hwa⟩; go_simp
              rw [HJX.out]
              have hSn := kept hSn hwa; refine hK _ _ hSn ?_; clear hK; clear K; simp only [List.set_cons_zero, List.set_cons_succ]
              refine WH.take 22 _ ?_ rfl (by kernel_rfl) (fun _ _ _ h => h) rfl (by assumption) ?_ ?_; rotate_left; (focus (intro w hSw; (try dsimp only at hSw); (first | (go_simp; done) | (go_simp; with_reducible rfl)))); simp only [Act.put, List.setIfInBounds_toArray, List.set_cons_zero, List.set_cons_succ]
              refine WH.take 23 _ ?_ rfl (by kernel_rfl) (fun _ _ _ h => h) rfl (by assumption) ?_ ?_; rotate_left; (focus (intro w hSw; (try dsimp only at hSw); (first | (go_simp; done) | (go_simp; with_reducible rfl)))); simp only [Act.put, List.setIfInBounds_toArray, List.set_cons_zero, List.set_cons_succ]
              refine WH.take 24 _ ?_ rfl (by kernel_rfl) (fun _ _ _ h => h) rfl (by assumption) ?_ ?_; rotate_left; (focus (intro w hSw; (try dsimp only at hSw); (first | (go_simp; done) | (go_simp; with_reducible rfl)))); simp only [Act.put, List.setIfInBounds_toArray, List.set_cons_zero, List.set_cons_succ]
              refine WH.take 25 _ ?_ rfl (by kernel_rfl) (fun _ _ _ h => h) rfl (by assumption) ?_ ?_; rotate_left; (focus (intro w hSw; (try dsimp only at hSw); (first | (go_simp; done) | (go_simp; with_reducible rfl)))); simp only [Act.put, List.setIfInBounds_toArray, List.set_cons_zero, List.set_cons_succ]
              refine WH.take 26 _ ?_ rfl (by kernel_rfl) (fun _ _ _ h => h) rfl (by assumption) ?_ ?_; rotate_left; (focus (intro w hSw; (try dsimp only at hSw); (first | (go_simp; done) | (go_simp; with_reducible rfl)))); simp only [Act.put, List.setIfInBounds_toArray, List.set_cons_zero, List.set_cons_succ]
              refine WH.take 27 _ ?_ rfl (by kernel_rfl) (fun _ _ _ h => h) rfl (by assumption) ?_ ?_; rotate_left; (focus (intro w hSw; (try dsimp only at hSw); (first | (go_simp; done) | (go_simp; with_reducible rfl)))); simp only [Act.put, List.setIfInBounds_toArray, List.set_cons_zero, List.set_cons_succ]
              refine WH.take 28 _ ?_ rfl (by kernel_rfl) (fun _ _ _ h => h) rfl (by assumption) ?_ ?_; rotate_left; (focus (intro w hSw; (try dsimp only at hSw); (first | (go_simp; done) | (go_simp; with_reducible rfl)))); simp only [Act.put, List.setIfInBounds_toArray, List.set_cons_zero, List.set_cons_succ]
              refine WH.take 29 _ ?_ rfl (by kernel_rfl) (fun _ _ _ h => h) rfl (by assumption) ?_ ?_; rotate_left; (focus (intro w hSw; (try dsimp only at hSw); (first | (go_simp; done) | (go_simp; with_reducible rfl)))); simp only [Act.put, List.setIfInBounds_toArray, List.set_cons_zero, List.set_cons_succ]
              refine WH.skip 30 _ rfl (by kernel_rfl) (fun _ _ _ h => h) rfl (by assumption) ?_; simp only [Act.put, List.setIfInBounds_toArray, List.set_cons_zero, List.set_cons_succ]
              refine WH.skip 31 _ rfl (by kernel_rfl) (fun _ _ _ h => h) rfl (by assumption) ?_; simp only [Act.put, List.setIfInBounds_toArray, List.set_cons_zero, List.set_cons_succ]
              refine WH.onlySkip 32 _ rfl (by kernel_rfl) rfl (by assumption) ?_; simp only [Act.put, List.setIfInBounds_toArray, List.set_cons_zero, List.set_cons_succ]
              refine WH.skip 33 _ rfl (by kernel_rfl) (fun _ _ _ h => h) rfl (by assumption) ?_; simp only [Act.put, List.setIfInBounds_toArray, List.set_cons_zero, List.set_cons_succ]
              refine WH.take 34 _ ?_ rfl (by kernel_rfl) (fun _ _ _ h => h) rfl (by assumption) ?_ ?_; rotate_left; (focus (intro w hSw; (try dsimp only at hSw); (first | (go_simp; done) | (go_simp; with_reducible rfl)))); simp only [Act.put, List.setIfInBounds_toArray, List.set_cons_zero, List.set_cons_succ]
              refine WH.take 35 _ ?_ rfl (by kernel_rfl) (fun _ _ _ h => h) rfl (by assumption) ?_ ?_; rotate_left; (focus (intro w hSw; (try dsimp only at hSw); (first | (go_simp; done) | (go_simp; with_reducible rfl)))); simp only [Act.put, List.setIfInBounds_toArray, List.set_cons_zero, List.set_cons_succ]
              refine WH.done (by kernel_rfl) ?_
              have Hfin := Lib.hid (bt Hbw2.out hSn.2)
              clear hSn
              go_wp2_with fail
              go_roundw
              case rel => exact ⟨j + 1, by omega, by go_num, Hfin.out⟩
              case measure => simp [intOf]; omega
            · go_wp2_with fail
              refine WH.start (S := fun w' : World => w'.cell? ⟨w3.heap.size, j, none⟩ = some (.int .i64 2) ∧ Below wr.heap.size wr w') [false, false, false, false, false, false, false, false, false, false, false, false, false, false, false, false, false, false, false, false, false, false, false, false, false, false, false, false, false, false, false, false, false, false, false, false] 36 rfl rfl (by kernel_rfl) ⟨hcj, bdrew wr 1⟩ (fun hSn => ?_)
              refine WH.take 0 _ ?_ rfl (by kernel_rfl) (fun _ _ _ h => h) rfl (by assumption) ?_ ?_; rotate_left; (focus (intro w hSw; (try dsimp only at hSw); (first | (go_simp; done) | (go_simp; with_reducible rfl)))); simp only [Act.put, List.setIfInBounds_toArray, List.set_cons_zero, List.set_cons_succ]
              refine WH.take 1 _ ?_ rfl (by kernel_rfl) (fun _ _ _ h => h) rfl (by assumption) ?_ ?_; rotate_left; (focus (intro w hSw; (try dsimp only at hSw); (first | (go_simp; done) | (go_simp; with_reducible rfl)))); simp only [Act.put, List.setIfInBounds_toArray, List.set_cons_zero, List.set_cons_succ]
              refine WH.take 2 _ ?_ rfl (by kernel_rfl) (fun _ _ _ h => h) rfl (by assumption) ?_ ?_; rotate_left; (focus (intro w hSw; (try dsimp only at hSw); (first | (go_simp; done) | (go_simp; with_reducible rfl)))); simp only [Act.put, List.setIfInBounds_toArray, List.set_cons_zero, List.set_cons_succ]
              refine WH.take 3 _ ?_ rfl (by kernel_rfl) (fun _ _ _ h => h) rfl (by assumption) ?_ ?_; rotate_left; (focus (intro w hSw; (try dsimp only at hSw); (first | (go_simp; done) | (go_simp; with_reducible rfl)))); simp only [Act.put, List.setIfInBounds_toArray, List.set_cons_zero, List.set_cons_succ]
              refine WH.take 4 _ ?_ rfl (by kernel_rfl) (fun _ _ _ h => h) rfl (by assumption) ?_ ?_; rotate_left; (focus (intro w hSw; (try dsimp only at hSw); (first | (go_simp; done) | (go_simp; with_reducible rfl)))); simp only [Act.put, List.setIfInBounds_toArray, List.set_cons_zero, List.set_cons_succ]
              refine WH.skip 5 _ rfl (by kernel_rfl) (fun _ _ _ h => h) rfl (by assumption) ?_; simp only [Act.put, List.setIfInBounds_toArray, List.set_cons_zero, List.set_cons_succ]
              refine WH.skip 6 _ rfl (by kernel_rfl) (fun _ _ _ h => h) rfl (by assumption) ?_; simp only [Act.put, List.setIfInBounds_toArray, List.set_cons_zero, List.set_cons_succ]
              refine WH.skip 8 _ rfl (by kernel_rfl) (fun _ _ _ h => h) rfl (by assumption) ?_; simp only [Act.put, List.setIfInBounds_toArray, List.set_cons_zero, List.set_cons_succ]
              refine WH.skip 9 _ rfl (by kernel_rfl) (fun _ _ _ h => h) rfl (by assumption) ?_; simp only [Act.put, List.setIfInBounds_toArray, List.set_cons_zero, List.set_cons_succ]
              refine WH.onlySkip 7 _ rfl (by kernel_rfl) rfl (by assumption) ?_; simp only [Act.put, List.setIfInBounds_toArray, List.set_cons_zero, List.set_cons_succ]
              refine WH.onlySkip 10 _ rfl (by kernel_rfl) rfl (by assumption) ?_; simp only [Act.put, List.setIfInBounds_toArray, List.set_cons_zero, List.set_cons_succ]
              refine WH.skip 11 _ rfl (by kernel_rfl) (fun _ _ _ h => h) rfl (by assumption) ?_; simp only [Act.put, List.setIfInBounds_toArray, List.set_cons_zero, List.set_cons_succ]
              refine WH.take 12 _ ?_ rfl (by kernel_rfl) (fun _ _ _ h => h) rfl (by assumption) ?_ ?_; rotate_left; (focus (intro w hSw; (try dsimp only at hSw); (first | (go_simp; done) | (go_simp; with_reducible rfl)))); simp only [Act.put, List.setIfInBounds_toArray, List.set_cons_zero, List.set_cons_succ]
              refine WH.take 13 _ ?_ rfl (by kernel_rfl) (fun _ _ _ h => h) rfl (by assumption) ?_ ?_; rotate_left; (focus (intro w hSw; (try dsimp only at hSw); (first | (go_simp; done) | (go_simp; with_reducible rfl)))); simp only [Act.put, List.setIfInBounds_toArray, List.set_cons_zero, List.set_cons_succ]
              refine WH.take 14 _ ?_ rfl (by kernel_rfl) (fun _ _ _ h => h) rfl (by assumption) ?_ ?_; rotate_left; (focus (intro w hSw; (try dsimp only at hSw); (first | (go_simp; done) | (go_simp; with_reducible rfl)))); simp only [Act.put, List.setIfInBounds_toArray, List.set_cons_zero, List.set_cons_succ]
              refine WH.take 15 _ ?_ rfl (by kernel_rfl) (fun _ _ _ h => h) rfl (by assumption) ?_ ?_; rotate_left; (focus (intro w hSw; (try dsimp only at hSw); (first | (go_simp; done) | (go_simp; with_reducible rfl)))); simp only [Act.put, List.setIfInBounds_toArray, List.set_cons_zero, List.set_cons_succ]
              refine WH.take 16 _ ?_ rfl (by kernel_rfl) (fun _ _ _ h => h) rfl (by assumption) ?_ ?_; rotate_left; (focus (intro w hSw; (try dsimp only at hSw); (first | (go_simp; done) | (go_simp; with_reducible rfl)))); simp only [Act.put, List.setIfInBounds_toArray, List.set_cons_zero, List.set_cons_succ]
              refine WH.take 17 _ ?_ rfl (by kernel_rfl) (fun _ _ _ h => h) rfl (by assumption) ?_ ?_; rotate_left; (focus (intro w hSw; (try dsimp only at hSw); (first | (go_simp; done) | (go_simp; with_reducible rfl)))); simp only [Act.put, List.setIfInBounds_toArray, List.set_cons_zero, List.set_cons_succ]
              refine WH.take 18 _ ?_ rfl (by kernel_rfl) (fun _ _ _ h => h) rfl (by assumption) ?_ ?_; rotate_left; (focus (intro w hSw; (try dsimp only at hSw); (first | (go_simp; done) | (go_simp; with_reducible rfl)))); simp only [Act.put, List.setIfInBounds_toArray, List.set_cons_zero, List.set_cons_succ]
              refine WH.skip 19 _ rfl (by kernel_rfl) (fun _ _ _ h => h) rfl (by assumption) ?_; simp only [Act.put, List.setIfInBounds_toArray, List.set_cons_zero, List.set_cons_succ]
              refine WH.skip 20 _ rfl (by kernel_rfl) (fun _ _ _ h => h) rfl (by assumption) ?_; simp only [Act.put, List.setIfInBounds_toArray, List.set_cons_zero, List.set_cons_succ]
              refine WH.onlySkip 21 _ rfl (by kernel_rfl) rfl (by assumption) ?_; simp only [Act.put, List.setIfInBounds_toArray, List.set_cons_zero, List.set_cons_succ]
              refine WH.take 22 _ ?_ rfl (by kernel_rfl) (fun _ _ _ h => h) rfl (by assumption) ?_ ?_; rotate_left; (focus (intro w hSw; (try dsimp only at hSw); (first | (go_simp; done) | (go_simp; with_reducible rfl)))); simp only [Act.put, List.setIfInBounds_toArray, List.set_cons_zero, List.set_cons_succ]
              refine WH.take 23 _ ?_ rfl (by kernel_rfl) (fun _ _ _ h => h) rfl (by assumption) ?_ ?_; rotate_left; (focus (intro w hSw; (try dsimp only at hSw); (first | (go_simp; done) | (go_simp; with_reducible rfl)))); simp only [Act.put, List.setIfInBounds_toArray, List.set_cons_zero, List.set_cons_succ]
              refine WH.take 24 _ ?_ rfl (by kernel_rfl) (fun _ _ _ h => h) rfl (by assumption) ?_ ?_; rotate_left; (focus (intro w hSw; (try dsimp only at hSw); (first | (go_simp; done) | (go_simp; with_reducible rfl)))); simp only [Act.put, List.setIfInBounds_toArray, List.set_cons_zero, List.set_cons_succ]
              refine WH.take 25 _ ?_ rfl (by kernel_rfl) (fun _ _ _ h => h) rfl (by assumption) ?_ ?_; rotate_left; (focus (intro w hSw; (try dsimp only at hSw); (first | (go_simp; done) | (go_simp; with_reducible rfl)))); simp only [Act.put, List.setIfInBounds_toArray, List.set_cons_zero, List.set_cons_succ]
              refine WH.take 26 _ ?_ rfl (by kernel_rfl) (fun _ _ _ h => h) rfl (by assumption) ?_ ?_; rotate_left; (focus (intro w hSw; (try dsimp only at hSw); (first | (go_simp; done) | (go_simp; with_reducible rfl)))); simp only [Act.put, List.setIfInBounds_toArray, List.set_cons_zero, List.set_cons_succ]
              refine WH.take 27 _ ?_ rfl (by kernel_rfl) (fun _ _ _ h => h) rfl (by assumption) ?_ ?_; rotate_left; (focus (intro w hSw; (try dsimp only at hSw); (first | (go_simp; done) | (go_simp; with_reducible rfl)))); simp only [Act.put, List.setIfInBounds_toArray, List.set_cons_zero, List.set_cons_succ]
              refine WH.take 28 _ ?_ rfl (by kernel_rfl) (fun _ _ _ h => h) rfl (by assumption) ?_ ?_; rotate_left; (focus (intro w hSw; (try dsimp only at hSw); (first | (go_simp; done) | (go_simp; with_reducible rfl)))); simp only [Act.put, List.setIfInBounds_toArray, List.set_cons_zero, List.set_cons_succ]
              refine WH.take 29 _ ?_ rfl (by kernel_rfl) (fun _ _ _ h => h) rfl (by assumption) ?_ ?_; rotate_left; (focus (intro w hSw; (try dsimp only at hSw); (first | (go_simp; done) | (go_simp; with_reducible rfl)))); simp only [Act.put, List.setIfInBounds_toArray, List.set_cons_zero, List.set_cons_succ]
              refine WH.take 30 _ _ rfl (by kernel_rfl) (fun _ _ _ h => h) rfl (by assumption) (fun w' hSw => run_load_arr _ _ rfl _ rfl _ _ (Hx2.out.ext hSw.2) _ _ (Try.underlying23) (Try.blockFits HX.out)) ?_; simp only [Act.put, List.setIfInBounds_toArray, List.set_cons_zero, List.set_cons_succ]
              refine WH.take 31 _ ?_ rfl (by kernel_rfl) (fun _ _ _ h => h) rfl (by assumption) ?_ ?_; rotate_left; (focus (intro w hSw; (try dsimp only at hSw); (first | (go_simp; done) | (go_simp; with_reducible rfl)))); simp only [Act.put, List.setIfInBounds_toArray, List.set_cons_zero, List.set_cons_succ]
              refine WH.only 32 _ rfl (by kernel_rfl) rfl (fun K hK => ?_); go_simp; refine (has_any X HX.out _ _).mono ?_; rintro e wa ⟨rfl, hwa⟩; go_simp
              rw [HJX.out]
              have hSn := kept hSn hwa; refine hK _ _ hSn ?_; clear hK; clear K; simp only [List.set_cons_zero, List.set_cons_succ]
              refine WH.take 33 _ ?_ rfl (by kernel_rfl) (fun _ _ _ h => h) rfl (by assumption) ?_ ?_; rotate_left; (focus (intro w hSw; (try dsimp only at hSw); (first | (go_simp; done) | (go_simp; with_reducible rfl)))); simp only [Act.put, List.setIfInBounds_toArray, List.set_cons_zero, List.set_cons_succ]
              refine WH.take 34 _ ?_ rfl (by kernel_rfl) (fun _ _ _ h => h) rfl (by assumption) ?_ ?_; rotate_left; (focus (intro w hSw; (try dsimp only at hSw); (first | (go_simp; done) | (go_simp; with_reducible rfl)))); simp only [Act.put, List.setIfInBounds_toArray, List.set_cons_zero, List.set_cons_succ]
              refine WH.take 35 _ ?_ rfl (by kernel_rfl) (fun _ _ _ h => h) rfl (by assumption) ?_ ?_; rotate_left; (focus (intro w hSw; (try dsimp only at hSw); (first | (go_simp; done) | (go_simp; with_reducible rfl)))); simp only [Act.put, List.setIfInBounds_toArray, List.set_cons_zero, List.set_cons_succ]
              refine WH.done (by kernel_rfl) ?_
              have Hfin := Lib.hid (bt Hbw2.out hSn.2)
              clear hSn
              go_wp2_with fail
              go_roundw
              case rel => exact ⟨j + 1, by omega, by go_num, Hfin.out⟩
              case measure => simp [intOf]; omega
          · have d2 : decide ((j : Int) < 2048) = false := by simp; omega
            go_wp2_with fail
            refine (works04_any _).mono ?_; rintro e w8 ⟨rfl, hb8⟩
            have Hb8 := Lib.hid (bt Hbw2.out hb8)
            clear hb8
            go_wp2_with fail
            go_ret
            exact ⟨rfl, bt Hbw.out Hb8.out⟩
  · have d1 : decide ((60 : Int) < n) = true := by simp; omega
    go_enter Try.func6, Try.ntmps6
    go_wp2_with (refine wpList_box_row rfl _ _ rfl _ rfl ?_)
    apply Stop.go; intro w1 Hg1 Hb1
    go_wp2_with fail
    refine (works04_any _).mono ?_; rintro e w3 ⟨rfl, hb3⟩
    have Hb3 := Lib.hid hb3
    clear hb3
    go_wp2_with fail
    go_ret
    exact ⟨rfl, bt Hg1.out.1 Hb3.out⟩

end Go.Proofs.Ytcoefbgidfgblaa
