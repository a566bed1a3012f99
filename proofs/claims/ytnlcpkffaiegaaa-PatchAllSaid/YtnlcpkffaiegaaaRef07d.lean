/-
  The contract of the document's answer 07's Diff.
-/
import Derived.Test.YtnlcpkffaiegaaaPatL
import Derived.Test.YtnlcpkffaiegaaaPat5
namespace Go.Proofs.Ytnlcpkffaiegaaa
open Go.RowKit

theorem Try.bytesSize : (Try.prog.info? 23).map (·.size) = some 1 := by kernel_rfl
theorem same_bytes (x y : UInt8) : ((x.toNat : Int) == (y.toNat : Int)) = (x == y) := by
  rw [Bool.eq_iff_iff]
  simp only [beq_iff_eq]
  exact ⟨fun h => UInt8.toNat_inj.1 (by omega), fun h => by rw [h]⟩
theorem byteAt {w : World} {A : Option Addr} {l : List UInt8} (h : RB w A l) (k : Nat) (hk : k < l.length) : ∃ ad x, A = some ad ∧ l[k]? = some x ∧ w.cell? (ad.add k) = some (.int .u8 (x.toNat : Int)) := by
  obtain ⟨ad, e, hc⟩ := h k hk
  exact ⟨ad, l[k], e, List.getElem?_eq_getElem hk, hc⟩
/-- What the document's Diff has found, of the first k. -/
def DiffTo (w : World) (B : Nat) (u : Nat → Bool) (b : List UInt8) (k : Nat) (v : Value) : Prop :=
  ((k = 0 ∨ u (k - 1) = false) ∧ OwnP w B 25 v ((runsTo u k).map (ptOf b))) ∨
  (k ≠ 0 ∧ u (k - 1) = true ∧ ∃ (l0 : List (Nat × Nat)) (s n g cap : Nat) (cur : Array Value) (u0 : Value), runsTo u k = l0 ++ [(s, n)] ∧ v = .slice (some ⟨g, 0, none⟩) (l0.length + 1) cap ∧ StX w B 25 5 g cap cur u0 (l0.map (ptOf b)) s (ptOf b (s, n)).data)
theorem DiffTo.ownP {w : World} {B : Nat} {u : Nat → Bool} {b : List UInt8} {k : Nat} {v : Value} (h : DiffTo w B u b k v) : OwnP w B 25 v ((runsTo u k).map (ptOf b)) := by
  rcases h with h | ⟨_, _, l0, s, n, g, cap, cur, u0, hr, hv, hs⟩
  · exact h.2
  · rw [hr, hv, List.map_append]
    have := hs.ownP
    rw [List.length_map] at this
    exact this
theorem DiffTo.ext {w w' : World} {B : Nat} {u : Nat → Bool} {b : List UInt8} {k : Nat} {v : Value} (h : DiffTo w B u b k v) (hb : Below w.heap.size w w') : DiffTo w' B u b k v := by
  rcases h with ⟨h1, h2⟩ | ⟨h1, h2, l0, s, n, g, cap, cur, u0, hr, hv, hs⟩
  · exact Or.inl ⟨h1, h2.ext hb⟩
  · exact Or.inr ⟨h1, h2, l0, s, n, g, cap, cur, u0, hr, hv, hs.ext hb⟩
theorem DiffTo.next {w : World} {B : Nat} {u : Nat → Bool} {b : List UInt8} {k s n g cap : Nat} {y : UInt8} {l0 : List (Nat × Nat)} {cur : Array Value} {u1 : Value} {d : List UInt8} (hy : b[k]? = some y) (huk : u k = true) (hsn : s + n = k) (hr : runsTo u (k + 1) = l0 ++ [(s, n + 1)]) (hd : d = (ptOf b (s, n)).data)
    (h : StX w B 25 5 g cap cur u1 (l0.map (ptOf b)) s (d ++ [y])) : DiffTo w B u b (k + 1) (.slice (some ⟨g, 0, none⟩) (l0.length + 1) cap) := by
  refine Or.inr ⟨by omega, by rw [Nat.add_sub_cancel]; exact huk, l0, s, n + 1, g, cap, cur, u1, hr, rfl, ?_⟩
  have e : (ptOf b (s, n + 1)).data = d ++ [y] := by
    rw [hd]
    show (b.drop s).take (n + 1) = (b.drop s).take n ++ [y]
    have hk : n < (b.drop s).length := by
      have := (List.getElem?_eq_some_iff.1 hy).1
      simp; omega
    rw [List.take_succ_eq_append_getElem hk]
    congr 2
    have h2 : (b.drop s)[n]? = some y := by rw [List.getElem?_drop, hsn]; exact hy
    rw [List.getElem?_eq_getElem hk] at h2
    injection h2
  rw [e]
  exact h
set_option maxHeartbeats 4000000 in
theorem rdiff_any (A : Option Addr) (ca : Nat) (a : List UInt8) (ha : a.length = 256) (B : Option Addr) (cb : Nat) (b : List UInt8) (hb : b.length = 256) (w : World) (hra : RB w A a) (hrb : RB w B b) :
    Calls Try.prog 32 #[.slice A 256 ca, .slice B 256 cb] w (RetPL w (diffP a b)) := by
  have HA := Lib.hid ha
  have HB := Lib.hid hb
  have HRA := Lib.hid hra
  have HRB := Lib.hid hrb
  clear ha hb hra hrb
  obtain ⟨u, hu⟩ : ∃ u, unlike a b = u := ⟨_, rfl⟩
  have Hu := Lib.hid hu
  clear hu
  go_enter Try.func32, Try.ntmps32
  go_wp2_with fail
  go_loopw [5, 6] (fun o i wr => ∃ k : Nat, k ≤ 256 ∧ i = .int .i64 k ∧ DiffTo wr w.heap.size u b k o ∧ Below w.heap.size w wr) (fun _ i _ => 256 - (intOf i).toNat)
  case atStart => exact ⟨0, by omega, rfl, Or.inl ⟨Or.inl rfl, OwnP.nil_ _ _ _⟩, Below.refl _ _⟩
  case round =>
    obtain ⟨k, hk, rfl, hd, hbw⟩ := hrel
    have Hd := Lib.hid hd
    have Hbw := Lib.hid hbw
    clear hd hbw
    by_cases hlt : k < 256
    · have d0 : decide ((k : Int) < 256) = true := by simp; omega
      obtain ⟨ad, x, rfl, hx, c1⟩ := byteAt (HRA.out.below Hbw.out) k (by rw [HA.out]; exact hlt)
      obtain ⟨ad', y, rfl, hy, c2w⟩ := byteAt HRB.out k (by rw [HB.out]; exact hlt)
      have c2 := (Hbw.out.cell (block_lt_of_cell c2w)).trans c2w
      have Hyc := Lib.hid c2w
      clear c2w
      have hus := unlike_of hx hy
      rw [Hu.out] at hus
      have hks : (k : Int) < 256 := by omega
      have hxl := x.toNat_lt
      have hyl := y.toNat_lt
      have hsb := same_bytes x y
      cases huk : u k
      · have t1 : ((x.toNat : Int) == (y.toNat : Int)) = true := by
          rw [hsb]; rw [huk] at hus; simpa using hus.symm
        have Huk := Lib.hid huk
        clear hus hsb hx hy huk
        go_wp2_with fail
        go_quiet (fail)
        go_wp2_with fail
        go_roundw
        case rel => exact ⟨k + 1, by omega, by go_num, Or.inl ⟨Or.inr Huk.out, by rw [runs_off u k Huk.out]; exact Hd.out.ownP.ext (bdrew _ _)⟩, bt Hbw.out (bdrew _ _)⟩
        case measure => simp [intOf]; omega
      · have t1 : ((x.toNat : Int) == (y.toNat : Int)) = false := by
          rw [hsb]; rw [huk] at hus; simpa using hus.symm
        have Huk := Lib.hid huk
        have Hy := Lib.hid hy
        clear hus hsb hx hy huk
        go_wp2_with fail
        go_quiet (fail)
        have D5 := Lib.hid (bdrew wr nq)
        generalize wr.drewN nq = w5 at *
        have Hbw5 := Lib.hid (bt Hbw.out D5.out)
        have Hd5 := Lib.hid (Hd.out.ext D5.out)
        have Hrl := Lib.hid (runs_len u k)
        clear c1 c2 t1
        rcases Hd5.out with ⟨h1, ho⟩ | ⟨hk0, hk1, l0, s, n, g, cap, cur, u0, hr, rfl, hs⟩
        focus (
          have Ho := Lib.hid ho
          have Hnx := Lib.hid (runs_new u k Huk.out h1)
          clear ho
          by_cases hk0 : k = 0
          focus (
            have t3 : ((k : Int) == 0) = true := by rw [hk0]; rfl
            clear hk0 h1
            go_wp2_with fail
            go_quiet (fail)
            have D6 := Lib.hid (bdrew w5 nq)
            generalize w5.drewN nq = w6 at *)
          rotate_left
          focus (
            have t3 : ((k : Int) == 0) = false := by simp; omega
            obtain ⟨j, hj⟩ : ∃ j, k = j + 1 := ⟨k - 1, by omega⟩
            have hkj : (k : Int) - 1 = (j : Int) := by omega
            have huj : u j = false := by
              rcases h1 with h1 | h1
              · exact absurd h1 hk0
              · rw [hj, Nat.add_sub_cancel] at h1; exact h1
            obtain ⟨ad1, x', e1, hx', c3⟩ := byteAt (HRA.out.below Hbw5.out) j (by rw [HA.out]; omega)
            obtain ⟨ad2, y', e2, hy', c4⟩ := byteAt (HRB.out.below Hbw5.out) j (by rw [HB.out]; omega)
            injection e1 with e1
            injection e2 with e2
            subst e1
            subst e2
            have hu2 := unlike_of hx' hy'
            rw [Hu.out, huj] at hu2
            have t4 : ((x'.toNat : Int) == (y'.toNat : Int)) = true := by rw [same_bytes]; simpa using hu2.symm
            have hj2 : (j : Int) < 256 := by omega
            have hj3 : j < 256 := by omega
            clear hu2 hx' hy' huj h1 hj hk0
            go_wp2_with fail
            go_quiet (fail)
            have D6 := Lib.hid (bdrew w5 nq)
            generalize w5.drewN nq = w6 at *
            clear c3 c4 t4 hj2 hj3)
          rotate_left
          all_goals
            have Ho6 := Lib.hid (Ho.out.ext D6.out)
            have Hbw6 := Lib.hid (bt Hbw5.out D6.out)
            go_wp2_with (first | refine wpList_build_one rfl _ _ _ rfl Try.underlying42 _ _ Try.rpatchInfo rfl _ _ rfl ?_ | (at_builtin; refine wpList_append_start rfl _ _ _ _ rfl Try.underlying42 _ _ Try.rpatchInfo rfl w.heap.size _ _ Ho6.out 5 k (by omega) (by omega) rfl rfl Hbw6.out.size (by have := Hrl.out; rw [List.length_map]; omega) (by have := Hrl.out; rw [List.length_map]; omega) ?_))
            apply Stop.go
            intro g cap cur w7 hst hbw7
            have Hbw7 := Lib.hid (Hbw6.out.trans hbw7.out)
            have Hst := hst
            obtain ⟨d, hdd⟩ : ∃ d : List UInt8, [] = d := ⟨_, rfl⟩
            have Hfin := Lib.hid (fun (w' : World) (cur' : Array Value) (u1 : Value) (h : StX w' w.heap.size 25 5 g cap cur' u1 ((runsTo u k).map (ptOf b)) k (d ++ [y])) => DiffTo.next (n := 0) Hy.out Huk.out (Nat.add_zero k) Hnx.out (by rw [← hdd]; simp [ptOf]) h)
            generalize hL0 : (runsTo u k).map (ptOf b) = L0 at *
            have HL0 := Lib.hid (show L0.length = (runsTo u k).length by rw [← hL0, List.length_map])
            generalize (runsTo u k).length = m at *
            have Hml := Lib.hid (show m ≤ 256 by have := Hrl.out; omega)
            clear hst hbw7 hL0 Ho Ho6
            obtain ⟨u0, hu0⟩ : ∃ v : Value, Value.slice none 0 0 = v := ⟨_, rfl⟩
            obtain ⟨S, hS⟩ : ∃ S : Int, (k : Int) = S := ⟨_, rfl⟩
            have Hdl := Lib.hid (show d.length ≤ 256 by rw [← hdd]; exact Nat.zero_le _)
            rw [hu0, hdd, hS] at Hst
            rw [hS] at Hfin
            clear hu0 hdd hS)
        rotate_left 2
        focus (
          have ok := runs_ok u k
          have Hsn := Lib.hid (show s + n = k from ok.last l0 (s, n) hr hk0 hk1)
          have Hnx := Lib.hid (runs_more u k s n l0 Huk.out ⟨hk0, hk1⟩ hr)
          have t3 : ((k : Int) == 0) = false := by simp; omega
          obtain ⟨j, hj⟩ : ∃ j, k = j + 1 := ⟨k - 1, by omega⟩
          have hkj : (k : Int) - 1 = (j : Int) := by omega
          have huj : u j = true := by rw [hj, Nat.add_sub_cancel] at hk1; exact hk1
          obtain ⟨ad1, x', e1, hx', c3⟩ := byteAt (HRA.out.below Hbw5.out) j (by rw [HA.out]; omega)
          obtain ⟨ad2, y', e2, hy', c4⟩ := byteAt (HRB.out.below Hbw5.out) j (by rw [HB.out]; omega)
          injection e1 with e1
          injection e2 with e2
          subst e1
          subst e2
          have hu2 := unlike_of hx' hy'
          rw [Hu.out, huj] at hu2
          have t4 : ((x'.toNat : Int) == (y'.toNat : Int)) = false := by rw [same_bytes]; simpa using hu2.symm
          have hj2 : (j : Int) < 256 := by omega
          have hj3 : j < 256 := by omega
          have Hfin := Lib.hid (fun (w' : World) (cur' : Array Value) (u1 : Value) (h : StX w' w.heap.size 25 5 g cap cur' u1 (l0.map (ptOf b)) s ((ptOf b (s, n)).data ++ [y])) => DiffTo.next Hy.out Huk.out Hsn.out Hnx.out rfl h)
          have Hdl := Lib.hid (show (ptOf b (s, n)).data.length ≤ 256 from by
            show ((b.drop s).take n).length ≤ 256
            rw [List.length_take, List.length_drop, HB.out]; omega)
          have Hs := Lib.hid hs
          have HL0 := Lib.hid (show (l0.map (ptOf b)).length = l0.length from List.length_map _)
          have Hml := Lib.hid (show l0.length ≤ 256 by have h := Hrl.out; rw [hr, List.length_append] at h; simp at h; omega)
          generalize (ptOf b (s, n)).data = d at *
          generalize (s : Int) = S at *
          generalize l0.map (ptOf b) = L0 at *
          generalize l0.length = m at *
          clear hu2 hx' hy' huj hj hk0 hk1 hs hr ok Hd5 Hd
          go_wp2_with fail
          go_quiet (fail)
          have D6 := Lib.hid (bdrew w5 nq)
          generalize w5.drewN nq = w7 at *
          have Hbw7 := Lib.hid (bt Hbw5.out D6.out)
          have Hst := Lib.hid (Hs.out.ext D6.out)
          clear c3 c4 t4 hj2 hj3 t3 hkj)
        rotate_right 2
        all_goals
          have hml := Hml.out
          have hmm : (m : Int) < (m : Int) + 1 := by omega
          go_wp2_with fail
          refine WH.start (S := fun w' : World => Below w.heap.size w w') (List.replicate 16 false) 16 rfl rfl (by kernel_rfl) (bt Hbw7.out (bdrew w7 1)) (fun hSn => ?_)
          simp only [List.replicate]
          refine WH.take 0 _ ?_ rfl (by kernel_rfl) (fun _ _ _ h => h) rfl (by assumption) ?_ ?_; rotate_left; (focus (intro w hSw; (try dsimp only at hSw); (first | (go_simp; done) | (go_simp; with_reducible rfl)))); simp only [Act.put, List.setIfInBounds_toArray, List.set_cons_zero, List.set_cons_succ]
          refine WH.take 1 _ ?_ rfl (by kernel_rfl) (fun _ _ _ h => h) rfl (by assumption) ?_ ?_; rotate_left; (focus (intro w hSw; (try dsimp only at hSw); (first | (go_simp; done) | (go_simp; with_reducible rfl)))); simp only [Act.put, List.setIfInBounds_toArray, List.set_cons_zero, List.set_cons_succ]
          refine WH.take 2 _ ?_ rfl (by kernel_rfl) (fun _ _ _ h => h) rfl (by assumption) ?_ ?_; rotate_left; (focus (intro w hSw; (try dsimp only at hSw); (first | (go_simp; done) | (go_simp; with_reducible rfl)))); simp only [Act.put, List.setIfInBounds_toArray, List.set_cons_zero, List.set_cons_succ]
          refine WH.take 3 _ ?_ rfl (by kernel_rfl) (fun _ _ _ h => h) rfl (by assumption) ?_ ?_; rotate_left; (focus (intro w hSw; (try dsimp only at hSw); (first | (go_simp; done) | (go_simp; with_reducible rfl)))); simp only [Act.put, List.setIfInBounds_toArray, List.set_cons_zero, List.set_cons_succ]
          refine WH.take 4 _ ?_ rfl (by kernel_rfl) (fun _ _ _ h => h) rfl (by assumption) ?_ ?_; rotate_left; (focus (intro w hSw; (try dsimp only at hSw); (first | (go_simp; done) | (go_simp; with_reducible rfl)))); simp only [Act.put, List.setIfInBounds_toArray, List.set_cons_zero, List.set_cons_succ]
          refine WH.take 5 _ ?_ rfl (by kernel_rfl) (fun _ _ _ h => h) rfl (by assumption) ?_ ?_; rotate_left; (focus (intro w hSw; (try dsimp only at hSw); (first | (go_simp; done) | (go_simp; with_reducible rfl)))); simp only [Act.put, List.setIfInBounds_toArray, List.set_cons_zero, List.set_cons_succ]
          refine WH.take 7 _ ?_ rfl (by kernel_rfl) (fun _ _ _ h => h) rfl (by assumption) ?_ ?_; rotate_left; (focus (intro w hSw; (try dsimp only at hSw); (first | (go_simp; done) | (go_simp; with_reducible rfl)))); simp only [Act.put, List.setIfInBounds_toArray, List.set_cons_zero, List.set_cons_succ]
          refine WH.take 8 _ ?_ rfl (by kernel_rfl) (fun _ _ _ h => h) rfl (by assumption) ?_ ?_; rotate_left; (focus (intro w hSw; (try dsimp only at hSw); (first | (go_simp; done) | (go_simp; with_reducible rfl)))); simp only [Act.put, List.setIfInBounds_toArray, List.set_cons_zero, List.set_cons_succ]
          refine WH.take 9 _ ?_ rfl (by kernel_rfl) (fun _ _ _ h => h) rfl (by assumption) ?_ ?_; rotate_left; (focus (intro w hSw; (try dsimp only at hSw); (first | (go_simp; done) | (go_simp; with_reducible rfl)))); simp only [Act.put, List.setIfInBounds_toArray, List.set_cons_zero, List.set_cons_succ]
          refine WH.take 10 _ _ rfl (by kernel_rfl) (fun _ _ _ h => h) rfl (by assumption) (fun w' hSw => exec_load_cell _ _ rfl (ad'.add k) rfl (.int .u8 (y.toNat : Int)) ((hSw.cell (block_lt_of_cell Hyc.out)).trans Hyc.out) _ Try.underlying5 rfl) ?_; simp only [Act.put, List.setIfInBounds_toArray, List.set_cons_zero, List.set_cons_succ]
          have HX := Lib.hid (Hst.out.ext (bdrew w7 1))
          have Hcell : w7.drew.cell? ⟨g, m * 2 + 1, none⟩ = some u0 := by
            have h := HX.out.lastD
            rw [HL0.out] at h
            exact (HX.out.blk.cell _).trans h
          have D8 := Lib.hid (Grew.alloc w7.drew (.cells #[.int .u8 (y.toNat : Int)] 5)).1
          have HX8 := Lib.hid (HX.out.ext D8.out)
          have Hcell8 : (w7.drew.alloc (.cells #[.int .u8 (y.toNat : Int)] 5)).cell? ⟨g, m * 2 + 1, none⟩ = some u0 := by
            have h := HX8.out.lastD
            rw [HL0.out] at h
            exact (HX8.out.blk.cell _).trans h
          refine WH.two 6 11 _ _ rfl rfl (by kernel_rfl) rfl rfl (fun K hK => ?_) (fun K hK => ?_)
          focus (
            refine ow_load_cell _ _ rfl ⟨g, m * 2 + 1, none⟩ rfl u0 Hcell _ Try.underlying23 rfl ?_
            have hSn := hSn; refine hK _ _ hSn ?_; clear hK; clear K; simp only [Act.put, List.setIfInBounds_toArray, List.set_cons_zero, List.set_cons_succ]
            refine WH.only 11 _ rfl (by kernel_rfl) rfl (fun K hK => ?_)
            refine ow_build_byte _ _ _ rfl Try.underlying23 Try.byteInfo _ rfl ?_
            have hSn := bt hSn D8.out; refine hK _ _ hSn ?_; clear hK; clear K; simp only [Act.put, List.setIfInBounds_toArray, List.set_cons_zero, List.set_cons_succ])
          rotate_left
          focus (
            refine ow_build_byte _ _ _ rfl Try.underlying23 Try.byteInfo _ rfl ?_
            have hSn := bt hSn D8.out; refine hK _ _ hSn ?_; clear hK; clear K; simp only [Act.put, List.setIfInBounds_toArray, List.set_cons_zero, List.set_cons_succ]
            refine WH.only 6 _ rfl (by kernel_rfl) rfl (fun K hK => ?_)
            refine ow_load_cell _ _ rfl ⟨g, m * 2 + 1, none⟩ rfl u0 Hcell8 _ Try.underlying23 rfl ?_
            have hSn := hSn; refine hK _ _ hSn ?_; clear hK; clear K; simp only [Act.put, List.setIfInBounds_toArray, List.set_cons_zero, List.set_cons_succ])
          rotate_left
          all_goals
            refine WH.only 12 _ rfl (by kernel_rfl) rfl (fun K hK => ?_)
            refine ow_append_last _ _ _ _ rfl Try.underlying23 Try.byteInfo w.heap.size u0 d HX.out.own y rfl rfl (show w.heap.size ≤ w7.heap.size from Hbw7.out.size) (by have := Hdl.out; omega) ?_
            apply Stop.go
            intro u1 w8 Ho8 Hg8 Hu8
            have Hbw8 := Lib.hid (hSn.grown Hg8.out hSn.size (fun k hk => (HX.out.own.lt k hk).1))
            have hSn := Hbw8.out; refine hK _ _ hSn ?_; clear hK; clear K; simp only [Act.put, List.setIfInBounds_toArray, List.set_cons_zero, List.set_cons_succ]
            refine WH.take 13 _ ?_ rfl (by kernel_rfl) (fun _ _ _ h => h) rfl (by assumption) ?_ ?_; rotate_left; (focus (intro w hSw; (try dsimp only at hSw); (first | (go_simp; done) | (go_simp; with_reducible rfl)))); simp only [Act.put, List.setIfInBounds_toArray, List.set_cons_zero, List.set_cons_succ]
            refine WH.take 14 _ ?_ rfl (by kernel_rfl) (fun _ _ _ h => h) rfl (by assumption) ?_ ?_; rotate_left; (focus (intro w hSw; (try dsimp only at hSw); (first | (go_simp; done) | (go_simp; with_reducible rfl)))); simp only [Act.put, List.setIfInBounds_toArray, List.set_cons_zero, List.set_cons_succ]
            refine WH.only 15 _ rfl (by kernel_rfl) rfl (fun K hK => ?_)
            have Hblk8 := Lib.hid (show Blk w8 g 25 cur from (Hg8.out.block g HX8.out.blk.lt (fun e => HX.out.apart e.symm)).trans HX8.out.blk)
            obtain ⟨A1, c1, hv1, -, -, -⟩ := Ho8.out.read
            refine ow_store_cell _ _ _ rfl Try.bytesSize g (m * 2 + 1) rfl u1 rfl (by rw [hv1]; rfl) (by rw [hv1]; rfl) _ _ Hblk8.out (by have h1 := HX.out.size; have h2 := HX.out.cap1; rw [HL0.out] at h2; omega) ?_
            apply Stop.go
            intro w10 Ho10 Hb10
            have Hbw10 := Lib.hid (bonly Hbw8.out Ho10.out HX.out.base)
            have hSn := Hbw10.out; refine hK _ _ hSn ?_; clear hK; clear K; simp only [Act.put, List.set_cons_zero, List.set_cons_succ]
            refine WH.done (by kernel_rfl) ?_
            have Hnew := Lib.hid (Hfin.out _ _ _ (StX.next HX8.out Ho8.out Hg8.out Hu8.out Ho10.out (by rw [HL0.out]; exact Hb10.out)))
            clear hv1 Hcell hSn
            go_wp2_with fail
            go_roundw
            case rel => exact ⟨k + 1, by omega, by go_num, Hnew.out, Hbw10.out⟩
            case measure => simp [intOf]; omega
    · have d0 : decide ((k : Int) < 256) = false := by simp; omega
      obtain rfl : k = 256 := by omega
      have Hrv := Lib.hid (show diffP a b = (runsTo u 256).map (ptOf b) by unfold diffP; rw [Hu.out])
      go_wp2_with fail
      go_ret
      obtain ⟨A', c', hv, h1, h2, h3⟩ := Hd.out.ownP.read
      rw [Hrv.out]
      exact ⟨A', _, c', congrArg Ending.returned hv, rfl, h1, h2, h3, Hbw.out⟩

end Go.Proofs.Ytnlcpkffaiegaaa
