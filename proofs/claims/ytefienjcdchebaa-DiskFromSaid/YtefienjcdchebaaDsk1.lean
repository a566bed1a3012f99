/-
  Contracts of package disk: what is deferred, what is counted, the two that do it.
-/
import Derived.Test.YtefienjcdchebaaDiskC
import Derived.Test.YtefienjcdchebaaPatO
import Derived.Test.YtefienjcdchebaaRets
import Derived.Test.YtefienjcdchebaaArr
import Derived.Defers
namespace Go.Proofs.Ytefienjcdchebaa
open Go.RowKit

theorem Try.intSize : (Try.prog.info? 3).map (·.size) = some 1 := by kernel_rfl
theorem Try.boolSize : (Try.prog.info? 4).map (·.size) = some 1 := by kernel_rfl
theorem Try.errSize : (Try.prog.info? 43).map (·.size) = some 1 := by kernel_rfl

/-- What is deferred: it counts what answered OK. -/
theorem tick_any (ge gc b k : Nat) (r c : Int) (te tc td : TypeId) (cs : Array Value) (u : FrameMode) (w : World) (he : Blk w ge te #[.int .i64 r]) (hc : Blk w gc tc #[.pointer (some ⟨b, k, none⟩)]) (hb : Blk w b td cs)
    (hk : cs[k]? = some (.int .i64 c)) (h0 : 0 ≤ c) (h1 : c < 4611686018427387904) :
    CallsD Try.prog 28 #[.pointer (some ⟨ge, 0, none⟩), .pointer (some ⟨gc, 0, none⟩)] u w fun e u' w' => u' = u ∧ (e = .returned (.tuple #[]) ∧ Only w w' b ∧ Blk w' b td (ticked r k c cs) ∧ (r ≠ 0 → w' = w)) := by
  have c1 := he.cell 0
  have c2 := hc.cell 0
  have c3 := hb.cell k
  rw [hk] at c3
  have hkl : k < cs.size := (Array.getElem?_eq_some_iff.1 hk).1
  have hw : IntKind.i64.wrap (c + 1) = c + 1 := IntWalk.i64_in _ (by omega)
  simp only [List.getElem?_toArray, List.getElem?_cons_zero] at c1 c2
  go_enter_d Try.func28, Try.ntmps28
  by_cases hr : r = 0
  · subst hr
    go_wp2_with (refine wpList_store_cell rfl _ _ _ rfl Try.intSize _ _ rfl (.int .i64 (c + 1)) rfl rfl rfl _ _ hb hkl ?_)
    apply Stop.go; intro w1 Ho1 Hb1
    go_wp2_with fail
    go_end0
    exact ⟨rfl, Ho1.out, by unfold ticked; rw [if_pos rfl]; exact Hb1.out, fun h => absurd rfl h⟩
  · have hd : (r == 0) = false := by simpa using hr
    go_wp2_with fail
    go_end0
    exact ⟨rfl, Only.refl _ _, by unfold ticked; rw [if_neg hr]; exact hb, fun _ => rfl⟩

/-- A write is taken from the fuse. -/
def Dev.burnt (d : Dev) : Dev := if d.fuse = 0 then { d with off := true } else { d with fuse := if 0 < d.fuse then d.fuse - 1 else d.fuse }

theorem dcells_size (V : Value) (off fu : Bool) (fz wr rd : Int) : (dcells V off fu fz wr rd).size = 6 := rfl

set_option maxHeartbeats 400000 in
theorem burn_any (b : Nat) (V : Value) (d : Dev) (w : World) (h : DS w 56 b V d) (hf : d.fuse < 9223372036854775808) :
    Calls Try.prog 27 #[.pointer (some ⟨b, 0, none⟩)] w fun e w' => e = .returned (.bool (!decide (d.fuse = 0))) ∧ Only w w' b ∧ DS w' 56 b V d.burnt := by
  obtain ⟨fz, hb, hz⟩ := h
  obtain ⟨bl, q, off, wr, rd⟩ := d
  simp only at hb hz hf ⊢
  have c2 := hb.cell 2
  have c3 := hb.cell 3
  simp only [dcells, List.getElem?_toArray, List.getElem?_cons_zero, List.getElem?_cons_succ] at c2 c3
  by_cases h0 : 0 ≤ q
  · obtain rfl := hz h0
    have d0 : decide (0 ≤ fz) = true := decide_eq_true h0
    rw [d0] at hb c2
    have Hd := Lib.hid d0
    by_cases h1 : fz = 0
    · have hd : Dev.burnt ⟨bl, fz, off, wr, rd⟩ = ⟨bl, fz, true, wr, rd⟩ := by unfold Dev.burnt; exact if_pos h1
      rw [hd, decide_eq_true h1]
      have e1 : (fz == 0) = true := by simpa using h1
      clear h1 hz h0 d0 hd
      go_enter Try.func27, Try.ntmps27
      go_wp2_with (refine wpList_store_cell rfl _ _ _ rfl Try.boolSize _ _ rfl (.bool true) rfl rfl rfl _ _ hb (by rw [dcells_size]; omega) ?_)
      apply Stop.go; intro w1 Ho1 Hb1
      go_wp2_with fail
      go_ret
      exact ⟨rfl, Ho1.out, fz, by rw [Hd.out]; exact Hb1.out, fun _ => rfl⟩
    · have hd : Dev.burnt ⟨bl, fz, off, wr, rd⟩ = ⟨bl, fz - 1, off, wr, rd⟩ := by unfold Dev.burnt; rw [if_neg h1]; simp only; rw [if_pos (by omega)]
      rw [hd, decide_eq_false h1]
      have e1 : (fz == 0) = false := by simpa using h1
      have hw : IntKind.i64.wrap (fz - 1) = fz - 1 := IntWalk.i64_in _ (by omega)
      have He := Lib.hid (show decide (0 ≤ fz - 1) = true from decide_eq_true (by omega))
      clear h1 hz h0 d0 hd
      go_enter Try.func27, Try.ntmps27
      go_wp2_with (refine wpList_store_cell rfl _ _ _ rfl Try.intSize _ _ rfl (.int .i64 (fz - 1)) rfl rfl rfl _ _ hb (by rw [dcells_size]; omega) ?_)
      apply Stop.go; intro w1 Ho1 Hb1
      go_wp2_with fail
      go_ret
      exact ⟨rfl, Ho1.out, fz - 1, by rw [He.out]; exact Hb1.out, fun _ => rfl⟩
  · have d0 : decide (0 ≤ q) = false := decide_eq_false h0
    rw [d0] at hb c2
    have hd : Dev.burnt ⟨bl, q, off, wr, rd⟩ = ⟨bl, q, off, wr, rd⟩ := by unfold Dev.burnt; rw [if_neg (by simp only; omega)]; simp only; rw [if_neg (by omega)]
    rw [hd, decide_eq_false (show ¬ q = 0 by omega)]
    have Hd := Lib.hid d0
    have Hb := Lib.hid hb
    have Hz := Lib.hid hz
    clear hz h0 d0 hd hb
    go_enter Try.func27, Try.ntmps27
    go_wp2_with fail
    go_ret
    exact ⟨rfl, Only.refl _ _, fz, by rw [Hd.out]; exact Hb.out, Hz.out⟩

/-- What Read does of a block that there is. -/
theorem rd1_any (x y v b : Nat) (tx ty tv : TypeId) (ad : Addr) (n c i : Nat) (d : Dev) (z : List UInt8) (w : World) (hx : Blk w x tx #[.pointer (some ⟨b, 0, none⟩)]) (hy : Blk w y ty #[.int .i64 (i : Int)]) (hv : Blk w v tv (bcells z)) (hz : z.length = 256)
    (hd : DS w 56 b (.slice (some ad) n c) d) (hn : d.bl.length = n) (hL : Bks d.bl) (hr : RK w (some ad) d.bl) (hi : i < n) (hc : n ≤ c) (_hm : c ≤ maxLen) (n1 : x ≠ v) (n2 : y ≠ v) (n3 : b ≠ v) (n4 : ad.block ≠ v) :
    Calls Try.prog 25 #[.pointer (some ⟨x, 0, none⟩), .pointer (some ⟨y, 0, none⟩), .pointer (some ⟨v, 0, none⟩)] w fun e w' => e = .returned (.int .i64 0) ∧ Turn w w' v v ∧ Blk w' v tv (bcells (d.bl[i]'(by omega))) := by
  subst hn
  obtain ⟨fz, hb, _⟩ := hd
  have hlen := hL.get hi
  have z1 : (i : Int) < d.bl.length := by omega
  go_enter Try.func25, Try.ntmps25
  go_wp2_with fail
  refine WH.start (S := fun w' : World => Turn w w' v v) [false, false, false, false, false, false, false, false] 8 rfl rfl (by kernel_rfl) (Turn.drew w 1 v v) (fun hSn => ?_)
  refine WH.take 0 _ _ rfl (by kernel_rfl) (fun _ _ _ h => h) rfl (by assumption) (fun w' hSw => exec_load_cell _ _ rfl _ rfl (.pointer (some ⟨b, 0, none⟩)) ((hx.turn hSw n1 n1).cell 0) _ Try.underlying24 rfl) ?_; simp only [Act.put, List.setIfInBounds_toArray, List.set_cons_zero, List.set_cons_succ]
  refine WH.take 1 _ ?_ rfl (by kernel_rfl) (fun _ _ _ h => h) rfl (by assumption) ?_ ?_; rotate_left; (focus (intro w hSw; (try dsimp only at hSw); (first | (go_simp; done) | (go_simp; with_reducible rfl)))); simp only [Act.put, List.setIfInBounds_toArray, List.set_cons_zero, List.set_cons_succ]
  refine WH.take 2 _ ?_ rfl (by kernel_rfl) (fun _ _ _ h => h) rfl (by assumption) ?_ ?_; rotate_left; (focus (intro w hSw; (try dsimp only at hSw); (first | (go_simp; done) | (go_simp; with_reducible rfl)))); simp only [Act.put, List.setIfInBounds_toArray, List.set_cons_zero, List.set_cons_succ]
  refine WH.take 3 _ _ rfl (by kernel_rfl) (fun _ _ _ h => h) rfl (by assumption) (fun w' hSw => exec_load_cell _ _ rfl _ rfl (.slice (some ad) d.bl.length c) ((hb.turn hSw n3 n3).cell 0) _ Try.underlying40 rfl) ?_; simp only [Act.put, List.setIfInBounds_toArray, List.set_cons_zero, List.set_cons_succ]
  refine WH.take 4 _ _ rfl (by kernel_rfl) (fun _ _ _ h => h) rfl (by assumption) (fun w' hSw => exec_load_cell _ _ rfl _ rfl (.int .i64 (i : Int)) ((hy.turn hSw n2 n2).cell 0) _ Try.underlying3 rfl) ?_; simp only [Act.put, List.setIfInBounds_toArray, List.set_cons_zero, List.set_cons_succ]
  refine WH.take 5 _ ?_ rfl (by kernel_rfl) (fun _ _ _ h => h) rfl (by assumption) ?_ ?_; rotate_left; (focus (intro w hSw; (try dsimp only at hSw); (first | (go_simp; done) | (go_simp; with_reducible rfl)))); simp only [Act.put, List.setIfInBounds_toArray, List.set_cons_zero, List.set_cons_succ]
  refine WH.take 6 _ _ rfl (by kernel_rfl) (fun _ _ _ h => h) rfl (by assumption) (fun w' hSw => exec_load_bk _ _ rfl ad i rfl d.bl hL hi (hr.turn hSw n4 n4) _ Try.underlying35 rfl Try.blockSize) ?_; simp only [Act.put, List.setIfInBounds_toArray, List.set_cons_zero, List.set_cons_succ]
  refine WH.only 7 _ rfl (by kernel_rfl) rfl (fun K hK => ?_)
  refine ow_store _ _ _ rfl _ (bcells (d.bl[i]'hi)) rfl rfl _ _ (Blk.ext hv (bdrew w 1)) (Try.blockFits hlen) (by rw [bcells_size, bcells_size, hlen, hz]) (oneCell_bcells _) ?_
  apply Stop.go; intro w1 Ho1 Hb1
  have hSn := (Turn.drew w 1 v v).trans (Turn.of_only Ho1.out v); refine hK _ _ hSn ?_; clear hK; clear K; simp only [Act.put, List.set_cons_zero, List.set_cons_succ]
  refine WH.done (by kernel_rfl) ?_
  go_wp2_with fail
  go_ret
  exact ⟨rfl, (Turn.drew w 1 v v).trans (Turn.of_only Ho1.out v), Hb1.out⟩

/-- What Write does of a block that there is. -/
theorem wr1_any (x y v b g : Nat) (tx ty tv : TypeId) (n i : Nat) (d : Dev) (z : List UInt8) (w : World) (hx : Blk w x tx #[.pointer (some ⟨b, 0, none⟩)]) (hy : Blk w y ty #[.int .i64 (i : Int)]) (hv : Blk w v tv (bcells z)) (hz : z.length = 256)
    (hd : DS w 56 b (.slice (some ⟨g, 0, none⟩) n n) d) (hn : d.bl.length = n) (hL : Bks d.bl) (hg : Blk w g 35 (bcells d.bl.flatten)) (hi : i < n) (hm : n ≤ maxLen) (hf : d.fuse < 9223372036854775808) (hne : b ≠ g)
    (n1 : x ≠ b) (n2 : y ≠ b) (n3 : v ≠ b) (m1 : x ≠ g) (m2 : y ≠ g) (m3 : v ≠ g) :
    Calls Try.prog 26 #[.pointer (some ⟨x, 0, none⟩), .pointer (some ⟨v, 0, none⟩), .pointer (some ⟨y, 0, none⟩)] w fun e w' => e = .returned (.int .i64 (if d.fuse = 0 then 12 else 0)) ∧ Turn w w' b g ∧
      DS w' 56 b (.slice (some ⟨g, 0, none⟩) n n) d.burnt ∧ Blk w' g 35 (bcells (if d.fuse = 0 then d.bl else d.bl.set i z).flatten) := by
  subst hn
  have Hx := Lib.hid hx
  have Hy := Lib.hid hy
  have Hv := Lib.hid hv
  have Hg := Lib.hid hg
  have c0 := hx.cell 0
  simp only [List.getElem?_toArray, List.getElem?_cons_zero] at c0
  have hB := burn_any b _ d w hd hf
  clear hx hy hv hg
  by_cases h0 : d.fuse = 0
  · rw [if_pos h0, if_pos h0]
    rw [decide_eq_true h0] at hB
    clear h0
    go_enter Try.func26, Try.ntmps26
    go_wp2_with (go_at_call 27; refine hB.mono ?_; rintro _ w1 ⟨rfl, ho, hd1⟩)
    go_ret
    exact ⟨rfl, Turn.of_only ho g, hd1, Hg.out.only ho (Ne.symm hne)⟩
  · rw [if_neg h0, if_neg h0]
    rw [decide_eq_false h0] at hB
    clear h0
    go_enter Try.func26, Try.ntmps26
    go_wp2_with (go_at_call 27; refine hB.mono ?_; rintro _ w1 ⟨rfl, ho, hd1⟩)
    have Hd1 := Lib.hid hd1
    obtain ⟨fz, hb, hq⟩ := hd1
    have T1 := Turn.of_only ho g
    have Hx1 := Lib.hid (Hx.out.turn T1 n1 m1)
    have Hy1 := Lib.hid (Hy.out.turn T1 n2 m2)
    have Hv1 := Lib.hid (Hv.out.turn T1 n3 m3)
    have Hg1 := Lib.hid (Hg.out.only ho (Ne.symm hne))
    have z1 : (i : Int) < d.bl.length := by omega
    go_wp2_with fail
    refine WH.start (S := fun w' : World => Turn w1 w' g g) [false, false, false, false, false, false, false, false] 8 rfl rfl (by kernel_rfl) (Turn.drew w1 1 g g) (fun hSn => ?_)
    refine WH.take 0 _ _ rfl (by kernel_rfl) (fun _ _ _ h => h) rfl (by assumption) (fun w' hSw => exec_load_cell _ _ rfl _ rfl (.pointer (some ⟨b, 0, none⟩)) ((Hx1.out.turn hSw m1 m1).cell 0) _ Try.underlying24 rfl) ?_; simp only [Act.put, List.setIfInBounds_toArray, List.set_cons_zero, List.set_cons_succ]
    refine WH.take 1 _ ?_ rfl (by kernel_rfl) (fun _ _ _ h => h) rfl (by assumption) ?_ ?_; rotate_left; (focus (intro w hSw; (try dsimp only at hSw); (first | (go_simp; done) | (go_simp; with_reducible rfl)))); simp only [Act.put, List.setIfInBounds_toArray, List.set_cons_zero, List.set_cons_succ]
    refine WH.take 2 _ ?_ rfl (by kernel_rfl) (fun _ _ _ h => h) rfl (by assumption) ?_ ?_; rotate_left; (focus (intro w hSw; (try dsimp only at hSw); (first | (go_simp; done) | (go_simp; with_reducible rfl)))); simp only [Act.put, List.setIfInBounds_toArray, List.set_cons_zero, List.set_cons_succ]
    refine WH.take 3 _ _ rfl (by kernel_rfl) (fun _ _ _ h => h) rfl (by assumption) (fun w' hSw => exec_load_cell _ _ rfl _ rfl (.slice (some ⟨g, 0, none⟩) d.bl.length d.bl.length) ((hb.turn hSw hne hne).cell 0) _ Try.underlying40 rfl) ?_; simp only [Act.put, List.setIfInBounds_toArray, List.set_cons_zero, List.set_cons_succ]
    refine WH.take 4 _ _ rfl (by kernel_rfl) (fun _ _ _ h => h) rfl (by assumption) (fun w' hSw => exec_load_cell _ _ rfl _ rfl (.int .i64 (i : Int)) ((Hy1.out.turn hSw m2 m2).cell 0) _ Try.underlying3 rfl) ?_; simp only [Act.put, List.setIfInBounds_toArray, List.set_cons_zero, List.set_cons_succ]
    refine WH.take 5 _ _ rfl (by kernel_rfl) (fun _ _ _ h => h) rfl (by assumption) (fun w' hSw => exec_load_blk _ _ rfl _ rfl _ _ (Hv1.out.turn hSw m3 m3) _ Try.underlying35 rfl (Try.blockFits hz)) ?_; simp only [Act.put, List.setIfInBounds_toArray, List.set_cons_zero, List.set_cons_succ]
    refine WH.take 6 _ ?_ rfl (by kernel_rfl) (fun _ _ _ h => h) rfl (by assumption) ?_ ?_; rotate_left; (focus (intro w hSw; (try dsimp only at hSw); (first | (go_simp; done) | (go_simp; with_reducible rfl)))); simp only [Act.put, List.setIfInBounds_toArray, List.set_cons_zero, List.set_cons_succ]
    refine WH.only 7 _ rfl (by kernel_rfl) rfl (fun K hK => ?_)
    refine ow_store_bk _ _ _ rfl Try.blockSize g i rfl z rfl hz _ d.bl hL hi (Blk.ext Hg1.out (bdrew w1 1)) ?_
    apply Stop.go; intro w2 Ho2 Hb2
    have hSn := (Turn.drew w1 1 g g).trans (Turn.of_only Ho2.out g); refine hK _ _ hSn ?_; clear hK; clear K; simp only [Act.put, List.set_cons_zero, List.set_cons_succ]
    refine WH.done (by kernel_rfl) ?_
    go_wp2_with fail
    go_ret
    have T2 := (Turn.drew w1 1 b g).trans (Turn.of_only2 Ho2.out b)
    refine ⟨rfl, T1.trans T2, Hd1.out.turn ((Turn.drew w1 1 g g).trans (Turn.of_only Ho2.out g)) hne hne, Hb2.out⟩

end Go.Proofs.Ytefienjcdchebaa
