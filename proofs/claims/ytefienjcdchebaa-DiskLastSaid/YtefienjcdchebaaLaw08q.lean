/-
  The walk of DiskLast.
-/
import Derived.Test.YtefienjcdchebaaLaw08s
import Derived.BigQuiet
import Derived.Deep.QuietTactic
import Derived.Deep.CutRange
namespace Go.Proofs.Ytefienjcdchebaa
open Go.RowKit

/-- The document's device while the power does not fail. -/
def lastD (L : List UInt8) (n r : Nat) : Doc := ⟨L, -1, false, n, r⟩
theorem lastD_write (L : List UInt8) (n r i : Nat) (hi : i < L.length) (v : UInt8) : (lastD L n r).go ⟨1, i, v⟩ = (lastD (L.set i v) (n + 1) r, 0, 0) := by
  unfold Doc.go lastD
  simp only
  rw [if_neg (by decide), if_neg (by decide), if_neg (by decide), if_neg (by omega), if_neg (by decide), if_neg (by decide)]
  simp
theorem lastD_read (L : List UInt8) (n r i : Nat) (hi : i < L.length) : (lastD L n r).dev.read i = (lastD L n (r + 1)).dev ∧ (lastD L n r).dev.readB i = full L[i] ∧ (lastD L n r).dev.readE i = 0 := by
  have hh : (lastD L n r).dev.has i = true := Dev.has_iff.2 ⟨by omega, by simp [lastD, Doc.dev, hi]⟩
  refine ⟨?_, ?_, ?_⟩
  · unfold Dev.read
    rw [hh]
    rfl
  · unfold Dev.readB
    rw [hh]
    simp [lastD, Doc.dev, List.getElem?_eq_getElem hi]
  · unfold Dev.readE
    rw [hh]
    rfl
theorem Try.wantZero : (Try.prog.info? 51).map (·.zero) = some (some (.agg (bcells (zeros 20)))) := by kernel_rfl
theorem St3.field {w : World} {ad : Addr} {l : List St3} (h : R3L w (some ad) l) {k : Nat} (hk : k < l.length) :
    w.cell? (ad.add (k * 3)) = some (.int .i64 l[k].do_) ∧ w.cell? ⟨(ad.add (k * 3)).block, (ad.add (k * 3)).off + 1, none⟩ = some (.int .i64 l[k].no) ∧ w.cell? ⟨(ad.add (k * 3)).block, (ad.add (k * 3)).off + 2, none⟩ = some (.int .u8 (l[k].b.toNat : Int)) := by
  obtain ⟨ad', v0, v1, v2, e, h0, h1, h2, hp⟩ := h k hk
  injection e with e
  subst e
  rw [hp.e0] at h0
  rw [hp.e1] at h1
  rw [hp.e2] at h2
  refine ⟨h0, cell_field h0 h1, ?_⟩
  have e2 : (⟨(ad.add (k * 3)).block, (ad.add (k * 3)).off + 2, none⟩ : Addr) = ⟨(ad.add (k * 3 + 1)).block, (ad.add (k * 3 + 1)).off + 1, none⟩ := by
    unfold Addr.add
    (repeat' split) <;> simp_all <;> omega
  rw [e2]
  exact cell_field h1 h2

section
variable {P : Program} {o : Oper} {a : Act} {w : World} {K : Act → World → Prop} {Q : Exit → Act → World → Prop}
theorem ow_store_cell8 (ty : TypeId) (x y : Operand) (ho : o.op = .store ty x y) (hs : (P.info? ty).map (·.size) = some 1)
    (g i : Nat) (hx : a.eval x = .pointer (some ⟨g, i, none⟩)) (v : Value) (hy : a.eval y = v) (hv : v.cells = #[v]) (h1 : v.oneCell' = true) (t : TypeId) (cs : Array Value) (hg : Blk w g t cs) (hi : i < cs.size)
    (h : Stop (∀ w', Hid (Only w w' g) → Hid (Blk w' g t (cs.setIfInBounds i v)) → K (a.put o.dst undef) w')) : o.wp P a w K Q := by
  unfold Oper.wp execOp
  simp only [ho, hx, hy, Instr.storeAt, Instr.sureAddr, Sem.run_bind, Sem.run_pure, Result.andThen_ok, run_storeVar_cell P w ty hs g i t cs hg hi v hv h1]
  exact h _ ((Only.refl w g).setCell i v) (hg.set_ i v)
end

set_option maxHeartbeats 4000000 in
set_option maxRecDepth 100000 in
theorem diskLast_any (A : Option Addr) (m c : Nat) (l : List St3) (hl : l.length = m) (hm : m ≤ maxLen) (w : World) (hr : R3L w A l) :
    Calls Try.prog 5 #[.slice A m c] w fun e w' => e = .returned (.bool true) ∧ Below w.heap.size w w' := by
  unfold maxLen at hm
  have Hl := Lib.hid hl
  have HR := Lib.hid hr
  clear hl hr
  by_cases h60 : 60 < m
  · have d0 : decide ((60 : Int) < m) = true := decide_eq_true (by omega)
    have d0' : decide (60 < m) = true := decide_eq_true h60
    go_enter Try.func5, Try.ntmps5
    go_wp2_with fail
    refine (works_any _).mono ?_; rintro e w9 ⟨rfl, hb9⟩
    go_wp2_with fail
    go_ret
    exact ⟨rfl, hb9⟩
  have d0 : decide ((60 : Int) < m) = false := decide_eq_false (by omega)
  have d0' : decide (60 < m) = false := decide_eq_false h60
  have Hm := Lib.hid (show m ≤ 60 by omega)
  clear h60 hm
  go_enter Try.func5, Try.ntmps5
  go_wp2_with fail
  refine (dnew_any 20 (by decide) (by decide) _).mono ?_; rintro e w1 ⟨b, g, rfl, hb1, hg1, hd1, hbw1⟩
  have Hbg := Lib.hid (And.intro hb1 hg1)
  have D1 : Hid (DV w1 b g (lastD (zeros 20) 0 0).dev) := Lib.hid hd1
  have W1 := Lib.hid hbw1
  clear hb1 hg1 hd1 hbw1
  go_wp2_with (refine wpList_alloc_row rfl _ rfl _ Try.wantZero ?_)
  apply Stop.go; intro w2 Hg2 Hb2
  have D2 := Lib.hid (D1.out.ext Hg2.out.1)
  have W2 := Lib.hid (W1.out.trans (Hg2.out.1.mono W1.out.size))
  have L1 := D1.out.lt
  obtain ⟨q, Hq⟩ : ∃ q, Hid (w1.heap.size = q) := ⟨_, Lib.hid rfl⟩
  rw [Hq.out] at Hb2 L1 ⊢
  have HLow := Lib.hid (show w.heap.size ≤ b ∧ w.heap.size ≤ g ∧ w.heap.size ≤ q ∧ b < q ∧ g < q from ⟨Hbg.out.1, Hbg.out.2, by have := W1.out.size; have := Hq.out; omega, L1.1, L1.2⟩)
  clear L1 D1 W1 Hg2 Hbg
  go_wp2_with fail
  go_loopw [5, 6] (fun u i wr => ∃ (k n : Nat) (L : List UInt8), k ≤ m ∧ n ≤ k ∧ i = .int .i64 k ∧ u = .int .i64 n ∧ L.length = 20 ∧ DV wr b g (lastD L n 0).dev ∧ Blk wr q 51 (bcells L) ∧ Below w.heap.size w wr) (fun _ i _ => m - (intOf i).toNat)
  case atStart => exact ⟨0, 0, zeros 20, Nat.zero_le _, Nat.le_refl _, rfl, rfl, rfl, D2.out, Hb2.out, W2.out⟩
  case round =>
    obtain ⟨k, n, L, hk, hn, rfl, rfl, hL, hd, hbq, hbw⟩ := hrel
    have HL := Lib.hid hL
    have HD := Lib.hid hd
    have HB := Lib.hid hbq
    have HW := Lib.hid hbw
    clear hL hd hbq hbw
    have HK := Lib.hid (show k ≤ 60 ∧ n ≤ k by have := Hm.out; omega)
    have hwk : IntKind.i64.wrap ((k : Int) + 1) = (k : Int) + 1 := IntWalk.i64_in _ (by have := HK.out; omega)
    have hwn : IntKind.i64.wrap ((n : Int) + 1) = (n : Int) + 1 := IntWalk.i64_in _ (by have := HK.out; omega)
    by_cases hlt : k < m
    · have hkl : k < l.length := by have := Hl.out; omega
      have d1 : decide (k < m) = true := decide_eq_true hlt
      have z1 : (k : Int) < m := by omega
      have hrw := HR.out.below HW.out
      obtain ⟨ad0, rfl⟩ := hrw.addr hkl
      have hfs := St3.field hrw hkl
      generalize l[k] = s at hfs
      have HC := Lib.hid hfs
      obtain ⟨c0, c1, c2⟩ := hfs
      have Hab : Hid (ad0.block < w.heap.size) := Lib.hid (by
        obtain ⟨ad1, _, _, _, e1, h0, _⟩ := HR.out k hkl
        injection e1 with e1
        subst e1
        have h := block_lt_of_cell h0
        rwa [block_of_add] at h)
      have Hlt := Lib.hid hlt
      clear hrw hlt hk hn hkl
      by_cases hin : 0 ≤ s.no ∧ s.no < 20 ∧ s.do_ ≠ 2
      rotate_left
      focus (
        by_cases hneg : s.no < 0
        focus (
          have d2 : decide (s.no < 0) = true := decide_eq_true hneg
          clear hneg hin
          go_wp2_with fail)
        rotate_left
        focus (
          have d2 : decide (s.no < 0) = false := decide_eq_false hneg
          by_cases hbig : 20 ≤ s.no
          focus (
            have d3 : decide (20 ≤ s.no) = true := decide_eq_true hbig
            clear hneg hin hbig
            go_wp2_with fail)
          rotate_left
          focus (
            have d3 : decide (20 ≤ s.no) = false := decide_eq_false hbig
            have d4 : (s.do_ == 2) = true := by
              have h : s.do_ = 2 := by omega
              simpa using h
            clear hneg hin hbig
            go_wp2_with fail)
          rotate_left)
        all_goals
          go_roundw
          case rel => exact ⟨k + 1, n, L, by have := Hlt.out; omega, by have := HK.out; omega, by first | go_num | rfl, rfl, HL.out, HD.out, HB.out, HW.out⟩
          case measure =>
            have hk40 := HK.out
            have := Hlt.out
            simp [intOf]
            omega)
      obtain ⟨h1, h2, h3⟩ := hin
      have d2 : decide (s.no < 0) = false := decide_eq_false (by omega)
      have d3 : decide (20 ≤ s.no) = false := decide_eq_false (by omega)
      have d4 : (s.do_ == 2) = false := by simpa using h3
      obtain ⟨i, hi⟩ := Int.eq_ofNat_of_zero_le h1
      have hi20 : i < 20 := by omega
      rw [hi] at c1 d2 d3 HC
      clear hi h1 h2 h3
      obtain ⟨v, Hv⟩ : ∃ v, Hid (s.b = v) := ⟨_, Lib.hid rfl⟩
      rw [Hv.out] at c2 HC
      have HDo : ∀ w', DV w' b g (lastD L n 0).dev → Calls Try.prog 11 #[.pointer (some ⟨b, 0, none⟩), .agg #[.int .i64 1, .int .i64 i, .int .u8 (v.toNat : Int)]] w' fun e w'' => e = .returned (.tuple #[.agg (bcells (zeros 256)), .int .i64 0]) ∧ Turn w' w'' b g ∧ DV w'' b g (lastD (L.set i v) (n + 1) 0).dev := fun w' h => by
        have hh := do_any b g (lastD L n 0).dev ⟨1, i, v⟩ w' h (by show (0 : Int) ≤ 1; decide) (by show (1 : Int) ≤ 3; decide) (by show (i : Int) < _; omega) (by show n < _; have := HK.out; omega) (by show (0 : Nat) < _; decide)
        rw [Doc.go_dev _ _ (by show (0 : Int) ≤ 1; decide) (by show (1 : Int) ≤ 3; decide), lastD_write L n 0 i (by have := HL.out; omega) v] at hh
        exact hh
      have Hi := Lib.hid hi20
      have z2 : (i : Int) < 20 := by omega
      clear hi20
      have HCw : Hid (∀ w', Turn wr w' b g → w'.cell? (ad0.add (k * 3)) = some (.int .i64 s.do_) ∧ w'.cell? ⟨(ad0.add (k * 3)).block, (ad0.add (k * 3)).off + 1, none⟩ = some (.int .i64 i) ∧ w'.cell? ⟨(ad0.add (k * 3)).block, (ad0.add (k * 3)).off + 2, none⟩ = some (.int .u8 (v.toNat : Int))) := Lib.hid fun w' t => by
        have h1 : (ad0.add (k * 3)).block ≠ b := by rw [block_of_add]; have := Hab.out; have := HLow.out; omega
        have h2 : (ad0.add (k * 3)).block ≠ g := by rw [block_of_add]; have := Hab.out; have := HLow.out; omega
        exact ⟨t.cell HC.out.1 h1 h2, t.cell HC.out.2.1 h1 h2, t.cell HC.out.2.2 h1 h2⟩
      go_upto_region 10 with fail
      go_cut [7, 8] from 45 to 60 (fun x u wx => u = .int .i64 0 ∧ Turn wr wx b g ∧ DV wx b g (lastD (L.set i v) (n + 1) 0).dev)
      case first =>
        refine WH.start (S := fun w' : World => Turn wr w' b g) (List.replicate 19 false) 19 rfl rfl (by kernel_rfl) (Turn.drew wr 1 b g) (fun hSn => ?_)
        have hS0 : DV wr.drew b g (lastD L n 0).dev := HD.out.ext (bdrew wr 1)
        simp only [List.replicate]
        obtain ⟨wS, hwS⟩ : ∃ x, wr.drew = x := ⟨_, rfl⟩
        rw [hwS] at hSn hS0 ⊢
        clear hwS
        refine WH.take 0 _ ?_ rfl (by kernel_rfl) (fun _ _ _ h => h) rfl (by assumption) ?_ ?_; rotate_left; (focus (intro w hSw; (try dsimp only at hSw); (first | (go_simp; done) | (go_simp; with_reducible rfl)))); simp only [Act.put, List.setIfInBounds_toArray, List.set_cons_zero, List.set_cons_succ]
        refine WH.take 1 _ ?_ rfl (by kernel_rfl) (fun _ _ _ h => h) rfl (by assumption) ?_ ?_; rotate_left; (focus (intro w hSw; (try dsimp only at hSw); (first | (go_simp; done) | (go_simp; with_reducible rfl)))); simp only [Act.put, List.setIfInBounds_toArray, List.set_cons_zero, List.set_cons_succ]
        refine WH.take 2 _ ?_ rfl (by kernel_rfl) (fun _ _ _ h => h) rfl (by assumption) ?_ ?_; rotate_left; (focus (intro w hSw; (try dsimp only at hSw); (first | (go_simp; done) | (go_simp; with_reducible rfl)))); simp only [Act.put, List.setIfInBounds_toArray, List.set_cons_zero, List.set_cons_succ]
        refine WH.take 3 _ ?_ rfl (by kernel_rfl) (fun _ _ _ h => h) rfl (by assumption) ?_ ?_; rotate_left; (focus (intro w hSw; (try dsimp only at hSw); (first | (go_simp; done) | (go_simp; with_reducible rfl)))); simp only [Act.put, List.setIfInBounds_toArray, List.set_cons_zero, List.set_cons_succ]
        refine WH.take 4 _ ?_ rfl (by kernel_rfl) (fun _ _ _ h => h) rfl (by assumption) ?_ ?_; rotate_left; (focus (intro w hSw; (try dsimp only at hSw); (first | (go_simp; done) | (go_simp; with_reducible rfl)))); simp only [Act.put, List.setIfInBounds_toArray, List.set_cons_zero, List.set_cons_succ]
        refine WH.take 5 _ _ rfl (by kernel_rfl) (fun _ _ _ h => h) rfl (by assumption) (fun w' hSw => exec_load_cell _ _ rfl _ rfl (.int .i64 i) (HCw.out _ hSw).2.1 _ Try.underlying3 rfl) ?_; simp only [Act.put, List.setIfInBounds_toArray, List.set_cons_zero, List.set_cons_succ]
        refine WH.take 6 _ ?_ rfl (by kernel_rfl) (fun _ _ _ h => h) rfl (by assumption) ?_ ?_; rotate_left; (focus (intro w hSw; (try dsimp only at hSw); (first | (go_simp; done) | (go_simp; with_reducible rfl)))); simp only [Act.put, List.setIfInBounds_toArray, List.set_cons_zero, List.set_cons_succ]
        refine WH.take 7 _ ?_ rfl (by kernel_rfl) (fun _ _ _ h => h) rfl (by assumption) ?_ ?_; rotate_left; (focus (intro w hSw; (try dsimp only at hSw); (first | (go_simp; done) | (go_simp; with_reducible rfl)))); simp only [Act.put, List.setIfInBounds_toArray, List.set_cons_zero, List.set_cons_succ]
        refine WH.take 8 _ ?_ rfl (by kernel_rfl) (fun _ _ _ h => h) rfl (by assumption) ?_ ?_; rotate_left; (focus (intro w hSw; (try dsimp only at hSw); (first | (go_simp; done) | (go_simp; with_reducible rfl)))); simp only [Act.put, List.setIfInBounds_toArray, List.set_cons_zero, List.set_cons_succ]
        refine WH.take 9 _ ?_ rfl (by kernel_rfl) (fun _ _ _ h => h) rfl (by assumption) ?_ ?_; rotate_left; (focus (intro w hSw; (try dsimp only at hSw); (first | (go_simp; done) | (go_simp; with_reducible rfl)))); simp only [Act.put, List.setIfInBounds_toArray, List.set_cons_zero, List.set_cons_succ]
        refine WH.take 10 _ _ rfl (by kernel_rfl) (fun _ _ _ h => h) rfl (by assumption) (fun w' hSw => exec_load_cell _ _ rfl _ rfl (.int .u8 (v.toNat : Int)) (HCw.out _ hSw).2.2 _ Try.underlying5 rfl) ?_; simp only [Act.put, List.setIfInBounds_toArray, List.set_cons_zero, List.set_cons_succ]
        refine WH.take 11 _ ?_ rfl (by kernel_rfl) (fun _ _ _ h => h) rfl (by assumption) ?_ ?_; rotate_left; (focus (intro w hSw; (try dsimp only at hSw); (first | (go_simp; done) | (go_simp; with_reducible rfl)))); simp only [Act.put, List.setIfInBounds_toArray, List.set_cons_zero, List.set_cons_succ]
        refine WH.two 12 16 _ _ rfl rfl (by kernel_rfl) rfl rfl (fun K hK => ?_) (fun K hK => ?_)
        focus (
          go_simp; refine (HDo _ hS0).mono ?_; rintro e wa ⟨rfl, hta, hda⟩; go_simp
          have hSn := hSn.trans hta; refine hK _ _ hSn ?_; clear hK; clear K; simp only [List.set_cons_zero, List.set_cons_succ]
          refine WH.take 13 _ ?_ rfl (by kernel_rfl) (fun _ _ _ h => h) rfl (by assumption) ?_ ?_; rotate_left; (focus (intro w hSw; (try dsimp only at hSw); (first | (go_simp; done) | (go_simp; with_reducible rfl)))); simp only [Act.put, List.setIfInBounds_toArray, List.set_cons_zero, List.set_cons_succ]
          refine WH.take 14 _ ?_ rfl (by kernel_rfl) (fun _ _ _ h => h) rfl (by assumption) ?_ ?_; rotate_left; (focus (intro w hSw; (try dsimp only at hSw); (first | (go_simp; done) | (go_simp; with_reducible rfl)))); simp only [Act.put, List.setIfInBounds_toArray, List.set_cons_zero, List.set_cons_succ]
          refine WH.take 15 _ ?_ rfl (by kernel_rfl) (fun _ _ _ h => h) rfl (by assumption) ?_ ?_; rotate_left; (focus (intro w hSw; (try dsimp only at hSw); (first | (go_simp; done) | (go_simp; with_reducible rfl)))); simp only [Act.put, List.setIfInBounds_toArray, List.set_cons_zero, List.set_cons_succ]
          refine WH.only 16 _ rfl (by kernel_rfl) rfl (fun K hK => ?_)
          refine ow_alloc _ rfl _ Try.blockZero ?_
          apply Stop.go
          intro wN HgN HBa
          have hle := hSn.size
          have hSn := hSn.bel HgN.out.1; refine hK _ _ hSn ?_; clear hK; clear K; simp only [Act.put, List.setIfInBounds_toArray, List.set_cons_zero, List.set_cons_succ]
          refine WH.only 17 _ rfl (by kernel_rfl) rfl (fun K hK => ?_)
          refine ow_store _ _ _ rfl _ (bcells (zeros 256)) rfl rfl _ _ HBa.out (Try.blockFits (zeros_len 256)) rfl (oneCell_bcells _) ?_
          apply Stop.go
          intro w9 Ho9 _
          have hda' := (hda.ext HgN.out.1).turn (Turn.of_only Ho9.out wa.heap.size) (by have := hda.lt; omega) (by have := hda.lt; omega) (by have := hda.lt; omega) (by have := hda.lt; omega)
          have hSn := hSn.new Ho9.out hle; refine hK _ _ hSn ?_; clear hK; clear K; simp only [Act.put, List.set_cons_zero, List.set_cons_succ]
          refine WH.take 18 _ ?_ rfl (by kernel_rfl) (fun _ _ _ h => h) rfl (by assumption) ?_ ?_; rotate_left; (focus (intro w hSw; (try dsimp only at hSw); (first | (go_simp; done) | (go_simp; with_reducible rfl)))); simp only [Act.put, List.setIfInBounds_toArray, List.set_cons_zero, List.set_cons_succ]
          refine WH.done (by kernel_rfl) ?_
          go_wp2_with fail
          go_meet
          exact ⟨rfl, hSn, hda'⟩)
        focus (
          refine ow_alloc _ rfl _ Try.blockZero ?_
          apply Stop.go
          intro wN HgN HBa
          have hle := hSn.size
          have hS1 := hS0.ext HgN.out.1
          have hlt0 := hS0.lt
          have hSn := hSn.bel HgN.out.1; refine hK _ _ hSn ?_; clear hK; clear K; simp only [Act.put, List.setIfInBounds_toArray, List.set_cons_zero, List.set_cons_succ]
          refine WH.only 12 _ rfl (by kernel_rfl) rfl (fun K hK => ?_)
          go_simp; refine (HDo _ hS1).mono ?_; rintro e wa ⟨rfl, hta, hda⟩; go_simp
          have hBb := HBa.out.turn hta (by omega) (by omega)
          have hSn := hSn.trans hta; refine hK _ _ hSn ?_; clear hK; clear K; simp only [List.set_cons_zero, List.set_cons_succ]
          refine WH.take 13 _ ?_ rfl (by kernel_rfl) (fun _ _ _ h => h) rfl (by assumption) ?_ ?_; rotate_left; (focus (intro w hSw; (try dsimp only at hSw); (first | (go_simp; done) | (go_simp; with_reducible rfl)))); simp only [Act.put, List.setIfInBounds_toArray, List.set_cons_zero, List.set_cons_succ]
          refine WH.take 14 _ ?_ rfl (by kernel_rfl) (fun _ _ _ h => h) rfl (by assumption) ?_ ?_; rotate_left; (focus (intro w hSw; (try dsimp only at hSw); (first | (go_simp; done) | (go_simp; with_reducible rfl)))); simp only [Act.put, List.setIfInBounds_toArray, List.set_cons_zero, List.set_cons_succ]
          refine WH.take 15 _ ?_ rfl (by kernel_rfl) (fun _ _ _ h => h) rfl (by assumption) ?_ ?_; rotate_left; (focus (intro w hSw; (try dsimp only at hSw); (first | (go_simp; done) | (go_simp; with_reducible rfl)))); simp only [Act.put, List.setIfInBounds_toArray, List.set_cons_zero, List.set_cons_succ]
          refine WH.only 17 _ rfl (by kernel_rfl) rfl (fun K hK => ?_)
          refine ow_store _ _ _ rfl _ (bcells (zeros 256)) rfl rfl _ _ hBb (Try.blockFits (zeros_len 256)) rfl (oneCell_bcells _) ?_
          apply Stop.go
          intro w9 Ho9 _
          have hda' := hda.turn (Turn.of_only Ho9.out wS.heap.size) (by omega) (by omega) (by omega) (by omega)
          have hSn := hSn.new Ho9.out hle; refine hK _ _ hSn ?_; clear hK; clear K; simp only [Act.put, List.set_cons_zero, List.set_cons_succ]
          refine WH.take 18 _ ?_ rfl (by kernel_rfl) (fun _ _ _ h => h) rfl (by assumption) ?_ ?_; rotate_left; (focus (intro w hSw; (try dsimp only at hSw); (first | (go_simp; done) | (go_simp; with_reducible rfl)))); simp only [Act.put, List.setIfInBounds_toArray, List.set_cons_zero, List.set_cons_succ]
          refine WH.done (by kernel_rfl) ?_
          go_wp2_with fail
          go_meet
          exact ⟨rfl, hSn, hda'⟩)
      case rest =>
        obtain ⟨rfl, ht, hd⟩ := hcut
        have HT := Lib.hid ht
        have HD2 := Lib.hid hd
        clear ht hd c0 c1 c2
        generalize wc = w5 at *
        have HB5 := Lib.hid (HB.out.turn HT.out (by have := HLow.out; omega) (by have := HLow.out; omega))
        go_wp2_with fail
        refine WH.start (S := fun w' : World => Turn w5 w' q q) (List.replicate 12 false) 12 rfl rfl (by kernel_rfl) (Turn.drew w5 1 q q) (fun hSn => ?_)
        simp only [List.replicate]
        have HCq : Hid (∀ w', Turn w5 w' q q → w'.cell? ⟨(ad0.add (k * 3)).block, (ad0.add (k * 3)).off + 1, none⟩ = some (.int .i64 i) ∧ w'.cell? ⟨(ad0.add (k * 3)).block, (ad0.add (k * 3)).off + 2, none⟩ = some (.int .u8 (v.toNat : Int))) := Lib.hid fun w' t => by
          have h1 : (ad0.add (k * 3)).block ≠ q := by rw [block_of_add]; have := Hab.out; have := HLow.out; omega
          have h := HCw.out _ HT.out
          exact ⟨t.cell h.2.1 h1 h1, t.cell h.2.2 h1 h1⟩
        refine WH.take 0 _ ?_ rfl (by kernel_rfl) (fun _ _ _ h => h) rfl (by assumption) ?_ ?_; rotate_left; (focus (intro w hSw; (try dsimp only at hSw); (first | (go_simp; done) | (go_simp; with_reducible rfl)))); simp only [Act.put, List.setIfInBounds_toArray, List.set_cons_zero, List.set_cons_succ]
        refine WH.take 1 _ ?_ rfl (by kernel_rfl) (fun _ _ _ h => h) rfl (by assumption) ?_ ?_; rotate_left; (focus (intro w hSw; (try dsimp only at hSw); (first | (go_simp; done) | (go_simp; with_reducible rfl)))); simp only [Act.put, List.setIfInBounds_toArray, List.set_cons_zero, List.set_cons_succ]
        refine WH.take 2 _ ?_ rfl (by kernel_rfl) (fun _ _ _ h => h) rfl (by assumption) ?_ ?_; rotate_left; (focus (intro w hSw; (try dsimp only at hSw); (first | (go_simp; done) | (go_simp; with_reducible rfl)))); simp only [Act.put, List.setIfInBounds_toArray, List.set_cons_zero, List.set_cons_succ]
        refine WH.take 3 _ ?_ rfl (by kernel_rfl) (fun _ _ _ h => h) rfl (by assumption) ?_ ?_; rotate_left; (focus (intro w hSw; (try dsimp only at hSw); (first | (go_simp; done) | (go_simp; with_reducible rfl)))); simp only [Act.put, List.setIfInBounds_toArray, List.set_cons_zero, List.set_cons_succ]
        refine WH.take 4 _ _ rfl (by kernel_rfl) (fun _ _ _ h => h) rfl (by assumption) (fun w' hSw => exec_load_cell _ _ rfl _ rfl (.int .i64 i) (HCq.out _ hSw).1 _ Try.underlying3 rfl) ?_; simp only [Act.put, List.setIfInBounds_toArray, List.set_cons_zero, List.set_cons_succ]
        refine WH.take 5 _ ?_ rfl (by kernel_rfl) (fun _ _ _ h => h) rfl (by assumption) ?_ ?_; rotate_left; (focus (intro w hSw; (try dsimp only at hSw); (first | (go_simp; done) | (go_simp; with_reducible rfl)))); simp only [Act.put, List.setIfInBounds_toArray, List.set_cons_zero, List.set_cons_succ]
        refine WH.take 6 _ ?_ rfl (by kernel_rfl) (fun _ _ _ h => h) rfl (by assumption) ?_ ?_; rotate_left; (focus (intro w hSw; (try dsimp only at hSw); (first | (go_simp; done) | (go_simp; with_reducible rfl)))); simp only [Act.put, List.setIfInBounds_toArray, List.set_cons_zero, List.set_cons_succ]
        refine WH.take 7 _ ?_ rfl (by kernel_rfl) (fun _ _ _ h => h) rfl (by assumption) ?_ ?_; rotate_left; (focus (intro w hSw; (try dsimp only at hSw); (first | (go_simp; done) | (go_simp; with_reducible rfl)))); simp only [Act.put, List.setIfInBounds_toArray, List.set_cons_zero, List.set_cons_succ]
        refine WH.take 8 _ ?_ rfl (by kernel_rfl) (fun _ _ _ h => h) rfl (by assumption) ?_ ?_; rotate_left; (focus (intro w hSw; (try dsimp only at hSw); (first | (go_simp; done) | (go_simp; with_reducible rfl)))); simp only [Act.put, List.setIfInBounds_toArray, List.set_cons_zero, List.set_cons_succ]
        refine WH.take 9 _ _ rfl (by kernel_rfl) (fun _ _ _ h => h) rfl (by assumption) (fun w' hSw => exec_load_cell _ _ rfl _ rfl (.int .u8 (v.toNat : Int)) (HCq.out _ hSw).2 _ Try.underlying5 rfl) ?_; simp only [Act.put, List.setIfInBounds_toArray, List.set_cons_zero, List.set_cons_succ]
        refine WH.take 10 _ ?_ rfl (by kernel_rfl) (fun _ _ _ h => h) rfl (by assumption) ?_ ?_; rotate_left; (focus (intro w hSw; (try dsimp only at hSw); (first | (go_simp; done) | (go_simp; with_reducible rfl)))); simp only [Act.put, List.setIfInBounds_toArray, List.set_cons_zero, List.set_cons_succ]
        refine WH.only 11 _ rfl (by kernel_rfl) rfl (fun K hK => ?_)
        refine ow_store_cell8 _ _ _ rfl Try.byteSize q i rfl (.int .u8 (v.toNat : Int)) rfl rfl rfl _ _ (HB5.out.ext (bdrew w5 1)) (by rw [bcells_size, HL.out]; exact Hi.out) ?_
        apply Stop.go
        intro w6 Ho6 Hb6
        have hSn := (Turn.drew w5 1 q q).trans (Turn.of_only Ho6.out q); refine hK _ _ hSn ?_; clear hK; clear K; simp only [Act.put, List.set_cons_zero, List.set_cons_succ]
        refine WH.done (by kernel_rfl) ?_
        rw [bcells_set] at Hb6
        have HT6 := Lib.hid ((Turn.drew w5 1 q q).trans (Turn.of_only Ho6.out q))
        have HD6 := Lib.hid (HD2.out.turn HT6.out (by have := HLow.out; omega) (by have := HLow.out; omega) (by have := HLow.out; omega) (by have := HLow.out; omega))
        have HW6 := Lib.hid ((HW.out.trans (HT.out.low HW.out.size HLow.out.1 HLow.out.2.1)).trans (HT6.out.low (by have := HW.out.size; have := HT.out.size; omega) HLow.out.2.2.1 HLow.out.2.2.1))
        clear Ho6 HCq HCw hSn HDo
        go_wp2_with fail
        go_roundw
        case rel =>
          exact ⟨k + 1, n + 1, L.set i v, by have := Hlt.out; omega, by have := HK.out; omega, by first | go_num | rfl, by first | go_num | rfl, by rw [List.length_set]; exact HL.out, HD6.out, Hb6.out, HW6.out⟩
        case measure =>
          have hk40 := HK.out
          have := Hlt.out
          simp [intOf]
          omega
    · have d1 : decide (k < m) = false := decide_eq_false hlt
      clear hlt hk hn hwk hwn
      obtain ⟨wL, hwL⟩ : ∃ x, x = wr := ⟨_, rfl⟩
      subst hwL
      go_wp2_with fail
      go_loopw [9] (fun i wr => ∃ j : Nat, j ≤ 20 ∧ i = .int .i64 j ∧ DV wr b g (lastD L n j).dev ∧ Blk wr q 51 (bcells L) ∧ Below w.heap.size w wr) (fun i _ => 20 - (intOf i).toNat)
      case atStart => exact ⟨0, Nat.zero_le _, rfl, HD.out, HB.out, HW.out⟩
      case round =>
        obtain ⟨j, hj, rfl, hdj, hbj, hwj⟩ := hrel
        have HDj := Lib.hid hdj
        have HBj := Lib.hid hbj
        have HWj := Lib.hid hwj
        clear hdj hbj hwj
        by_cases hjl : j < 20
        · have d2 : decide (j < 20) = true := decide_eq_true hjl
          have d2' : decide ((j : Int) < 20) = true := decide_eq_true (by omega)
          have z2 : (j : Int) < 20 := by omega
          have hwj1 : IntKind.i64.wrap ((j : Int) + 1) = (j : Int) + 1 := IntWalk.i64_in _ (by omega)
          have hjL : j < L.length := by have := HL.out; omega
          obtain ⟨e1, e2, e3⟩ := lastD_read L n j j hjL
          have HRd := DV.read b g _ _ HDj.out j (by show j < _; omega)
          rw [e1, e2, e3] at HRd
          have HX := Lib.hid (show L[j]? = some L[j] from List.getElem?_eq_getElem hjL)
          generalize L[j] = v at *
          have HFu := fun w' => full_any v w'
          have Hj := Lib.hid hjl
          clear hjl hj e1 e2 e3
          go_wp2_with (first | (go_at_call 19; refine HRd.mono ?_; rintro _ w5 ⟨rfl, hq5⟩; have Hq5 := Lib.hid hq5; clear hq5) | refine wpList_alloc_row rfl _ rfl _ Try.blockZero ?_)
          apply Stop.go; intro w6 Hg6 Hb6
          go_wp2_with (refine wpList_store_arr rfl _ _ _ rfl _ _ rfl rfl _ _ Hb6.out (Try.blockFits (full_len v)) (by rw [bcells_size, bcells_size, full_len, zeros_len]) (oneCell_bcells _) ?_)
          apply Stop.go; intro w7 Ho7 Hb7
          have hl5 := Hq5.out.2.lt
          have HD7 := Lib.hid ((Hq5.out.2.ext Hg6.out.1).turn (Turn.of_only Ho7.out w5.heap.size) (by omega) (by omega) (by omega) (by omega))
          have hq0 := HBj.out.lt
          have hs5 := Hq5.out.1.size
          have HB7 := Lib.hid (((HBj.out.turn Hq5.out.1 (by have := HLow.out; omega) (by have := HLow.out; omega)).ext Hg6.out.1).only Ho7.out (by omega))
          have HW7 := Lib.hid (bonly (bt (HWj.out.trans (Hq5.out.1.low HWj.out.size HLow.out.1 HLow.out.2.1)) Hg6.out.1) Ho7.out (by have := HWj.out.size; omega))
          obtain ⟨u, Hu⟩ : ∃ u, Hid (w5.heap.size = u) := ⟨_, Lib.hid rfl⟩
          rw [Hu.out] at Hb7 ⊢
          clear hl5 hq0 hs5 Hq5 Hg6 Ho7 Hb6 HRd
          go_wp2_with fail
          refine WH.start (S := fun w' : World => Below w7.heap.size w7 w') (List.replicate 10 false) 10 rfl rfl (by kernel_rfl) (bdrew w7 1) (fun hSn => ?_)
          simp only [List.replicate]
          obtain ⟨wS, hwS⟩ : ∃ x, w7.drew = x := ⟨_, rfl⟩
          rw [hwS] at hSn ⊢
          clear hwS
          have HCv : Hid (∀ w', Below w7.heap.size w7 w' → w'.cell? ⟨q, j, none⟩ = some (.int .u8 (v.toNat : Int))) := Lib.hid fun w' h => by
            rw [(HB7.out.ext h).cell, bcells_get, HX.out]
            rfl
          refine WH.take 0 _ ?_ rfl (by kernel_rfl) (fun _ _ _ h => h) rfl (by assumption) ?_ ?_; rotate_left; (focus (intro w hSw; (try dsimp only at hSw); (first | (go_simp; done) | (go_simp; with_reducible rfl)))); simp only [Act.put, List.setIfInBounds_toArray, List.set_cons_zero, List.set_cons_succ]
          refine WH.take 1 _ ?_ rfl (by kernel_rfl) (fun _ _ _ h => h) rfl (by assumption) ?_ ?_; rotate_left; (focus (intro w hSw; (try dsimp only at hSw); (first | (go_simp; done) | (go_simp; with_reducible rfl)))); simp only [Act.put, List.setIfInBounds_toArray, List.set_cons_zero, List.set_cons_succ]
          refine WH.take 2 _ ?_ rfl (by kernel_rfl) (fun _ _ _ h => h) rfl (by assumption) ?_ ?_; rotate_left; (focus (intro w hSw; (try dsimp only at hSw); (first | (go_simp; done) | (go_simp; with_reducible rfl)))); simp only [Act.put, List.setIfInBounds_toArray, List.set_cons_zero, List.set_cons_succ]
          refine WH.take 3 _ _ rfl (by kernel_rfl) (fun _ _ _ h => h) rfl (by assumption) (fun w' hSw => exec_load_blk _ _ rfl _ rfl _ _ (Hb7.out.ext hSw) _ (Try.underlying35) rfl (Try.blockFits (full_len v))) ?_; simp only [Act.put, List.setIfInBounds_toArray, List.set_cons_zero, List.set_cons_succ]
          refine WH.take 4 _ ?_ rfl (by kernel_rfl) (fun _ _ _ h => h) rfl (by assumption) ?_ ?_; rotate_left; (focus (intro w hSw; (try dsimp only at hSw); (first | (go_simp; done) | (go_simp; with_reducible rfl)))); simp only [Act.put, List.setIfInBounds_toArray, List.set_cons_zero, List.set_cons_succ]
          refine WH.take 5 _ ?_ rfl (by kernel_rfl) (fun _ _ _ h => h) rfl (by assumption) ?_ ?_; rotate_left; (focus (intro w hSw; (try dsimp only at hSw); (first | (go_simp; done) | (go_simp; with_reducible rfl)))); simp only [Act.put, List.setIfInBounds_toArray, List.set_cons_zero, List.set_cons_succ]
          refine WH.take 6 _ _ rfl (by kernel_rfl) (fun _ _ _ h => h) rfl (by assumption) (fun w' hSw => exec_load_cell _ _ rfl _ rfl (.int .u8 (v.toNat : Int)) (HCv.out _ hSw) _ Try.underlying5 rfl) ?_; simp only [Act.put, List.setIfInBounds_toArray, List.set_cons_zero, List.set_cons_succ]
          refine WH.only 7 _ rfl (by kernel_rfl) rfl (fun K hK => ?_)
          go_simp; refine (HFu _).mono ?_; rintro e wF ⟨rfl, hbF⟩; go_simp
          have hSn := bt hSn hbF; refine hK _ _ hSn ?_; clear hK; clear K; simp only [List.set_cons_zero, List.set_cons_succ]
          refine WH.take 8 _ _ rfl (by kernel_rfl) (fun _ _ _ h => h) rfl (by assumption) (fun w' hSw => exec_neq_arr _ _ _ _ rfl (by kernel_rfl) _ _ Try.underlying35 Try.underlying5 Try.byteSize (full v) (full v) rfl rfl (full_len v) (full_len v) false (by simp)) ?_; simp only [Act.put, List.setIfInBounds_toArray, List.set_cons_zero, List.set_cons_succ]
          refine WH.take 9 _ ?_ rfl (by kernel_rfl) (fun _ _ _ h => h) rfl (by assumption) ?_ ?_; rotate_left; (focus (intro w hSw; (try dsimp only at hSw); (first | (go_simp; done) | (go_simp; with_reducible rfl)))); simp only [Act.put, List.setIfInBounds_toArray, List.set_cons_zero, List.set_cons_succ]
          refine WH.done (by kernel_rfl) ?_
          have HS := Lib.hid hSn
          clear HFu hSn HCv hbF
          go_wp2_with fail
          go_roundw
          case rel => exact ⟨j + 1, by have := Hj.out; omega, by first | go_num | rfl, HD7.out.ext HS.out, HB7.out.ext HS.out, bt HW7.out HS.out⟩
          case measure =>
            have := Hj.out
            simp [intOf]
            omega
        · have d2 : decide (j < 20) = false := decide_eq_false hjl
          have d2' : decide ((j : Int) < 20) = false := decide_eq_false (by omega)
          obtain rfl : j = 20 := by omega
          have HWr := Lib.hid (writes_any b _ _ _ HDj.out.ds)
          have HRr := Lib.hid (reads_any b _ _ _ HDj.out.ds)
          have e1 : (lastD L n 20).dev.wr = n := rfl
          have e2 : (lastD L n 20).dev.rd = 20 := rfl
          rw [e1] at HWr
          rw [e2] at HRr
          clear hjl hj e1 e2
          go_wp2_with (first | (go_at_call 14; refine HWr.out.mono ?_; rintro _ _ ⟨rfl, rfl⟩) | (go_at_call 15; refine HRr.out.mono ?_; rintro _ _ ⟨rfl, rfl⟩) | (go_at_call 7; refine (works_any _).mono ?_; rintro _ w9 ⟨rfl, hb9⟩))
          go_ret
          exact ⟨rfl, bt HWj.out hb9⟩

end Go.Proofs.Ytefienjcdchebaa
