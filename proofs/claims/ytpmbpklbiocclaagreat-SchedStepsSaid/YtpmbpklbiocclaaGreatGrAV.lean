/-
  Texts of this claim joined: R09f, R09g.
-/
import Derived.Test.YtpmbpklbiocclaaGreatGrAT
import Derived.Test.YtpmbpklbiocclaaGreatGrAO
import Derived.Test.YtpmbpklbiocclaaGreatGrAW
import Derived.Test.YtpmbpklbiocclaaGreatGrAH
import Derived.Test.YtpmbpklbiocclaaGreatGrAJ
import Derived.Deep.LoopGhost

namespace Go.Proofs.YtpmbpklbiocclaaGreat
open Go.RowKit



set_option maxRecDepth 100000 in
set_option maxHeartbeats 4000000 in
theorem rsame9_any (c : Cg) (Ad : Option Addr) (nd cd : Nat) (An : Option Addr) (nn cn : Nat) (Ae : Option Addr) (ne ce : Nat) (Am : Option Addr) (nm cm : Nat) (w : World) (hc : CV w c Ad nd cd An nn cn) (hd : CV w c Ae ne ce Am nm cm) :
    Calls Tryz.prog 69 #[.agg #[.int .i64 c.id, .int .i64 c.block, .int .i64 c.p.at_, .slice Ad nd cd, .slice An nn cn], .agg #[.int .i64 c.id, .int .i64 c.block, .int .i64 c.p.at_, .slice Ae ne ce, .slice Am nm cm]] w fun e w' => e = .returned (.bool true) ∧ Below w.heap.size w w' := by
  have Hc := Lib.hid hc
  have Hd := Lib.hid hd
  clear hc hd
  go_enter Tryz.func69, Tryz.ntmps69
  go_wp2_with (refine wpList_box_row rfl _ _ rfl _ rfl ?_)
  apply Stop.go; intro w1 Hg1 Hb1
  go_wp2_with (refine wpList_box_row rfl _ _ rfl _ rfl ?_)
  apply Stop.go; intro w2 Hg2 Hb2
  have Hw2 := Lib.hid (bt Hg1.out.1 Hg2.out.1)
  have Hx2 := Lib.hid (Hb1.out.ext Hg2.out.1)
  have c0 : w2.cell? ⟨w.heap.size, 0, none⟩ = some (.int .i64 c.id) := Hx2.out.five.1
  have c1 : w2.cell? ⟨w.heap.size, 1, none⟩ = some (.int .i64 c.block) := Hx2.out.five.2.1
  have c2 : w2.cell? ⟨w1.heap.size, 0, none⟩ = some (.int .i64 c.id) := Hb2.out.five.1
  have c3 : w2.cell? ⟨w1.heap.size, 1, none⟩ = some (.int .i64 c.block) := Hb2.out.five.2.1
  go_wp2_with (first | refine wpList_load_pair rfl _ _ rfl ⟨w.heap.size, 2, none⟩ rfl (.int .i64 c.p.at_) (.slice Ad nd cd) Hx2.out.five.2.2.1 Hx2.out.five.2.2.2.2.2 _ Tryz.underlying58 Tryz.rpatchSize ?_ | refine wpList_load_pair rfl _ _ rfl ⟨w1.heap.size, 2, none⟩ rfl (.int .i64 c.p.at_) (.slice Ae ne ce) Hb2.out.five.2.2.1 Hb2.out.five.2.2.2.2.2 _ Tryz.underlying58 Tryz.rpatchSize ?_)
  refine (rsamep_any c.p Ad nd cd c.p Ae ne ce _ (Hc.out.p.below Hw2.out) (Hd.out.p.below Hw2.out)).mono ?_; rintro e w3 ⟨rfl, hb3⟩
  rw [sameP_self]
  have Hb3 := Lib.hid hb3
  have c4 : w3.cell? ⟨w.heap.size, 4, none⟩ = some (.slice An nn cn) := (Hx2.out.ext hb3).five.2.2.2.2.1
  have c5 : w3.cell? ⟨w1.heap.size, 4, none⟩ = some (.slice Am nm cm) := (Hb2.out.ext hb3).five.2.2.2.2.1
  have Hw3 := Lib.hid (bt Hw2.out hb3)
  clear hb3 c0 c1 c2 c3
  go_wp2_with fail
  refine (ints_any An nn cn c.needs Hc.out.len Am nm cm c.needs Hd.out.len (Nat.le_trans Hc.out.cap Hc.out.max) (Nat.le_trans Hd.out.cap Hd.out.max) _ (Hc.out.read.below Hw3.out) (Hd.out.read.below Hw3.out)).mono ?_; rintro e w4 ⟨rfl, q4, rfl⟩
  rw [decide_eq_true rfl]
  have Hw4 := Lib.hid (bt Hw3.out (bdrew w3 q4))
  generalize w3.drewN q4 = w4 at *
  clear c4 c5
  go_wp2_with fail
  go_ret
  exact ⟨rfl, Hw4.out⟩

set_option maxRecDepth 100000 in
set_option maxHeartbeats 4000000 in
theorem rsameAll9_any (A : Option Addr) (n c : Nat) (A' : Option Addr) (c' : Nat) (l : List Cg) (hn : l.length = n) (hm : n ≤ 4096) (w : World) (hr : RdL RdC w A 5 l) (hr' : RdL RdC w A' 5 l) :
    Calls Tryz.prog 35 #[.slice A n c, .slice A' n c'] w fun e w' => e = .returned (.bool true) ∧ Below w.heap.size w w' := by
  have Hn := Lib.hid hn
  have Hr := Lib.hid hr
  have Hr' := Lib.hid hr'
  clear hn hr hr'
  have hb : ((n : Int) != (n : Int)) = false := by simp
  go_enter Tryz.func35, Tryz.ntmps35
  go_wp2_with fail
  go_loopw [5] (fun i wr => ∃ k : Nat, k ≤ n ∧ i = .int .i64 k ∧ Below w.heap.size w wr) (fun i _ => n - (intOf i).toNat)
  case atStart => exact ⟨0, Nat.zero_le _, rfl, Below.refl _ _⟩
  case round =>
    obtain ⟨k, hk, rfl, hbw⟩ := hrel
    have Hbw := Lib.hid hbw
    clear hbw
    by_cases hlt : k < n
    · have d0 : decide ((k : Int) < n) = true := by simpa using hlt
      have hkl : k < l.length := by rw [Hn.out]; exact hlt
      have z1 : (k : Int) < n := by omega
      obtain ⟨ad, Ad, nd, cd, An, nn, cn, rfl, hcv, h0, h1, h2, h3, h4⟩ := (Hr.out.below Hbw.out).cg hkl
      obtain ⟨ad', Ae, ne, ce, Am, nm, cm, rfl, hdv, h0', h1', h2', h3', h4'⟩ := (Hr'.out.below Hbw.out).cg hkl
      have C0 := Lib.hid h0
      have C1 := Lib.hid h1
      have C2 := Lib.hid h2
      have C3 := Lib.hid h3
      have C4 := Lib.hid h4
      have D0 := Lib.hid h0'
      have D1 := Lib.hid h1'
      have D2 := Lib.hid h2'
      have D3 := Lib.hid h3'
      have D4 := Lib.hid h4'
      have Hcv := Lib.hid hcv
      have Hdv := Lib.hid hdv
      clear h0 h1 h2 h3 h4 h0' h1' h2' h3' h4' hcv hdv
      generalize l[k] = c at *
      go_wp2_with fail
      refine WH.start (S := fun w' : World => Below wr.heap.size wr w') (List.replicate 10 false) 10 rfl rfl (by kernel_rfl) (bdrew wr 1) (fun hSn => ?_)
      simp only [List.replicate]
      refine WH.tk 0 ?_; simp only [setL]
      refine WH.tk 1 ?_; simp only [setL]
      refine WH.tk 2 ?_; simp only [setL]
      refine WH.tv 3 rfl (fun w' hSw => exec_load_five _ _ rfl (ad.add (k * 5)) rfl _ _ _ _ _ ((hSw.cell (block_lt_of_cell C0.out)).trans C0.out) ((hSw.cell (block_lt_of_cell C1.out)).trans C1.out) ((hSw.cell (block_lt_of_cell C2.out)).trans C2.out) ((hSw.cell (block_lt_of_cell C3.out)).trans C3.out) ((hSw.cell (block_lt_of_cell C4.out)).trans C4.out) _ Tryz.underlying119 Tryz.rchgSize) ?_; simp only [setL]
      refine WH.tk 4 ?_; simp only [setL]
      refine WH.tk 5 ?_; simp only [setL]
      refine WH.tk 6 ?_; simp only [setL]
      refine WH.tv 7 rfl (fun w' hSw => exec_load_five _ _ rfl (ad'.add (k * 5)) rfl _ _ _ _ _ ((hSw.cell (block_lt_of_cell D0.out)).trans D0.out) ((hSw.cell (block_lt_of_cell D1.out)).trans D1.out) ((hSw.cell (block_lt_of_cell D2.out)).trans D2.out) ((hSw.cell (block_lt_of_cell D3.out)).trans D3.out) ((hSw.cell (block_lt_of_cell D4.out)).trans D4.out) _ Tryz.underlying119 Tryz.rchgSize) ?_; simp only [setL]
      refine WH.only 8 _ rfl (by kernel_rfl) rfl (fun K hK => ?_); go_simp; refine (rsame9_any c Ad nd cd An nn cn Ae ne ce Am nm cm _ (Hcv.out.below hSn) (Hdv.out.below hSn)).mono ?_; rintro e w3 ⟨rfl, hb3⟩; go_simp
      have hSn := bt hSn hb3; refine hK _ _ hSn ?_; clear hK; clear K; simp only [setL]
      refine WH.tk 9 ?_; simp only [setL]
      refine WH.done (by kernel_rfl) ?_
      have Hb3 := Lib.hid (bt Hbw.out hSn)
      clear hSn hb3
      go_wp2_with fail
      go_roundw
      case rel => exact ⟨k + 1, by omega, by go_num, Hb3.out⟩
      case measure => simp [intOf]; omega
    · have d0 : decide ((k : Int) < n) = false := by simpa using hlt
      go_wp2_with fail
      go_ret
      exact ⟨rfl, Hbw.out⟩

end Go.Proofs.YtpmbpklbiocclaaGreat

namespace Go.Proofs.YtpmbpklbiocclaaGreat
open Go.RowKit

set_option maxRecDepth 100000 in
set_option maxHeartbeats 8000000 in
theorem rblocks9_any (A : Option Addr) (n cap : Nat) (l : List Cg) (hn : l.length = n) (hm : n ≤ 4096) (w : World) (hr : RdL RdC w A 5 l) :
    Calls Tryz.prog 26 #[.slice A n cap] w (RetI w (blocksC l)) := by
  have Hn := Lib.hid hn
  have Hr := Lib.hid hr
  have HL := Lib.hid (show (blocksC l).length ≤ 4096 by have := blocksC_len l; omega)
  have HNo := Lib.hid (fun (m : Nat) (x : Int) (h : Least (blocksC l) m l n x false) (hm : m ≤ (blocksC l).length) => Least.end_no (by rw [hn]; exact h) hm)
  have HYes := Lib.hid (fun (m : Nat) (x : Int) (h : Least (blocksC l) m l n x true) (hm : m ≤ (blocksC l).length) => Least.end_yes (by rw [hn]; exact h) hm)
  clear hn hr
  generalize blocksC l = S at *
  go_enter Tryz.func26, Tryz.ntmps26
  go_wp2_with fail
  go_loopg [3] S.length (fun g o wr => ∃ m : Nat, m ≤ S.length ∧ S.length - m ≤ g ∧ OwnC wr w.heap.size 3 o (ivals (S.take m)) ∧ Below w.heap.size w wr)
  case atStart => exact ⟨0, Nat.zero_le _, Nat.le_refl _, OwnC.nil_ _ _ _, Below.refl _ _⟩
  case round =>
    obtain ⟨m, hmS, hg, hu, hbw⟩ := hrel
    have Hu := Lib.hid hu
    have Hbw := Lib.hid hbw
    have Hm := Lib.hid (And.intro hmS hg)
    have Hlm := Lib.hid (show (S.take m).length = m by rw [List.length_take]; omega)
    clear hu hbw hg
    have hm4 : m ≤ 4096 := by have := HL.out; omega
    obtain ⟨Av, cv, hv, hv1, hv2, hv3⟩ := Hu.out.ints
    subst hv
    rw [Hlm.out] at Hu hv1 ⊢
    have Hv3 := Lib.hid hv3
    clear hv1 hv2 hv3
    go_wp2_with fail
    generalize hw9 : wr = w9 at *
    clear hw9
    go_loopw [4, 5, 6] (fun x f i wq => ∃ (j : Nat) (xv : Int) (fv : Bool), j ≤ n ∧ i = .int .i64 j ∧ x = .int .i64 xv ∧ f = .bool fv ∧ Least S m l j xv fv ∧ wq = w9) (fun _ _ i _ => n - (intOf i).toNat)
    case atStart => exact ⟨0, 0, false, Nat.zero_le _, rfl, rfl, rfl, Least.start _ _ _ _, rfl⟩
    case round =>
      obtain ⟨j, xv, fv, hj, rfl, rfl, rfl, hle, rfl⟩ := hrel
      have Hle := Lib.hid hle
      clear hle
      by_cases hlt : j < n
      · have d0 : decide ((j : Int) < n) = true := by simpa using hlt
        have hjl : j < l.length := by rw [Hn.out]; exact hlt
        have z1 : (j : Int) < n := by omega
        obtain ⟨ad, Ad, nd, cd, An, nn, cn, rfl, hcv, h0, h1, -⟩ := (Hr.out.below Hbw.out).cg hjl
        have c1 := cell_fld h0 h1
        have Hskip := Lib.hid (fun h => Hle.out.skip hjl h)
        have Hput := Lib.hid (fun h h' => Hle.out.put hjl h h')
        have Hkeep := Lib.hid (fun (h : fv = true) h' => (show Least S m l j xv true by rw [← h]; exact Hle.out).keep hjl h')
        clear hcv h0 h1
        generalize l[j] = c at *
        clear hjl
        -- behind what is there, or not
        have hbe : (m = 0 ∧ behind S m c.block = true) ∨ (m ≠ 0 ∧ ∃ y : Int, (∃ ao, Av = some ao ∧ wr.cell? (ao.add (m - 1)) = some (.int .i64 y)) ∧ behind S m c.block = decide (y < c.block)) := by
          by_cases h0 : m = 0
          · left; exact ⟨h0, by unfold behind; rw [decide_eq_true h0, Bool.true_or]⟩
          · right
            have hk : m - 1 < (S.take m).length := by rw [Hlm.out]; omega
            obtain ⟨ao, e, hc⟩ := Hv3.out.int (m - 1) hk
            refine ⟨h0, _, ⟨ao, e, hc⟩, ?_⟩
            unfold behind
            rw [decide_eq_false h0, Bool.false_or, List.getElem_take]
            simp [List.getD, show m - 1 < S.length by have := Hm.out; omega]
        rcases hbe with ⟨h0, hbt⟩ | ⟨h0, y, ⟨ao, rfl, hcy⟩, hby⟩
        · have dm : decide (0 < m) = false := decide_eq_false (by omega)
          have Hbt := Lib.hid hbt
          clear hbt
          cases fv
          · have HX := Lib.hid (Hput.out Hbt.out (Or.inl rfl))
            go_wp2_with fail
            go_roundw
            case rel => exact ⟨j + 1, c.block, true, by omega, by go_num, rfl, rfl, HX.out, by first | rfl | trivial⟩
            case measure => simp [intOf]; omega
          · by_cases hx : c.block < xv
            · have d1 : decide (c.block < xv) = true := decide_eq_true hx
              have HX := Lib.hid (Hput.out Hbt.out (Or.inr hx))
              clear hx
              go_wp2_with fail
              go_roundw
              case rel => exact ⟨j + 1, c.block, true, by omega, by go_num, rfl, rfl, HX.out, by first | rfl | trivial⟩
              case measure => simp [intOf]; omega
            · have d1 : decide (c.block < xv) = false := decide_eq_false hx
              have HX := Lib.hid (Hkeep.out rfl (by omega))
              clear hx
              go_wp2_with fail
              go_roundw
              case rel => exact ⟨j + 1, xv, true, by omega, by go_num, rfl, rfl, HX.out, by first | rfl | trivial⟩
              case measure => simp [intOf]; omega
        · have dm : decide (0 < m) = true := decide_eq_true (by omega)
          obtain ⟨m', hm'⟩ : ∃ m', m = m' + 1 := ⟨m - 1, by omega⟩
          have hcy' : wr.cell? (ao.add m') = some (.int .i64 y) := by rw [show m' = m - 1 by omega]; exact hcy
          have qm : IntKind.i64.wrap ((m : Int) - 1) = (m' : Int) := by rw [IntKind.wrap_i64]; omega
          have zm : (m' : Int) < m := by omega
          have Hby := Lib.hid hby
          have Hm' := Lib.hid hm'
          clear hby hcy h0 hm'
          by_cases hy : y < c.block
          · have dy : decide (c.block ≤ y) = false := decide_eq_false (by omega)
            have Hbt := Lib.hid (show behind S m c.block = true by rw [Hby.out, decide_eq_true hy])
            clear hy
            cases fv
            · have HX := Lib.hid (Hput.out Hbt.out (Or.inl rfl))
              go_wp2_with fail
              go_roundw
              case rel => exact ⟨j + 1, c.block, true, by omega, by go_num, rfl, rfl, HX.out, by first | rfl | trivial⟩
              case measure => simp [intOf]; omega
            · by_cases hx : c.block < xv
              · have d1 : decide (c.block < xv) = true := decide_eq_true hx
                have HX := Lib.hid (Hput.out Hbt.out (Or.inr hx))
                clear hx
                go_wp2_with fail
                go_roundw
                case rel => exact ⟨j + 1, c.block, true, by omega, by go_num, rfl, rfl, HX.out, by first | rfl | trivial⟩
                case measure => simp [intOf]; omega
              · have d1 : decide (c.block < xv) = false := decide_eq_false hx
                have HX := Lib.hid (Hkeep.out rfl (by omega))
                clear hx
                go_wp2_with fail
                go_roundw
                case rel => exact ⟨j + 1, xv, true, by omega, by go_num, rfl, rfl, HX.out, by first | rfl | trivial⟩
                case measure => simp [intOf]; omega
          · have dy : decide (c.block ≤ y) = true := decide_eq_true (by omega)
            have HX := Lib.hid (Hskip.out (by rw [Hby.out, decide_eq_false hy]))
            clear hy
            go_wp2_with fail
            go_roundw
            case rel => exact ⟨j + 1, xv, fv, by omega, by go_num, rfl, rfl, HX.out, by first | rfl | trivial⟩
            case measure => simp [intOf]; omega
      · have d0 : decide ((j : Int) < n) = false := by simpa using hlt
        have hjn : j = n := by omega
        rw [hjn] at Hle
        cases fv
        · have HX := Lib.hid (HNo.out m xv Hle.out Hm.out.1)
          go_wp2_with fail
          go_ret
          have ho := Hu.out
          rw [List.take_of_length_le (Nat.le_of_eq HX.out.symm)] at ho
          exact ho.retI Hbw.out
        · obtain ⟨hlt2, hx⟩ := HYes.out m xv Hle.out Hm.out.1
          have HX := Lib.hid (show S.take (m + 1) = S.take m ++ [xv] by rw [← hx]; exact List.take_succ_eq_append_getElem hlt2)
          have HM1 := Lib.hid hlt2
          have hl1 : (ivals (S.take m)).length + 1 ≤ maxLen := by rw [ivals_len, Hlm.out]; unfold maxLen; omega
          have hl2 : ((ivals (S.take m)).length + 1) * 8 ≤ 140737488355328 := by rw [ivals_len, Hlm.out]; omega
          clear hlt2 hx
          go_wp2_with (at_builtin; refine wpList_append_one rfl _ _ _ _ rfl Tryz.underlying59 (.int .i64 0) 8 Tryz.infoInt rfl w.heap.size _ _ rfl Hu.out (.int .i64 xv) rfl rfl Hbw.out.size hl1 hl2 ?_)
          apply Stop.go
          intro v' w6 Hv' Ha'
          have D6 := Lib.hid (Hbw.out.trans Ha'.out.below)
          go_wp2_with fail
          go_roundg (S.length - (m + 1))
          case measure => have := Hm.out; have := HM1.out; omega
          case rel => exact ⟨m + 1, HM1.out, Nat.le_refl _, by rw [HX.out, ← ivals_snoc]; exact Hv'.out, D6.out⟩

end Go.Proofs.YtpmbpklbiocclaaGreat
