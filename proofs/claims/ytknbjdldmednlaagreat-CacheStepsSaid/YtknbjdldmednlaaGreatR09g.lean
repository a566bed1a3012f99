/-
  The contract of the document's Blocks.
-/
import Derived.Test.YtknbjdldmednlaaGreatGrN
import Derived.Test.YtknbjdldmednlaaGreatGrH
import Derived.Test.YtknbjdldmednlaaGreatGrJ
import Derived.Deep.LoopGhost
namespace Go.Proofs.YtknbjdldmednlaaGreat
open Go.RowKit

set_option maxRecDepth 100000 in
set_option maxHeartbeats 8000000 in
theorem rblocks9_any (A : Option Addr) (n cap : Nat) (l : List Cg) (hn : l.length = n) (hm : n ≤ 4096) (w : World) (hr : RdL RdC w A 5 l) :
    Calls Tryz.prog 19 #[.slice A n cap] w (RetI w (blocksC l)) := by
  have Hn := Lib.hid hn
  have Hr := Lib.hid hr
  have HL := Lib.hid (show (blocksC l).length ≤ 4096 by have := blocksC_len l; omega)
  have HNo := Lib.hid (fun (m : Nat) (x : Int) (h : Least (blocksC l) m l n x false) (hm : m ≤ (blocksC l).length) => Least.end_no (by rw [hn]; exact h) hm)
  have HYes := Lib.hid (fun (m : Nat) (x : Int) (h : Least (blocksC l) m l n x true) (hm : m ≤ (blocksC l).length) => Least.end_yes (by rw [hn]; exact h) hm)
  clear hn hr
  generalize blocksC l = S at *
  go_enter Tryz.func19, Tryz.ntmps19
  go_wp2_with fail
  go_loopg [3] S.length (fun g o wr => ∃ m : Nat, m ≤ S.length ∧ S.length - m ≤ g ∧ OwnC wr w.heap.size 3 o (ivals (S.take m)) ∧ Below w.heap.size w wr)
  case atStart => exact ⟨0, Nat.zero_le _, Nat.le_refl _, OwnC.nil_ _ _ _, Below.refl _ _⟩
  case round =>
    obtain ⟨m, hmS, hg, hu, hbw⟩ := hrel
    have Hu := Lib.hid hu
    have Hbw := Lib.hid hbw
    have Hm := Lib.hid (And.intro hmS hg)
    have Hlm := Lib.hid (show (S.take m).length = m by rw [List.length_take]; omega)
    clear hu hbw hg
    have hm4 : m ≤ 4096 := by have := HL.out; omega
    obtain ⟨Av, cv, hv, hv1, hv2, hv3⟩ := Hu.out.ints
    subst hv
    rw [Hlm.out] at Hu hv1 ⊢
    have Hv3 := Lib.hid hv3
    clear hv1 hv2 hv3
    go_wp2_with fail
    generalize hw9 : wr = w9 at *
    clear hw9
    go_loopw [4, 5, 6] (fun x f i wq => ∃ (j : Nat) (xv : Int) (fv : Bool), j ≤ n ∧ i = .int .i64 j ∧ x = .int .i64 xv ∧ f = .bool fv ∧ Least S m l j xv fv ∧ wq = w9) (fun _ _ i _ => n - (intOf i).toNat)
    case atStart => exact ⟨0, 0, false, Nat.zero_le _, rfl, rfl, rfl, Least.start _ _ _ _, rfl⟩
    case round =>
      obtain ⟨j, xv, fv, hj, rfl, rfl, rfl, hle, rfl⟩ := hrel
      have Hle := Lib.hid hle
      clear hle
      by_cases hlt : j < n
      · have d0 : decide ((j : Int) < n) = true := by simpa using hlt
        have hjl : j < l.length := by rw [Hn.out]; exact hlt
        have z1 : (j : Int) < n := by omega
        obtain ⟨ad, Ad, nd, cd, An, nn, cn, rfl, hcv, h0, h1, -⟩ := (Hr.out.below Hbw.out).cg hjl
        have c1 := cell_fld h0 h1
        have Hskip := Lib.hid (fun h => Hle.out.skip hjl h)
        have Hput := Lib.hid (fun h h' => Hle.out.put hjl h h')
        have Hkeep := Lib.hid (fun (h : fv = true) h' => (show Least S m l j xv true by rw [← h]; exact Hle.out).keep hjl h')
        clear hcv h0 h1
        generalize l[j] = c at *
        clear hjl
        -- behind what is there, or not
        have hbe : (m = 0 ∧ behind S m c.block = true) ∨ (m ≠ 0 ∧ ∃ y : Int, (∃ ao, Av = some ao ∧ wr.cell? (ao.add (m - 1)) = some (.int .i64 y)) ∧ behind S m c.block = decide (y < c.block)) := by
          by_cases h0 : m = 0
          · left; exact ⟨h0, by unfold behind; rw [decide_eq_true h0, Bool.true_or]⟩
          · right
            have hk : m - 1 < (S.take m).length := by rw [Hlm.out]; omega
            obtain ⟨ao, e, hc⟩ := Hv3.out.int (m - 1) hk
            refine ⟨h0, _, ⟨ao, e, hc⟩, ?_⟩
            unfold behind
            rw [decide_eq_false h0, Bool.false_or, List.getElem_take]
            simp [List.getD, show m - 1 < S.length by have := Hm.out; omega]
        rcases hbe with ⟨h0, hbt⟩ | ⟨h0, y, ⟨ao, rfl, hcy⟩, hby⟩
        · have dm : decide (0 < m) = false := decide_eq_false (by omega)
          have Hbt := Lib.hid hbt
          clear hbt
          cases fv
          · have HX := Lib.hid (Hput.out Hbt.out (Or.inl rfl))
            go_wp2_with fail
            go_roundw
            case rel => exact ⟨j + 1, c.block, true, by omega, by go_num, rfl, rfl, HX.out, by first | rfl | trivial⟩
            case measure => simp [intOf]; omega
          · by_cases hx : c.block < xv
            · have d1 : decide (c.block < xv) = true := decide_eq_true hx
              have HX := Lib.hid (Hput.out Hbt.out (Or.inr hx))
              clear hx
              go_wp2_with fail
              go_roundw
              case rel => exact ⟨j + 1, c.block, true, by omega, by go_num, rfl, rfl, HX.out, by first | rfl | trivial⟩
              case measure => simp [intOf]; omega
            · have d1 : decide (c.block < xv) = false := decide_eq_false hx
              have HX := Lib.hid (Hkeep.out rfl (by omega))
              clear hx
              go_wp2_with fail
              go_roundw
              case rel => exact ⟨j + 1, xv, true, by omega, by go_num, rfl, rfl, HX.out, by first | rfl | trivial⟩
              case measure => simp [intOf]; omega
        · have dm : decide (0 < m) = true := decide_eq_true (by omega)
          obtain ⟨m', hm'⟩ : ∃ m', m = m' + 1 := ⟨m - 1, by omega⟩
          have hcy' : wr.cell? (ao.add m') = some (.int .i64 y) := by rw [show m' = m - 1 by omega]; exact hcy
          have qm : IntKind.i64.wrap ((m : Int) - 1) = (m' : Int) := by rw [IntKind.wrap_i64]; omega
          have zm : (m' : Int) < m := by omega
          have Hby := Lib.hid hby
          have Hm' := Lib.hid hm'
          clear hby hcy h0 hm'
          by_cases hy : y < c.block
          · have dy : decide (c.block ≤ y) = false := decide_eq_false (by omega)
            have Hbt := Lib.hid (show behind S m c.block = true by rw [Hby.out, decide_eq_true hy])
            clear hy
            cases fv
            · have HX := Lib.hid (Hput.out Hbt.out (Or.inl rfl))
              go_wp2_with fail
              go_roundw
              case rel => exact ⟨j + 1, c.block, true, by omega, by go_num, rfl, rfl, HX.out, by first | rfl | trivial⟩
              case measure => simp [intOf]; omega
            · by_cases hx : c.block < xv
              · have d1 : decide (c.block < xv) = true := decide_eq_true hx
                have HX := Lib.hid (Hput.out Hbt.out (Or.inr hx))
                clear hx
                go_wp2_with fail
                go_roundw
                case rel => exact ⟨j + 1, c.block, true, by omega, by go_num, rfl, rfl, HX.out, by first | rfl | trivial⟩
                case measure => simp [intOf]; omega
              · have d1 : decide (c.block < xv) = false := decide_eq_false hx
                have HX := Lib.hid (Hkeep.out rfl (by omega))
                clear hx
                go_wp2_with fail
                go_roundw
                case rel => exact ⟨j + 1, xv, true, by omega, by go_num, rfl, rfl, HX.out, by first | rfl | trivial⟩
                case measure => simp [intOf]; omega
          · have dy : decide (c.block ≤ y) = true := decide_eq_true (by omega)
            have HX := Lib.hid (Hskip.out (by rw [Hby.out, decide_eq_false hy]))
            clear hy
            go_wp2_with fail
            go_roundw
            case rel => exact ⟨j + 1, xv, fv, by omega, by go_num, rfl, rfl, HX.out, by first | rfl | trivial⟩
            case measure => simp [intOf]; omega
      · have d0 : decide ((j : Int) < n) = false := by simpa using hlt
        have hjn : j = n := by omega
        rw [hjn] at Hle
        cases fv
        · have HX := Lib.hid (HNo.out m xv Hle.out Hm.out.1)
          go_wp2_with fail
          go_ret
          have ho := Hu.out
          rw [List.take_of_length_le (Nat.le_of_eq HX.out.symm)] at ho
          exact ho.retI Hbw.out
        · obtain ⟨hlt2, hx⟩ := HYes.out m xv Hle.out Hm.out.1
          have HX := Lib.hid (show S.take (m + 1) = S.take m ++ [xv] by rw [← hx]; exact List.take_succ_eq_append_getElem hlt2)
          have HM1 := Lib.hid hlt2
          have hl1 : (ivals (S.take m)).length + 1 ≤ maxLen := by rw [ivals_len, Hlm.out]; unfold maxLen; omega
          have hl2 : ((ivals (S.take m)).length + 1) * 8 ≤ 140737488355328 := by rw [ivals_len, Hlm.out]; omega
          clear hlt2 hx
          go_wp2_with (at_builtin; refine wpList_append_one rfl _ _ _ _ rfl Tryz.underlying40 (.int .i64 0) 8 Tryz.infoInt rfl w.heap.size _ _ rfl Hu.out (.int .i64 xv) rfl rfl Hbw.out.size hl1 hl2 ?_)
          apply Stop.go
          intro v' w6 Hv' Ha'
          have D6 := Lib.hid (Hbw.out.trans Ha'.out.below)
          go_wp2_with fail
          go_roundg (S.length - (m + 1))
          case measure => have := Hm.out; have := HM1.out; omega
          case rel => exact ⟨m + 1, HM1.out, Nat.le_refl _, by rw [HX.out, ← ivals_snoc]; exact Hv'.out, D6.out⟩

end Go.Proofs.YtknbjdldmednlaaGreat
