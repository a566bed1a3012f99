/-
  Layer 23: the walk of FreadSpans.
-/
import Derived.Test.YtfhghcodhacneaaLaw23w
import Derived.Test.YtfhghcodhacneaaRef23
namespace Go.Proofs.Ytfhghcodhacneaa
open Go.RowKit
set_option maxRecDepth 10000

theorem run_neq_spn_same {x : List Int} (hx : x.length = 3) (w : World) : (binOp .neq 25 (.agg (ivals x).toArray) (.agg (ivals x).toArray)).run Try.prog w = .ok (.bool false) w := by
  have h := run_neq_spn x x hx hx w
  rw [show (!(x == x)) = false by simp] at h
  exact h
theorem pcS_len (o e k : Nat) : (pcS o e k).length = 3 := rfl
set_option maxHeartbeats 3200000 in
theorem freadSpans_any (off n : Int) (ho : -9223372036854775808 ≤ off ∧ off < 9223372036854775808) (hn : -9223372036854775808 ≤ n ∧ n < 9223372036854775808) (w : World) :
    Calls Try.prog 3 #[.int .i64 off, .int .i64 n] w fun e w' => e = .returned (.bool true) ∧ Below w.heap.size w w' := by
  by_cases h5 : 5000 < n
  · have d0 : decide ((5000 : Int) < n) = true := decide_eq_true h5
    clear h5 ho hn
    go_enter Try.func3, Try.ntmps3
    go_wp2_with fail
    refine (works23_any _).mono ?_; rintro e w1 ⟨rfl, hb1⟩
    go_wp2_with fail
    go_ret
    exact ⟨rfl, hb1⟩
  · have d0 : decide ((5000 : Int) < n) = false := decide_eq_false h5
    have HC1 := Lib.hid (fun w => fspans_any off n ho hn w)
    have HC2 := Lib.hid (fun w => rspans23_any off n ho hn w)
    obtain ⟨N, HN⟩ : ∃ N, Hid ((spansS off n).length = N) := ⟨_, Lib.hid rfl⟩
    have HNl := Lib.hid (show N ≤ 134 by
      rw [← HN.out]
      unfold spansS
      rw [spnS_len]
      exact numS_le (by have := hiS_le off n; omega))
    have HRw := Lib.hid (fun k (h : k < N) => show ∃ x : List Int, x.length = 3 ∧ (irows (spansS off n))[k]? = some (ivals x) by
      have h' : k < (spansS off n).length := by rw [HN.out]; exact h
      have h2 := List.getElem?_eq_getElem h'
      refine ⟨_, ?_, irows_at h2⟩
      unfold spansS at h' h2
      rw [spnS_len] at h'
      rw [spnS_at _ _ h'] at h2
      have h3 := Option.some.inj h2
      unfold spansS
      rw [← h3]
      exact pcS_len _ _ _)
    have HRl := Lib.hid (show (irows (spansS off n)).length = N by rw [irows_len, HN.out])
    generalize irows (spansS off n) = RW at *
    clear h5 ho hn HN
    go_enter Try.func3, Try.ntmps3
    go_wp2_with fail
    refine (HC1.out _).mono ?_; rintro e w1 ⟨v1, rfl, hv1, hb1⟩
    obtain ⟨A1, c1, rfl, _, _, hr1⟩ := hv1.read
    rw [HRl.out]
    have HR1 := Lib.hid hr1
    clear hv1 hr1 HC1
    have E1 := Lib.hid hb1
    clear hb1
    go_wp2_with fail
    refine (HC2.out _).mono ?_; rintro e w2 ⟨v2, rfl, hv2, hb2⟩
    obtain ⟨A2, c2, rfl, _, _, hr2⟩ := hv2.read
    rw [HRl.out]
    have HR1 := Lib.hid (HR1.out.below hb2)
    have HR2 := Lib.hid hr2
    have E2 := Lib.hid (bt E1.out hb2)
    clear hv2 hr2 HC2 hb2 E1
    have hN := HNl.out
    go_wp2_with fail
    go_loopw [7] (fun z wr => ∃ k : Nat, k ≤ N ∧ z = .int .i64 k ∧ Hid (Below w2.heap.size w2 wr)) (fun z _ => N - (intOf z).toNat)
    case atStart => exact ⟨0, Nat.zero_le _, rfl, Lib.hid (Below.refl _ _)⟩
    case round =>
      obtain ⟨k, hk, rfl, D⟩ := hrel
      by_cases hlt : k < N
      · have p0 : (0 : Int) ≤ (k : Int) := by omega
        have p1 : (k : Int) < (N : Int) := by omega
        obtain ⟨x, hx, hrw⟩ := HRw.out k hlt
        obtain ⟨a1, rfl⟩ := HR1.out.adr (k := k) (by rw [HRl.out]; exact hlt) (by decide)
        obtain ⟨a2, rfl⟩ := HR2.out.adr (k := k) (by rw [HRl.out]; exact hlt) (by decide)
        have HX := Lib.hid hx
        have H1 := Lib.hid (fun w' (h : Below w2.heap.size w2 w') => (HR1.out.below h).row hrw (by rw [ivals_len]; exact hx))
        have H2 := Lib.hid (fun w' (h : Below w2.heap.size w2 w') => (HR2.out.below h).row hrw (by rw [ivals_len]; exact hx))
        have HSz := Lib.hid (show (Try.prog.info? 25).map (·.size) = some (ivals x).length by rw [ivals_len, hx]; exact Try.spanSize)
        clear hx hrw
        go_wp2_with fail
        refine WH.start (S := fun w' : World => Below w2.heap.size w2 w') [false, false, false, false, false, false, false, false, false] 9 rfl rfl (by kernel_rfl) (bt D.out (bdrew wr 1)) (fun hSn => ?_); obtain ⟨wS, hwS⟩ : ∃ x, (wr).drew = x := ⟨_, rfl⟩; have HE := Lib.hid (show Below (wr).heap.size (wr) wS from hwS ▸ bdrew wr 1); rw [hwS] at hSn ⊢; clear hwS
        refine WH.tk 0 ?_; simp only [setL]
        refine WH.tk 1 ?_; simp only [setL]
        refine WH.tk 2 ?_; simp only [setL]
        refine WH.tv 3 rfl (fun w' hSw => exec_load_cellsA _ _ rfl (a1.add (k * 3)) rfl _ _ Try.underlying25 (ivals x) HSz.out (H1.out _ hSw)) ?_; simp only [setL]
        refine WH.tk 4 ?_; simp only [setL]
        refine WH.tk 5 ?_; simp only [setL]
        refine WH.tk 6 ?_; simp only [setL]
        refine WH.tv 7 rfl (fun w' hSw => exec_load_cellsA _ _ rfl (a2.add (k * 3)) rfl _ _ Try.underlying25 (ivals x) HSz.out (H2.out _ hSw)) ?_; simp only [setL]
        refine WH.tv 8 rfl (fun w' hSw => exec_eql_agg _ _ _ _ _ rfl (by kernel_rfl) _ _ rfl rfl _ (run_neq_spn_same HX.out w')) ?_; simp only [setL]
        refine WH.done (by kernel_rfl) ?_
        have D := Lib.hid (bt D.out HE.out)
        clear HE hSn H1 H2
        go_wp2_with fail
        go_roundw
        case rel => exact ⟨k + 1, by omega, by go_num, D⟩
        case measure => simp [intOf]; omega
      · obtain rfl : N = k := by omega
        go_wp2_with fail
        refine (works23_any _).mono ?_; rintro e w3 ⟨rfl, hb3⟩
        go_wp2_with fail
        go_ret
        exact ⟨rfl, bt (bt E2.out D.out) hb3⟩

end Go.Proofs.Ytfhghcodhacneaa
