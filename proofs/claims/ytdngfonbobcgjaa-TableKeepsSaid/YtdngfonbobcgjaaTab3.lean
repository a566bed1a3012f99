/-
  Contracts of package table: Free, Used, Clean.
-/
import Derived.Test.YtdngfonbobcgjaaTab1
import Derived.Test.YtdngfonbobcgjaaCell
import Derived.Test.YtdngfonbobcgjaaRets
namespace Go.Proofs.Ytdngfonbobcgjaa
open Go.RowKit

set_option maxHeartbeats 1600000 in
theorem tfree_any (b : List UInt8) (hb : b.length = 256) (w : World) :
    Calls Try.prog 17 #[.agg (bcells b)] w fun e w' => e = .returned (.tuple #[.int .i64 ((fstT (freeT b) 8).1 : Nat), .bool (fstT (freeT b) 8).2]) ∧ Below w.heap.size w w' := by
  have HbL := Lib.hid hb
  obtain ⟨f, Hf⟩ : ∃ f, Hid (freeT b = f) := ⟨_, Lib.hid rfl⟩
  have hF := fun q w => isFree_any b hb q w
  rw [Hf.out] at hF ⊢
  have HF := Lib.hid hF
  clear hF hb
  go_enter Try.func17, Try.ntmps17
  go_wp2_with (refine wpList_box_row rfl _ _ rfl _ rfl ?_)
  apply Stop.go; intro w1 Hg1 Hb1
  go_wp2_with fail
  go_loopw [4, 5] (fun _ i wr => ∃ k : Nat, k ≤ 8 ∧ i = .int .i64 k ∧ Hid (Blk wr w.heap.size 26 (bcells b)) ∧ Hid (Below w.heap.size w wr) ∧ Hid (fstT f 8 = fstT f (8 - k))) (fun _ i _ => 8 - (intOf i).toNat)
  case atStart => exact ⟨0, Nat.zero_le _, rfl, Hb1, Lib.hid Hg1.out.1, Lib.hid rfl⟩
  case round =>
    obtain ⟨k, hk, rfl, HB, E, HI⟩ := hrel
    by_cases hlt : k < 8
    · have d0 : decide ((k : Int) < 8) = true := by simp; omega
      go_wp2_with (refine wpList_load_arr rfl _ _ rfl _ rfl _ _ HB.out _ _ Try.underlying26 (Try.blockFits HbL.out) ?_)
      refine (HF.out k _).mono ?_; rintro e w2 ⟨rfl, hb2⟩
      have HB2 := Lib.hid (HB.out.ext hb2)
      have E2 := Lib.hid (bt E.out hb2)
      clear hb2 HB E
      cases hf : f k
      · have HN := Lib.hid (HI.out.trans (fstT_no hlt hf))
        clear hf HI
        go_wp2_with fail
        go_roundw
        case rel => exact ⟨k + 1, by omega, by go_num, HB2, E2, HN⟩
        case measure => simp [intOf]; omega
      · have HN := Lib.hid (HI.out.trans (fstT_yes hlt hf))
        clear hf HI
        go_wp2_with fail
        go_ret2
        rw [HN.out]
        exact ⟨rfl, E2.out⟩
    · obtain rfl : k = 8 := by omega
      have HN : Hid (fstT f 8 = (0, false)) := Lib.hid HI.out
      go_wp2_with fail
      go_ret2
      rw [HN.out]
      exact ⟨rfl, E.out⟩

/-- A result that is a list of numbers of the call's own. -/
def RetUT (w : World) (l : List Int) (e : Ending) (w' : World) : Prop := ∃ v, e = .returned v ∧ OwnC w' w.heap.size 3 v (ivals l) ∧ Below w.heap.size w w'
set_option maxHeartbeats 1600000 in
theorem tused_any (b : List UInt8) (hb : b.length = 256) (w : World) :
    Calls Try.prog 19 #[.agg (bcells b)] w (RetUT w (usedT (freeT b) 8)) := by
  have HbL := Lib.hid hb
  obtain ⟨f, Hf⟩ : ∃ f, Hid (freeT b = f) := ⟨_, Lib.hid rfl⟩
  have hF := fun q w => isFree_any b hb q w
  rw [Hf.out] at hF ⊢
  have HF := Lib.hid hF
  clear hF hb
  go_enter Try.func19, Try.ntmps19
  go_wp2_with (refine wpList_box_row rfl _ _ rfl _ rfl ?_)
  apply Stop.go; intro w1 Hg1 Hb1
  have Z1 := Lib.hid Hg1.out.2
  go_wp2_with fail
  go_loopw [3, 4, 5] (fun u _ i wr => ∃ (k : Nat) (L : List Int), k ≤ 8 ∧ i = .int .i64 k ∧ Hid (Blk wr w.heap.size 26 (bcells b)) ∧ Hid (Below w.heap.size w wr) ∧ Hid (usedT f 8 = L ++ usedT f (8 - k)) ∧ Hid (OwnC wr (w.heap.size + 1) 3 u (ivals L)) ∧ Hid (L.length ≤ k)) (fun _ _ i _ => 8 - (intOf i).toNat)
  case atStart => exact ⟨0, [], Nat.zero_le _, rfl, Hb1, Lib.hid Hg1.out.1, Lib.hid rfl, Lib.hid (OwnC.nil_ _ _ _), Lib.hid (Nat.le_refl _)⟩
  case round =>
    obtain ⟨k, L, hk, rfl, HB, E, HI, HO, HLn⟩ := hrel
    by_cases hlt : k < 8
    · have d0 : decide ((k : Int) < 8) = true := by simp; omega
      go_wp2_with (refine wpList_load_arr rfl _ _ rfl _ rfl _ _ HB.out _ _ Try.underlying26 (Try.blockFits HbL.out) ?_)
      refine (HF.out k _).mono ?_; rintro e w2 ⟨rfl, hb2⟩
      have HB2 := Lib.hid (HB.out.ext hb2)
      have E2 := Lib.hid (bt E.out hb2)
      have HO2 := Lib.hid (HO.out.ext hb2)
      have Z2 := Lib.hid (show w.heap.size + 1 ≤ w2.heap.size by have := HB2.out.lt; omega)
      clear hb2 HB E HO
      cases hf : f k
      · have HN := Lib.hid (show usedT f 8 = (L ++ [(k : Int)]) ++ usedT f (8 - (k + 1)) by rw [HI.out, usedT_no hlt hf]; simp)
        have hl1 : (ivals L).length + 1 ≤ maxLen := by rw [ivals_len]; unfold maxLen; have := HLn.out; omega
        have hl2 : ((ivals L).length + 1) * 8 ≤ 140737488355328 := by rw [ivals_len]; have := HLn.out; omega
        clear hf HI
        go_wp2_with (at_builtin; refine wpList_append_one rfl _ _ _ _ rfl Try.underlying47 (.int .i64 0) 8 Try.intInfo rfl (w.heap.size + 1) _ _ rfl HO2.out (.int .i64 k) rfl rfl Z2.out hl1 hl2 ?_)
        apply Stop.go
        intro v' w3 Hv' Ha'
        have HO3 := Lib.hid (show OwnC w3 (w.heap.size + 1) 3 v' (ivals (L ++ [(k : Int)])) by rw [← ivals_snoc]; exact Hv'.out)
        have HB3 := Lib.hid (HB2.out.below Ha'.out.below (by omega))
        have E3 := Lib.hid (E2.out.trans (Ha'.out.below.mono (by omega)))
        have HL3 := Lib.hid (show (L ++ [(k : Int)]).length ≤ k + 1 by rw [List.length_append]; have := HLn.out; simp; omega)
        clear Hv' Ha' HO2 HB2 E2 HLn hl1 hl2
        go_wp2_with fail
        go_roundw
        case rel => exact ⟨k + 1, L ++ [(k : Int)], by omega, by go_num, HB3, E3, HN, HO3, HL3⟩
        case measure => simp [intOf]; omega
      · have HN := Lib.hid (show usedT f 8 = L ++ usedT f (8 - (k + 1)) by rw [HI.out, usedT_yes hlt hf])
        clear hf HI
        go_wp2_with fail
        go_roundw
        case rel => exact ⟨k + 1, L, by omega, by go_num, HB2, E2, HN, HO2, Lib.hid (by have := HLn.out; omega)⟩
        case measure => simp [intOf]; omega
    · obtain rfl : k = 8 := by omega
      have HN := Lib.hid (show usedT f 8 = L by rw [HI.out]; show L ++ [] = L; simp)
      have HOw := Lib.hid (HO.out.low (B' := w.heap.size) (by omega))
      clear HI HO
      go_wp2_with fail
      go_ret
      rw [HN.out]
      exact ⟨_, rfl, HOw.out, E.out⟩

set_option maxHeartbeats 1600000 in
theorem tclean_any (b : List UInt8) (hb : b.length = 256) (w : World) :
    Calls Try.prog 20 #[.agg (bcells b)] w fun e w' => e = .returned (.bool (allT (fun q => (getT b (q : Int)).isSome) 8)) ∧ Below w.heap.size w w' := by
  have HbL := Lib.hid hb
  obtain ⟨g, Hg⟩ : ∃ g, Hid ((fun q : Nat => (getT b (q : Int)).isSome) = g) := ⟨_, Lib.hid rfl⟩
  have hF : ∀ (q : Nat) w, Calls Try.prog 12 #[.agg (bcells b), .int .i64 q] w fun e w' => e = .returned (.tuple #[.agg (icells (getTV b q)), .bool (g q)]) ∧ Below w.heap.size w w' := fun q w => by
    rw [← Hg.out]
    exact tget_any b hb q w
  rw [Hg.out]
  have HF := Lib.hid hF
  clear hF hb
  go_enter Try.func20, Try.ntmps20
  go_wp2_with (refine wpList_box_row rfl _ _ rfl _ rfl ?_)
  apply Stop.go; intro w1 Hg1 Hb1
  go_wp2_with fail
  go_loopw [3, 4, 5, 6] (fun _ _ _ i wr => ∃ k : Nat, k ≤ 8 ∧ i = .int .i64 k ∧ Hid (Blk wr w.heap.size 26 (bcells b)) ∧ Hid (Below w.heap.size w wr) ∧ Hid (allT g 8 = allT g (8 - k))) (fun _ _ _ i _ => 8 - (intOf i).toNat)
  case atStart => exact ⟨0, Nat.zero_le _, rfl, Hb1, Lib.hid Hg1.out.1, Lib.hid rfl⟩
  case round =>
    obtain ⟨k, hk, rfl, HB, E, HI⟩ := hrel
    by_cases hlt : k < 8
    · have d0 : decide ((k : Int) < 8) = true := by simp; omega
      go_wp2_with (refine wpList_load_arr rfl _ _ rfl _ rfl _ _ HB.out _ _ Try.underlying26 (Try.blockFits HbL.out) ?_)
      refine (HF.out k _).mono ?_; rintro e w2 ⟨rfl, hb2⟩
      have HB2 := Lib.hid (HB.out.ext hb2)
      have E2 := Lib.hid (bt E.out hb2)
      have Z2 := Lib.hid (show w.heap.size < w2.heap.size from HB2.out.lt)
      have HVL := Lib.hid (getTV_len b (k : Int))
      clear hb2 HB E
      go_wp2_with (refine wpList_alloc_row rfl _ rfl _ Try.inoZero ?_)
      apply Stop.go; intro w3 Hg3 Hb3
      go_wp2_with (first | refine wpList_store_arr rfl _ _ _ rfl _ _ rfl rfl _ _ Hb3.out (Try.inoFits HVL.out) (by rw [icells_size, icells_size, HVL.out]; rfl) (oneCell_icells _) ?_)
      apply Stop.go; intro w4 Ho4 Hb4
      have HB4 := Lib.hid ((HB2.out.ext Hg3.out.1).only Ho4.out (by have := Z2.out; omega))
      have E4 := Lib.hid (bonly (bt E2.out Hg3.out.1) Ho4.out (by have := Z2.out; omega))
      clear HB2 E2 Hg3 Hb3 Ho4 Hb4
      have HA := Lib.hid (HI.out.trans (allT_at hlt))
      cases hf : g k
      · have HN := Lib.hid (show allT g 8 = false by rw [HA.out, hf, Bool.and_false])
        clear hf HI HA
        go_wp2_with fail
        go_ret
        rw [HN.out]
        exact ⟨rfl, E4.out⟩
      · have HN := Lib.hid (show allT g 8 = allT g (8 - (k + 1)) by rw [HA.out, hf, Bool.and_true])
        clear hf HI HA
        go_wp2_with fail
        go_roundw
        case rel => exact ⟨k + 1, by omega, by go_num, HB4, E4, HN⟩
        case measure => simp [intOf]; omega
    · obtain rfl : k = 8 := by omega
      have HN := Lib.hid (show allT g 8 = true from HI.out)
      go_wp2_with fail
      go_ret
      rw [HN.out]
      exact ⟨rfl, E.out⟩

end Go.Proofs.Ytdngfonbobcgjaa
