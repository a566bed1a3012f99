import Derived.Test.YtpmbpklbiocclaaGreatGrAI
import Derived.Lib.SliceRun
namespace Go.Proofs.YtpmbpklbiocclaaGreat
open Go.RowKit

theorem Tryz.blockInfo : (Tryz.prog.info? 50).map (fun i => (i.zero, i.size, i.bytes)) = some (some (.agg (bcells (zeros 256))), 256, 256) := by kernel_rfl

section
variable {P : Program} {ops : Array Oper} {rest : List Oper} {o : Oper} {a : Act} {w : World} {K : Act → World → Prop} {Q : Exit → Act → World → Prop}
theorem run_build0k (P : Program) (w : World) (t e : TypeId) (ht : P.underlying t = some (.slice e)) (hs : (P.info? e).map (·.size) = some 256) : (Instr.buildSlice t 0 #[]).run P w = .ok (.slice (some ⟨w.heap.size, 0, none⟩) 0 0) (w.alloc (.cells #[] e)) := by
  obtain ⟨i, hq, hsz⟩ := Option.map_eq_some_iff.1 hs
  have e0 : Array.map (fun _ : Nat => (default : Value)) (Array.range 0) = #[] := Array.eq_empty_of_size_eq_zero (by simp)
  simp [Instr.buildSlice, run_underlying ht, sizeOf, typeInfo, hq, Instr.fill]
  rw [e0]
  rfl
theorem wpList_build0k (hgd : Region.wanted o (yielded ops a.tmps) = true) (t e : TypeId) (ho : o.op = .buildSlice t 0 #[]) (ht : P.underlying t = some (.slice e)) (hs : (P.info? e).map (·.size) = some 256)
    (h : Stop (∀ w', Hid (Below w.heap.size w w') → Hid (OwnK w' w.heap.size e (.slice (some ⟨w.heap.size, 0, none⟩) 0 0) []) → wpList P ops Q rest (a.put o.dst (.slice (some ⟨w.heap.size, 0, none⟩) 0 0)) w')) : wpList P ops Q (o :: rest) a w := by
  refine wpList_wanted hgd fun K hK => ?_
  unfold Oper.wp execOp
  simp only [ho, Sem.run_bind, List.map_toArray, List.map_nil, run_build0k P w t e ht hs, Result.andThen_ok]
  exact hK _ _ (h _ ((Below.refl _ _).alloc (Nat.le_refl _) _) ⟨Bks.nil_, by simp, Or.inr ⟨w.heap.size, 0, #[], rfl, Nat.le_refl _, heap_alloc_new w _, Nat.le_refl _, by unfold maxLen; omega, by simp, by simp⟩⟩)
end

set_option maxHeartbeats 400000 in
theorem cloneK_any (ad : Addr) (n c : Nat) (L : List (List UInt8)) (hL : Bks L) (hn : L.length = n) (h0 : 0 < n) (hm : n ≤ 512) (w : World) (hr : RK w (some ad) L) :
    Calls Tryz.prog 71 #[.slice (some ad) n c] w fun e w' => ∃ g c', e = .returned (.slice (some ⟨g, 0, none⟩) n c') ∧ w.heap.size ≤ g ∧ g < w'.heap.size ∧ RK w' (some ⟨g, 0, none⟩) L ∧ n ≤ c' ∧ c' ≤ maxLen ∧ Below w.heap.size w w' := by
  have Hn := Lib.hid hn
  have Hr := Lib.hid hr
  clear hn hr
  have qn : ∀ w' : World, (binOp .eql 82 (.slice (some ad) n c) (.slice none 0 0)).run Tryz.prog w' = .ok (.bool false) w' := fun w' => Lib.run_eql_slice_nil w' _ _ (some ad) n c 0 0 Tryz.underlying82
  go_enter Tryz.func71, Tryz.ntmps71
  go_wp2_with (refine wpList_build0k rfl _ _ rfl Tryz.underlying82 Tryz.blockSize ?_)
  apply Stop.go; intro w1 Hb1 Ho1
  go_wp2_with (at_builtin; refine wpList_append_bk rfl _ _ _ _ rfl Tryz.underlying82 _ Tryz.blockInfo ((bcells_size _).trans (zeros_len 256)) w.heap.size _ [] Ho1.out ad n c L hL Hn.out (Hr.out.below Hb1.out) rfl rfl Hb1.out.size (by simp; omega) ?_)
  apply Stop.go; intro v2 w2 Ho2 Hb2
  go_wp2_with fail
  go_ret
  have hbb := Hb1.out.trans Hb2.out
  have ho : OwnK w2 w.heap.size 50 v2 L := by simpa using Ho2.out
  obtain ⟨A, c', hv, q1, q2, hrk⟩ := ho.read
  obtain ⟨_, hl, h | ⟨g, cap, cur, hv2, hb2, hg2, _⟩⟩ := ho
  · exact absurd h.2 (by rw [Hn.out]; omega)
  · rw [hv2] at hv
    injection hv with hA hn' hc'
    subst hA
    subst hc'
    rw [Hn.out] at q1
    rw [hv2, Hn.out]
    refine ⟨g, cap, rfl, hb2, Blk.lt hg2, hrk, q1, q2, hbb⟩

set_option maxHeartbeats 400000 in
theorem image_any (b : Nat) (ad : Addr) (c : Nat) (d : Dev) (w : World) (hd : DS w 86 b (.slice (some ad) d.bl.length c) d) (hL : Bks d.bl) (hr : RK w (some ad) d.bl) (h0 : 0 < d.bl.length) (hm : d.bl.length ≤ 512) :
    Calls Tryz.prog 37 #[.pointer (some ⟨b, 0, none⟩)] w fun e w' => ∃ g c', e = .returned (.slice (some ⟨g, 0, none⟩) d.bl.length c') ∧ w.heap.size ≤ g ∧ g < w'.heap.size ∧ RK w' (some ⟨g, 0, none⟩) d.bl ∧ d.bl.length ≤ c' ∧ c' ≤ maxLen ∧ Below w.heap.size w w' := by
  obtain ⟨fz, hb, hq⟩ := hd
  have c1 := hb.cell 0
  simp only [dcells, List.getElem?_toArray, List.getElem?_cons_zero] at c1
  have HC := cloneK_any ad d.bl.length c d.bl hL rfl h0 hm w hr
  go_enter Tryz.func37, Tryz.ntmps37
  go_wp2_with (go_at_call 71; refine HC.mono ?_; rintro _ w1 ⟨g, c', rfl, hh⟩)
  go_ret
  exact ⟨g, c', rfl, hh⟩

set_option maxHeartbeats 400000 in
theorem dnew_any (n : Int) (hlo : -9223372036854775808 ≤ n) (hhi : n < 9223372036854775808) (w : World) :
    Calls Tryz.prog 20 #[.int .i64 n] w fun e w' => ∃ b g, e = .returned (.pointer (some ⟨b, 0, none⟩)) ∧ w.heap.size ≤ b ∧ w.heap.size ≤ g ∧ DV w' b g (Dev.new n) ∧ Below w.heap.size w w' := by
  have hways : (n < 16 ∧ devSize n = 16) ∨ (¬ n < 16 ∧ ¬ 512 < n ∧ (devSize n : Int) = n) ∨ (¬ n < 16 ∧ 512 < n ∧ devSize n = 512) := by
    unfold devSize
    by_cases h1 : n < 16
    · left; simp [h1]
    · by_cases h2 : 512 < n
      · right; right; simp [h1, h2]
      · right; left
        rw [if_neg h1, if_neg h2]
        exact ⟨h1, h2, by omega⟩
  have hle := devSize_le n
  obtain ⟨m, HM⟩ : ∃ m, Hid (devSize n = m) := ⟨_, Lib.hid rfl⟩
  rw [HM.out] at hways hle
  go_enter Tryz.func20, Tryz.ntmps20
  rcases hways with ⟨h1, h3⟩ | ⟨h1, h2, h3⟩ | ⟨h1, h2, h3⟩
  focus (
    have h1' : ¬ 16 ≤ n := by omega
    have H3 := Lib.hid h3
    clear h3 h1
    go_wp2_with (refine wpList_make_bk rfl _ _ _ _ rfl Tryz.underlying82 Tryz.blockInfo _ _ _ _ m rfl rfl (by have := H3.out; omega) (by have := H3.out; omega) (by omega) ?_))
  rotate_left
  focus (
    have h1' : 16 ≤ n := by omega
    have h2' : n ≤ 512 := by omega
    have H3 := Lib.hid h3
    clear h3 h1 h2
    go_wp2_with (refine wpList_make_bk rfl _ _ _ _ rfl Tryz.underlying82 Tryz.blockInfo _ _ _ _ m rfl rfl H3.out.symm H3.out.symm (by omega) ?_))
  rotate_left
  focus (
    have h1' : 16 ≤ n := by omega
    have h2' : ¬ n ≤ 512 := by omega
    have H3 := Lib.hid h3
    clear h3 h1 h2
    go_wp2_with (refine wpList_make_bk rfl _ _ _ _ rfl Tryz.underlying82 Tryz.blockInfo _ _ _ _ m rfl rfl (by have := H3.out; omega) (by have := H3.out; omega) (by omega) ?_))
  all_goals
    apply Stop.go; intro w1 Hg1 Hb1
    go_wp2_with (refine wpList_box_row rfl _ _ rfl _ rfl ?_)
    apply Stop.go; intro w2 Hg2 Hb2
    go_wp2_with fail
    go_ret
    have hlt := Hb1.out.lt
    refine ⟨_, _, rfl, ?_, Nat.le_refl _, ⟨⟨0, ?_, fun h => absurd h (by show ¬ (0 : Int) ≤ -1; decide)⟩, Bks.same _ (zeros_len 256), ?_, by omega, ?_, by show (-1 : Int) < _; decide⟩, bt Hg1.out.1 Hg2.out.1⟩
    · omega
    · have h := Hb2.out
      unfold Dev.new
      simp only [List.length_replicate, HM.out]
      exact h
    · unfold Dev.new
      rw [HM.out]
      exact Hb1.out.ext Hg2.out.1
    · unfold Dev.new
      rw [List.length_replicate, HM.out]
      omega

end Go.Proofs.YtpmbpklbiocclaaGreat
