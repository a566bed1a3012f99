/-
  Contract of slices.Clone of blocks (of 1 to 512).
-/
import Derived.Test.YtfhghcodhacneaaGrC
import Derived.Test.YtfhghcodhacneaaGrA
import Derived.Lib.SliceRun
namespace Go.Proofs.Ytfhghcodhacneaa
open Go.RowKit

theorem RK.same {w w' : World} {g : Nat} {L : List (List UInt8)} (h : RK w (some ⟨g, 0, none⟩) L) (hb : w'.heap[g]? = w.heap[g]?) : RK w' (some ⟨g, 0, none⟩) L := fun k hk i hi => by
  obtain ⟨ad, x, e, hx, hc⟩ := h k hk i hi
  refine ⟨ad, x, e, hx, ?_⟩
  injection e with e
  rw [← hc, ← e]
  unfold World.cell?
  rw [block_of_add, hb]

section
variable {P : Program} {ops : Array Oper} {rest : List Oper} {o : Oper} {a : Act} {w : World} {K : Act → World → Prop} {Q : Exit → Act → World → Prop}
theorem run_build0k (P : Program) (w : World) (t e : TypeId) (ht : P.underlying t = some (.slice e)) (hs : (P.info? e).map (·.size) = some 256) : (Instr.buildSlice t 0 #[]).run P w = .ok (.slice (some ⟨w.heap.size, 0, none⟩) 0 0) (w.alloc (.cells #[] e)) := by
  obtain ⟨i, hq, hsz⟩ := Option.map_eq_some_iff.1 hs
  have e0 : Array.map (fun _ : Nat => (default : Value)) (Array.range 0) = #[] := Array.eq_empty_of_size_eq_zero (by simp)
  simp [Instr.buildSlice, run_underlying ht, sizeOf, typeInfo, hq, Instr.fill]
  rw [e0]
  rfl
theorem wpList_build0k (hgd : Region.wanted o (yielded ops a.tmps) = true) (t e : TypeId) (ho : o.op = .buildSlice t 0 #[]) (ht : P.underlying t = some (.slice e)) (hs : (P.info? e).map (·.size) = some 256)
    (h : Stop (∀ w', Hid (Below w.heap.size w w') → Hid (OwnK w' w.heap.size e (.slice (some ⟨w.heap.size, 0, none⟩) 0 0) []) → wpList P ops Q rest (a.put o.dst (.slice (some ⟨w.heap.size, 0, none⟩) 0 0)) w')) : wpList P ops Q (o :: rest) a w := by
  refine wpList_wanted hgd fun K hK => ?_
  unfold Oper.wp execOp
  simp only [ho, Sem.run_bind, List.map_toArray, List.map_nil, run_build0k P w t e ht hs, Result.andThen_ok]
  exact hK _ _ (h _ ((Below.refl _ _).alloc (Nat.le_refl _) _) ⟨Bks.nil_, by simp, Or.inr ⟨w.heap.size, 0, #[], rfl, Nat.le_refl _, heap_alloc_new w _, Nat.le_refl _, by unfold maxLen; omega, by simp, by simp⟩⟩)
end

set_option maxHeartbeats 400000 in
theorem cloneK_any (ad : Addr) (n c : Nat) (L : List (List UInt8)) (hL : Bks L) (hn : L.length = n) (h0 : 0 < n) (hm : n ≤ 512) (w : World) (hr : RK w (some ad) L) :
    Calls Try.prog 18 #[.slice (some ad) n c] w fun e w' => ∃ g c', e = .returned (.slice (some ⟨g, 0, none⟩) n c') ∧ w.heap.size ≤ g ∧ g < w'.heap.size ∧ RK w' (some ⟨g, 0, none⟩) L ∧ n ≤ c' ∧ c' ≤ maxLen ∧ Below w.heap.size w w' := by
  have Hn := Lib.hid hn
  have Hr := Lib.hid hr
  clear hn hr
  have qn : ∀ w' : World, (binOp .eql 38 (.slice (some ad) n c) (.slice none 0 0)).run Try.prog w' = .ok (.bool false) w' := fun w' => Lib.run_eql_slice_nil w' _ _ (some ad) n c 0 0 Try.underlying38
  go_enter Try.func18, Try.ntmps18
  go_wp2_with (refine wpList_build0k rfl _ _ rfl Try.underlying38 Try.blockSize ?_)
  apply Stop.go; intro w1 Hb1 Ho1
  go_wp2_with (at_builtin; refine wpList_append_bk rfl _ _ _ _ rfl Try.underlying38 _ Try.blockInfo ((bcells_size _).trans (zeros_len 256)) w.heap.size _ [] Ho1.out ad n c L hL Hn.out (Hr.out.below Hb1.out) rfl rfl Hb1.out.size (by simp; omega) ?_)
  apply Stop.go; intro v2 w2 Ho2 Hb2
  go_wp2_with fail
  go_ret
  have hbb := Hb1.out.trans Hb2.out
  have ho : OwnK w2 w.heap.size 52 v2 L := by simpa using Ho2.out
  obtain ⟨A, c', hv, q1, q2, hrk⟩ := ho.read
  obtain ⟨_, hl, h | ⟨g, cap, cur, hv2, hb2, hg2, _⟩⟩ := ho
  · exact absurd h.2 (by rw [Hn.out]; omega)
  · rw [hv2] at hv
    injection hv with hA hn' hc'
    subst hA
    subst hc'
    rw [Hn.out] at q1
    rw [hv2, Hn.out]
    refine ⟨g, cap, rfl, hb2, Blk.lt hg2, hrk, q1, q2, hbb⟩

end Go.Proofs.Ytfhghcodhacneaa
