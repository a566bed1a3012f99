/-
  Texts of this claim joined: PatL, Ref07l, Ref07d, Law10d, Law10e.
-/
import Derived.Test.YtckkdfpmibipfaaPatO
import Derived.Test.YtckkdfpmibipfaaRef07
import Derived.Test.YtckkdfpmibipfaaGr1
import Derived.Test.YtckkdfpmibipfaaLw9a
import Derived.Test.YtckkdfpmibipfaaGr2
import Derived.Test.YtckkdfpmibipfaaPat3
import Derived.Test.YtckkdfpmibipfaaOpenC
import Derived.ChangeMaps5

/-
  A list of patches of the call's own, whose last one's bytes are the call's own too, and grow. Plain; no program is named here.
-/
namespace Go.Proofs.Ytckkdfpmibipfaa
open Go.RowKit

structure StX (w : World) (B : Nat) (e eb : TypeId) (g cap : Nat) (cur : Array Value) (u0 : Value) (l0 : List Pt) (s : Int) (d : List UInt8) : Prop where
  base : B ≤ g
  blk : Blk w g e cur
  cap1 : l0.length + 1 ≤ cap
  cap2 : cap ≤ maxLen
  size : cur.size = cap * 2
  inner : ∀ k (h : k < l0.length), ∃ A n c, cur[k * 2]? = some (.int .i64 l0[k].at_) ∧ cur[k * 2 + 1]? = some (.slice A n c) ∧ PV w l0[k] A n c ∧ Away l0[k].data A (.slice (some ⟨g, 0, none⟩) 0 0) ∧ Away l0[k].data A u0
  lastAt : cur[l0.length * 2]? = some (.int .i64 s)
  lastD : cur[l0.length * 2 + 1]? = some u0
  own : OwnB w B eb u0 d
  apart : u0.ownBlock ≠ some g
  lo : -9223372036854775808 ≤ s
  hi : s < 9223372036854775808

theorem OwnB.ext {w w' : World} {B : Nat} {e : TypeId} {v : Value} {l : List UInt8} (h : OwnB w B e v l) (hb : Below w.heap.size w w') : OwnB w' B e v l := by
  obtain ⟨hl, h | ⟨g, cap, cur, hv, hbg, hg, h⟩⟩ := h
  · exact ⟨hl, Or.inl h⟩
  · exact ⟨hl, Or.inr ⟨g, cap, cur, hv, hbg, Blk.ext hg hb, h⟩⟩
theorem OwnB.only {w w' : World} {B g : Nat} {e : TypeId} {v : Value} {l : List UInt8} (h : OwnB w B e v l) (ho : Only w w' g) (hg : v.ownBlock ≠ some g) : OwnB w' B e v l := by
  obtain ⟨hl, h | ⟨g', cap, cur, hv, hbg, hg', h⟩⟩ := h
  · exact ⟨hl, Or.inl h⟩
  · refine ⟨hl, Or.inr ⟨g', cap, cur, hv, hbg, Blk.only hg' ho ?_, h⟩⟩
    intro e
    exact hg (by rw [hv, ← e]; rfl)
theorem OwnB.lt {w : World} {B : Nat} {e : TypeId} {v : Value} {l : List UInt8} (h : OwnB w B e v l) : ∀ k, v.ownBlock = some k → B ≤ k ∧ k < w.heap.size := World.ownsRow.lt h
theorem StX.ext {w w' : World} {B : Nat} {e eb : TypeId} {g cap : Nat} {cur : Array Value} {u0 : Value} {l0 : List Pt} {s : Int} {d : List UInt8} (h : StX w B e eb g cap cur u0 l0 s d) (hb : Below w.heap.size w w') : StX w' B e eb g cap cur u0 l0 s d :=
  ⟨h.base, h.blk.ext hb, h.cap1, h.cap2, h.size, fun k hk => by
    obtain ⟨A, n, c, h0, h1, h2, h3, h4⟩ := h.inner k hk
    exact ⟨A, n, c, h0, h1, h2.below hb, h3, h4⟩, h.lastAt, h.lastD, h.own.ext hb, h.apart, h.lo, h.hi⟩
/-- It is a list of patches of the call's own. -/
theorem StX.ownP {w : World} {B : Nat} {e eb : TypeId} {g cap : Nat} {cur : Array Value} {u0 : Value} {l0 : List Pt} {s : Int} {d : List UInt8} (h : StX w B e eb g cap cur u0 l0 s d) : OwnP w B e (.slice (some ⟨g, 0, none⟩) (l0.length + 1) cap) (l0 ++ [⟨s, d⟩]) := by
  have hl : (l0 ++ [(⟨s, d⟩ : Pt)]).length = l0.length + 1 := by simp
  have hc := h.cap1
  have hs := h.size
  have hget : ∀ i v, cur[i]? = some v → i < (l0.length + 1) * 2 → (cur.toList.take ((l0.length + 1) * 2))[i]? = some v := fun i v hi hil => by
    rw [List.getElem?_take_of_lt hil]
    simpa using hi
  refine ⟨cur.toList.take ((l0.length + 1) * 2), ?_, fun k hk => ?_⟩
  · rw [hl]
    exact ⟨by have h0 : cur.toList.length = cur.size := Array.length_toList; rw [List.length_take]; omega, Or.inr ⟨g, cap, cur, rfl, h.base, h.blk, h.cap1, h.cap2, hs, rfl⟩⟩
  · by_cases hkl : k < l0.length
    · obtain ⟨A, n, c, h0, h1, h2, h3, _⟩ := h.inner k hkl
      refine ⟨A, n, c, ?_, ?_, ?_, ?_⟩
      · rw [List.getElem_append_left hkl]; exact hget _ _ h0 (by omega)
      · exact hget _ _ h1 (by omega)
      · rw [List.getElem_append_left hkl]; exact h2
      · rw [List.getElem_append_left hkl]; exact h3
    · obtain rfl : k = l0.length := by omega
      have e1 : (l0 ++ [(⟨s, d⟩ : Pt)])[l0.length]'hk = ⟨s, d⟩ := by simp
      obtain ⟨A, c, hv, h1, h2, h3⟩ := h.own.read
      refine ⟨A, d.length, c, ?_, ?_, ?_, ?_⟩
      · rw [e1]; exact hget _ _ h.lastAt (by omega)
      · rw [← hv]; exact hget _ _ h.lastD (by omega)
      · rw [e1]; exact ⟨h.lo, h.hi, rfl, h1, h2, h3⟩
      · rw [e1]
        have := h.apart
        rw [hv] at this
        refine Or.inr fun e => this ?_
        cases A with
        | none => cases e
        | some ad => exact e
/-- A patch without bytes, appended: its bytes may grow. -/
theorem StX.start {w : World} {B : Nat} {e eb : TypeId} {v : Value} {l : List Pt} {s : Int} {xs : List Value} (h : OwnP w B e v (l ++ [⟨s, []⟩])) (hx : xs.length = l.length * 2) (ho : w.ownsRow B e 2 v (l.length + 1) (xs ++ [.int .i64 s, .slice none 0 0])) (h1 : -9223372036854775808 ≤ s) (h2 : s < 9223372036854775808) :
    ∃ g cap cur, v = .slice (some ⟨g, 0, none⟩) (l.length + 1) cap ∧ StX w B e eb g cap cur (.slice none 0 0) l s [] := by
  obtain ⟨ys, ⟨hyl, hyo⟩, hy⟩ := h.own
  obtain ⟨hl, ⟨_, hn⟩ | ⟨g, cap, cur, hv, hb, hg, hn, hc, hs, ht⟩⟩ := ho
  · omega
  · have hll : (l ++ [(⟨s, []⟩ : Pt)]).length = l.length + 1 := by simp
    rw [hll] at hyo hyl
    obtain ⟨_, hn0⟩ | ⟨g', cap', cur', hv', hb', hg', hn', hc', hs', ht'⟩ := hyo
    · omega
    rw [hv] at hv'
    injection hv' with e1 e2 e3
    injection e1 with e1
    injection e1 with e1 _ _
    subst e1; subst e3
    have hcc : cur = cur' := by
      have h3 : some (Obj.cells cur e (0, 0)) = some (Obj.cells cur' e (0, 0)) := by rw [← hg, ← hg']
      injection h3 with h3
      injection h3
    subst hcc
    have hyx : ys = xs ++ [.int .i64 s, .slice none 0 0] := by rw [← ht', ← ht]
    have hget : ∀ i v, ys[i]? = some v → i < (l.length + 1) * 2 → cur[i]? = some v := fun i v hi hil => by
      rw [← ht', List.getElem?_take_of_lt hil] at hi
      simpa using hi
    refine ⟨g, cap, cur, hv, ⟨hb, hg, hn, hc, hs, fun k hk => ?_, ?_, ?_, OwnB.nil_ _ _ _, by simp [Value.ownBlock], h1, h2⟩⟩
    · obtain ⟨A, n, c, g0, g1, g2, g3⟩ := hy k (by rw [hll]; omega)
      rw [List.getElem_append_left hk] at g0 g2 g3
      refine ⟨A, n, c, hget _ _ g0 (by omega), hget _ _ g1 (by omega), g2, ?_, ?_⟩
      · rw [hv] at g3; exact g3
      · by_cases hd : l[k].data = []
        · exact Or.inl hd
        · obtain ⟨ad, rfl⟩ := g2.read.addr (List.length_pos_iff.2 hd)
          exact Or.inr (by simp [Value.ownBlock])
    · refine hget _ _ ?_ (by omega)
      rw [hyx, List.getElem?_append_right (by omega), show l.length * 2 - xs.length = 0 by omega]
      rfl
    · refine hget _ _ ?_ (by omega)
      rw [hyx, List.getElem?_append_right (by omega), show l.length * 2 + 1 - xs.length = 1 by omega]
      rfl
/-- Its bytes have grown, and are laid where they were. -/
theorem StX.next {w w1 w2 : World} {B : Nat} {e eb : TypeId} {g cap : Nat} {cur : Array Value} {u0 u1 : Value} {l0 : List Pt} {s : Int} {d d' : List UInt8} (h : StX w B e eb g cap cur u0 l0 s d)
    (hown : OwnB w1 B eb u1 d') (hg : w.grownBy w1 u0.ownBlock) (hu : u1.ownBlock = u0.ownBlock ∨ ∃ k, u1.ownBlock = some k ∧ w.heap.size ≤ k)
    (ho : Only w1 w2 g) (hb : Blk w2 g e (cur.setIfInBounds (l0.length * 2 + 1) u1)) : StX w2 B e eb g cap (cur.setIfInBounds (l0.length * 2 + 1) u1) u1 l0 s d' := by
  have hgl := h.blk.lt
  have hap : u1.ownBlock ≠ some g := by
    rcases hu with hu | ⟨k, hu, hk⟩
    · rw [hu]; exact h.apart
    · rw [hu]; intro e; injection e with e; omega
  have hc := h.cap1
  have hs := h.size
  refine ⟨h.base, hb, h.cap1, h.cap2, by simpa using hs, fun k hk => ?_, ?_, ?_, hown.only ho hap, hap, h.lo, h.hi⟩
  · obtain ⟨A, n, c, h0, h1, h2, h3, h4⟩ := h.inner k hk
    refine ⟨A, n, c, by rw [Array.getElem?_setIfInBounds_ne (by omega)]; exact h0, by rw [Array.getElem?_setIfInBounds_ne (by omega)]; exact h1, ⟨h2.lo, h2.hi, h2.len, h2.cap, h2.max, ?_⟩, h3, away_grown h4 h2.read hu⟩
    have hr1 := away_read h4 h2.read hg
    intro j hj
    obtain ⟨ad, e, hcj⟩ := hr1 j hj
    refine ⟨ad, e, ?_⟩
    rw [← hcj]
    refine World.cell?_of_block (ho.block _ ?_)
    rw [block_of_add]
    rcases h3 with h3 | h3
    · rw [h3] at hj; simp at hj
    · rw [e] at h3
      simpa [Value.ownBlock] using h3
  · rw [Array.getElem?_setIfInBounds_ne (by omega)]; exact h.lastAt
  · rw [Array.getElem?_setIfInBounds_self_of_lt (by omega)]

section
variable {P : Program} {ops : Array Oper} {rest : List Oper} {o : Oper} {a : Act} {w : World} {K : Act → World → Prop} {Q : Exit → Act → World → Prop}
theorem ow_build_byte (t e : TypeId) (x : Operand) (ho : o.op = .buildSlice t 1 #[(0, x)]) (ht : P.underlying t = some (.slice e)) (hi : (P.info? e).map (fun i => (i.zero, i.size, i.bytes)) = some (some (.int .u8 0), 1, 1)) (z : Int) (hx : a.eval x = .int .u8 z)
    (h : K (a.put o.dst (.slice (some ⟨w.heap.size, 0, none⟩) 1 1)) (w.alloc (.cells #[.int .u8 z] e))) : o.wp P a w K Q := by
  obtain ⟨i, h1, h2, h3, h4⟩ := info_parts hi
  have hrun : (Instr.buildSlice t 1 #[(0, .int .u8 z)]).run P w = .ok (.slice (some ⟨w.heap.size, 0, none⟩) 1 1) (w.alloc (.cells #[.int .u8 z] e)) := by
    refine run_buildSlice w t e 1 _ _ i (.int .u8 0) ht h1 h2 (by omega) (by omega) ?_
    rw [h3]
    have hsz : ((Array.range (1 * 1)).map ((Value.int .u8 0).cells[· % (Value.int .u8 0).cells.size]!)).size = 1 := by simp
    generalize (Array.range (1 * 1)).map ((Value.int .u8 0).cells[· % (Value.int .u8 0).cells.size]!) = cs at hsz
    obtain ⟨l⟩ := cs
    match l, hsz with
    | [c0], _ => simp [Instr.fill, Value.cells]
  unfold Oper.wp execOp
  simp only [ho, hx, Sem.run_bind, List.map_toArray, List.map_cons, List.map_nil, hrun, Result.andThen_ok]
  exact h
/-- append of one byte to bytes of the call's own. -/
theorem ow_append_last (s x : Operand) (t e : TypeId) (ho : o.op = .call { callee := .builtin .append, args := #[s, x], argTypes := #[t, t] })
    (ht : P.underlying t = some (.slice e)) (hi : (P.info? e).map (fun i => (i.zero, i.size, i.bytes)) = some (some (.int .u8 0), 1, 1))
    (B : Nat) (v : Value) (d : List UInt8) (hown : OwnB w B e v d) (y : UInt8) (hs : a.eval s = v) (hx : a.eval x = .slice (some ⟨w.heap.size, 0, none⟩) 1 1) (hB : B ≤ w.heap.size) (hlen : d.length + 1 ≤ 140737488355328)
    (h : Stop (∀ v' w', Hid (OwnB w' B e v' (d ++ [y])) → Hid ((w.alloc (.cells #[.int .u8 (y.toNat : Int)] e)).grownBy w' v.ownBlock) → Hid (v'.ownBlock = v.ownBlock ∨ ∃ k, v'.ownBlock = some k ∧ (w.alloc (.cells #[.int .u8 (y.toNat : Int)] e)).heap.size ≤ k) → K (a.put o.dst v') w')) : o.wp P a (w.alloc (.cells #[.int .u8 (y.toNat : Int)] e)) K Q := by
  have hml : (d.map fun x : UInt8 => Value.int .u8 (x.toNat : Int)).length = d.length := by simp
  have hown' : OwnC (w.alloc (.cells #[.int .u8 (y.toNat : Int)] e)) B e v (d.map fun x => Value.int .u8 (x.toNat : Int)) := by
    unfold OwnC
    rw [hml]
    exact hown.alloc _
  obtain ⟨v', w', hr, h1, h2, h3⟩ := run_append_one P (w.alloc (.cells #[.int .u8 (y.toNat : Int)] e)) t o.type e ht (.int .u8 0) 1 hi rfl B v _ hown' (.int .u8 (y.toNat : Int)) rfl ⟨w.heap.size, 0, none⟩ 1 (by have h := cell_one_new w (.int .u8 (y.toNat : Int)) e 0 (.int .u8 (y.toNat : Int)) rfl; rwa [addr_add0] at h) (by simp; omega) (by rw [hml]; unfold maxLen; omega) (by rw [hml]; omega)
  unfold Oper.wp execOp
  simp only [ho, resolve, invoke, builtin, Sem.run_bind, Sem.run_pure, Result.andThen_ok, List.map_toArray, List.map_cons, List.map_nil, hs, hx, hr]
  refine h v' w' ?_ h2 ?_
  · unfold OwnB
    have h4 : OwnC w' B e v' ((d ++ [y]).map fun x => Value.int .u8 (x.toNat : Int)) := by rw [List.map_append]; exact h1
    unfold OwnC at h4
    rw [List.length_map] at h4
    exact h4
  · rcases h3 with h3 | h3
    · exact Or.inl h3
    · exact Or.inr ⟨_, h3, Nat.le_refl _⟩
/-- append of a patch without bytes. -/
theorem wpList_append_start (hgd : Region.wanted o (yielded ops a.tmps) = true) (s x : Operand) (t e : TypeId) (ho : o.op = .call { callee := .builtin .append, args := #[s, x], argTypes := #[t, t] })
    (ht : P.underlying t = some (.slice e)) (z : Value) (by_ : Nat) (hi : (P.info? e).map (fun i => (i.zero, i.size, i.bytes)) = some (some z, 2, by_)) (hz : z.cells.size = 2)
    (B : Nat) (v : Value) (l : List Pt) (hown : OwnP w B e v l) (eb : TypeId) (k : Int) (h1 : -9223372036854775808 ≤ k) (h2 : k < 9223372036854775808) (hs : a.eval s = v) (hx : a.eval x = .slice (some ⟨w.heap.size, 0, none⟩) 1 1) (hB : B ≤ w.heap.size) (hlen : l.length + 1 ≤ 281474976710656) (hby : (l.length + 1) * by_ ≤ 140737488355328)
    (h : Stop (∀ g cap cur w', Hid (StX w' B e eb g cap cur (.slice none 0 0) l k []) → Hid (Below B w w') → wpList P ops Q rest (a.put o.dst (.slice (some ⟨g, 0, none⟩) (l.length + 1) cap)) w')) : wpList P ops Q (o :: rest) a (w.alloc (.cells #[.int .i64 k, .slice none 0 0] e)) := by
  refine wpList_wanted hgd fun K hK => ?_
  obtain ⟨v', w', hrun, g1, g2, _, xs, g3, g4⟩ := run_append_pt P w t o.type e ht z by_ hi hz B v l hown ⟨k, []⟩ none 0 0 ⟨h1, h2, rfl, Nat.le_refl _, by unfold maxLen; omega, RB.nil_ _ _⟩ (Or.inl rfl) hB hlen hby
  obtain ⟨g, cap, cur, hv, hst⟩ := StX.start (eb := eb) g1 g3 g4 h1 h2
  subst hv
  unfold Oper.wp execOp
  simp only [ho, resolve, invoke, builtin, Sem.run_bind, Sem.run_pure, Result.andThen_ok, List.map_toArray, List.map_cons, List.map_nil, hs, hx, hrun]
  exact hK _ _ (h g cap cur w' hst g2)
end

end Go.Proofs.Ytckkdfpmibipfaa

/-
  Contracts of the document's answer 07 on lists: Much, All, Bytes, SameAll.
-/
namespace Go.Proofs.Ytckkdfpmibipfaa
open Go.RowKit




set_option maxHeartbeats 1600000 in
/-- Two that read as the same list are told so. -/
theorem rsameAll_any (A : Option Addr) (n c : Nat) (A' : Option Addr) (c' : Nat) (l : List Pt) (hn : l.length = n) (hm : n ≤ maxLen) (w : World) (hr : RPL w A l) (hr' : RPL w A' l) :
    Calls Try.prog 19 #[.slice A n c, .slice A' n c'] w fun e w' => e = .returned (.bool true) ∧ Below w.heap.size w w' := by
  unfold maxLen at hm
  have Hn := Lib.hid hn
  have Hr := Lib.hid hr
  have Hr' := Lib.hid hr'
  clear hn hr hr'
  have hb : ((n : Int) != (n : Int)) = false := by simp
  go_enter Try.func19, Try.ntmps19
  go_wp2_with fail
  go_loopw [5] (fun i wr => ∃ k : Nat, k ≤ n ∧ i = .int .i64 k ∧ Below w.heap.size w wr) (fun i _ => n - (intOf i).toNat)
  case atStart => exact ⟨0, Nat.zero_le _, rfl, Below.refl _ _⟩
  case round =>
    obtain ⟨k, hk, rfl, hbw⟩ := hrel
    have Hbw := Lib.hid hbw
    clear hbw
    by_cases hlt : k < n
    · have d0 : decide ((k : Int) < n) = true := by simpa using hlt
      have hkl : k < l.length := by rw [Hn.out]; exact hlt
      obtain ⟨ad, v0, v1, rfl, c0, c1, hp⟩ := (Hr.out.below Hbw.out) k hkl
      obtain ⟨B, m, cb, rfl, rfl, hq⟩ := hp.pv
      obtain ⟨ad', v0', v1', rfl, c0', c1', hp'⟩ := (Hr'.out.below Hbw.out) k hkl
      obtain ⟨B', m', cb', rfl, rfl, hq'⟩ := hp'.pv
      have Hq := Lib.hid hq
      have Hq' := Lib.hid hq'
      have C0 := Lib.hid c0
      have C1 := Lib.hid c1
      have C0' := Lib.hid c0'
      have C1' := Lib.hid c1'
      generalize l[k] = p at *
      have Hs := Lib.hid (sameP_self p)
      clear hp hq hp' hq' c0 c1 c0' c1'
      go_wp2_with fail
      refine WH.start (S := fun w' : World => Below wr.heap.size wr w') (List.replicate 10 false) 10 rfl rfl (by kernel_rfl) (bdrew wr 1) (fun hSn => ?_)
      simp only [List.replicate]
      refine WH.take 0 _ ?_ rfl (by kernel_rfl) (fun _ _ _ h => h) rfl (by assumption) ?_ ?_; rotate_left; (focus (intro w hSw; (try dsimp only at hSw); (first | (go_simp; done) | (go_simp; with_reducible rfl)))); simp only [Act.put, List.setIfInBounds_toArray, List.set_cons_zero, List.set_cons_succ]
      refine WH.take 1 _ ?_ rfl (by kernel_rfl) (fun _ _ _ h => h) rfl (by assumption) ?_ ?_; rotate_left; (focus (intro w hSw; (try dsimp only at hSw); (first | (go_simp; done) | (go_simp; with_reducible rfl)))); simp only [Act.put, List.setIfInBounds_toArray, List.set_cons_zero, List.set_cons_succ]
      refine WH.take 2 _ ?_ rfl (by kernel_rfl) (fun _ _ _ h => h) rfl (by assumption) ?_ ?_; rotate_left; (focus (intro w hSw; (try dsimp only at hSw); (first | (go_simp; done) | (go_simp; with_reducible rfl)))); simp only [Act.put, List.setIfInBounds_toArray, List.set_cons_zero, List.set_cons_succ]
      refine WH.take 3 _ _ rfl (by kernel_rfl) (fun _ _ _ h => h) rfl (by assumption) (fun w' hSw => exec_load_pair _ _ rfl (ad.add (k * 2)) rfl (.int .i64 p.at_) (.slice B m cb) ((hSw.cell (block_lt_of_cell C0.out)).trans C0.out) (by rw [add_of_add]; exact (hSw.cell (block_lt_of_cell C1.out)).trans C1.out) _ Try.underlying54 Try.rpatchSize) ?_; simp only [Act.put, List.setIfInBounds_toArray, List.set_cons_zero, List.set_cons_succ]
      refine WH.take 4 _ ?_ rfl (by kernel_rfl) (fun _ _ _ h => h) rfl (by assumption) ?_ ?_; rotate_left; (focus (intro w hSw; (try dsimp only at hSw); (first | (go_simp; done) | (go_simp; with_reducible rfl)))); simp only [Act.put, List.setIfInBounds_toArray, List.set_cons_zero, List.set_cons_succ]
      refine WH.take 5 _ ?_ rfl (by kernel_rfl) (fun _ _ _ h => h) rfl (by assumption) ?_ ?_; rotate_left; (focus (intro w hSw; (try dsimp only at hSw); (first | (go_simp; done) | (go_simp; with_reducible rfl)))); simp only [Act.put, List.setIfInBounds_toArray, List.set_cons_zero, List.set_cons_succ]
      refine WH.take 6 _ ?_ rfl (by kernel_rfl) (fun _ _ _ h => h) rfl (by assumption) ?_ ?_; rotate_left; (focus (intro w hSw; (try dsimp only at hSw); (first | (go_simp; done) | (go_simp; with_reducible rfl)))); simp only [Act.put, List.setIfInBounds_toArray, List.set_cons_zero, List.set_cons_succ]
      refine WH.take 7 _ _ rfl (by kernel_rfl) (fun _ _ _ h => h) rfl (by assumption) (fun w' hSw => exec_load_pair _ _ rfl (ad'.add (k * 2)) rfl (.int .i64 p.at_) (.slice B' m' cb') ((hSw.cell (block_lt_of_cell C0'.out)).trans C0'.out) (by rw [add_of_add]; exact (hSw.cell (block_lt_of_cell C1'.out)).trans C1'.out) _ Try.underlying54 Try.rpatchSize) ?_; simp only [Act.put, List.setIfInBounds_toArray, List.set_cons_zero, List.set_cons_succ]
      refine WH.only 8 _ rfl (by kernel_rfl) rfl (fun K hK => ?_); go_simp; refine (rsamep_any p B m cb p B' m' cb' _ (Hq.out.below hSn) (Hq'.out.below hSn)).mono ?_; rintro e w3 ⟨rfl, hb3⟩; go_simp
      rw [Hs.out]
      have hSn := bt hSn hb3; refine hK _ _ hSn ?_; clear hK; clear K; simp only [List.set_cons_zero, List.set_cons_succ]
      refine WH.take 9 _ ?_ rfl (by kernel_rfl) (fun _ _ _ h => h) rfl (by assumption) ?_ ?_; rotate_left; (focus (intro w hSw; (try dsimp only at hSw); (first | (go_simp; done) | (go_simp; with_reducible rfl)))); simp only [Act.put, List.setIfInBounds_toArray, List.set_cons_zero, List.set_cons_succ]
      refine WH.done (by kernel_rfl) ?_
      have Hb3 := Lib.hid (bt Hbw.out hSn)
      clear hSn hb3
      go_wp2_with fail
      go_roundw
      case rel => exact ⟨k + 1, by omega, by go_num, Hb3.out⟩
      case measure => simp [intOf]; omega
    · have d0 : decide ((k : Int) < n) = false := by simpa using hlt
      go_wp2_with fail
      go_ret
      exact ⟨rfl, Hbw.out⟩

end Go.Proofs.Ytckkdfpmibipfaa

/-
  The contract of the document's answer 07's Diff.
-/
namespace Go.Proofs.Ytckkdfpmibipfaa
open Go.RowKit

theorem Try.bytesSize : (Try.prog.info? 33).map (·.size) = some 1 := by kernel_rfl
theorem same_bytes (x y : UInt8) : ((x.toNat : Int) == (y.toNat : Int)) = (x == y) := by
  rw [Bool.eq_iff_iff]
  simp only [beq_iff_eq]
  exact ⟨fun h => UInt8.toNat_inj.1 (by omega), fun h => by rw [h]⟩
theorem byteAt {w : World} {A : Option Addr} {l : List UInt8} (h : RB w A l) (k : Nat) (hk : k < l.length) : ∃ ad x, A = some ad ∧ l[k]? = some x ∧ w.cell? (ad.add k) = some (.int .u8 (x.toNat : Int)) := by
  obtain ⟨ad, e, hc⟩ := h k hk
  exact ⟨ad, l[k], e, List.getElem?_eq_getElem hk, hc⟩
/-- What the document's Diff has found, of the first k. -/
def DiffTo (w : World) (B : Nat) (u : Nat → Bool) (b : List UInt8) (k : Nat) (v : Value) : Prop :=
  ((k = 0 ∨ u (k - 1) = false) ∧ OwnP w B 54 v ((runsTo u k).map (ptOf b))) ∨
  (k ≠ 0 ∧ u (k - 1) = true ∧ ∃ (l0 : List (Nat × Nat)) (s n g cap : Nat) (cur : Array Value) (u0 : Value), runsTo u k = l0 ++ [(s, n)] ∧ v = .slice (some ⟨g, 0, none⟩) (l0.length + 1) cap ∧ StX w B 54 5 g cap cur u0 (l0.map (ptOf b)) s (ptOf b (s, n)).data)
theorem DiffTo.ownP {w : World} {B : Nat} {u : Nat → Bool} {b : List UInt8} {k : Nat} {v : Value} (h : DiffTo w B u b k v) : OwnP w B 54 v ((runsTo u k).map (ptOf b)) := by
  rcases h with h | ⟨_, _, l0, s, n, g, cap, cur, u0, hr, hv, hs⟩
  · exact h.2
  · rw [hr, hv, List.map_append]
    have := hs.ownP
    rw [List.length_map] at this
    exact this
theorem DiffTo.ext {w w' : World} {B : Nat} {u : Nat → Bool} {b : List UInt8} {k : Nat} {v : Value} (h : DiffTo w B u b k v) (hb : Below w.heap.size w w') : DiffTo w' B u b k v := by
  rcases h with ⟨h1, h2⟩ | ⟨h1, h2, l0, s, n, g, cap, cur, u0, hr, hv, hs⟩
  · exact Or.inl ⟨h1, h2.ext hb⟩
  · exact Or.inr ⟨h1, h2, l0, s, n, g, cap, cur, u0, hr, hv, hs.ext hb⟩
theorem DiffTo.next {w : World} {B : Nat} {u : Nat → Bool} {b : List UInt8} {k s n g cap : Nat} {y : UInt8} {l0 : List (Nat × Nat)} {cur : Array Value} {u1 : Value} {d : List UInt8} (hy : b[k]? = some y) (huk : u k = true) (hsn : s + n = k) (hr : runsTo u (k + 1) = l0 ++ [(s, n + 1)]) (hd : d = (ptOf b (s, n)).data)
    (h : StX w B 54 5 g cap cur u1 (l0.map (ptOf b)) s (d ++ [y])) : DiffTo w B u b (k + 1) (.slice (some ⟨g, 0, none⟩) (l0.length + 1) cap) := by
  refine Or.inr ⟨by omega, by rw [Nat.add_sub_cancel]; exact huk, l0, s, n + 1, g, cap, cur, u1, hr, rfl, ?_⟩
  have e : (ptOf b (s, n + 1)).data = d ++ [y] := by
    rw [hd]
    show (b.drop s).take (n + 1) = (b.drop s).take n ++ [y]
    have hk : n < (b.drop s).length := by
      have := (List.getElem?_eq_some_iff.1 hy).1
      simp; omega
    rw [List.take_succ_eq_append_getElem hk]
    congr 2
    have h2 : (b.drop s)[n]? = some y := by rw [List.getElem?_drop, hsn]; exact hy
    rw [List.getElem?_eq_getElem hk] at h2
    injection h2
  rw [e]
  exact h
set_option maxRecDepth 100000 in
set_option maxHeartbeats 4000000 in
theorem rdiff_any (A : Option Addr) (ca : Nat) (a : List UInt8) (ha : a.length = 256) (B : Option Addr) (cb : Nat) (b : List UInt8) (hb : b.length = 256) (w : World) (hra : RB w A a) (hrb : RB w B b) :
    Calls Try.prog 22 #[.slice A 256 ca, .slice B 256 cb] w (RetPL w (diffP a b)) := by
  have HA := Lib.hid ha
  have HB := Lib.hid hb
  have HRA := Lib.hid hra
  have HRB := Lib.hid hrb
  clear ha hb hra hrb
  obtain ⟨u, hu⟩ : ∃ u, unlike a b = u := ⟨_, rfl⟩
  have Hu := Lib.hid hu
  clear hu
  go_enter Try.func22, Try.ntmps22
  go_wp2_with fail
  go_loopw [5, 6] (fun o i wr => ∃ k : Nat, k ≤ 256 ∧ i = .int .i64 k ∧ DiffTo wr w.heap.size u b k o ∧ Below w.heap.size w wr) (fun _ i _ => 256 - (intOf i).toNat)
  case atStart => exact ⟨0, by omega, rfl, Or.inl ⟨Or.inl rfl, OwnP.nil_ _ _ _⟩, Below.refl _ _⟩
  case round =>
    obtain ⟨k, hk, rfl, hd, hbw⟩ := hrel
    have Hd := Lib.hid hd
    have Hbw := Lib.hid hbw
    clear hd hbw
    by_cases hlt : k < 256
    · have d0 : decide ((k : Int) < 256) = true := by simp; omega
      obtain ⟨ad, x, rfl, hx, c1⟩ := byteAt (HRA.out.below Hbw.out) k (by rw [HA.out]; exact hlt)
      obtain ⟨ad', y, rfl, hy, c2w⟩ := byteAt HRB.out k (by rw [HB.out]; exact hlt)
      have c2 := (Hbw.out.cell (block_lt_of_cell c2w)).trans c2w
      have Hyc := Lib.hid c2w
      clear c2w
      have hus := unlike_of hx hy
      rw [Hu.out] at hus
      have hks : (k : Int) < 256 := by omega
      have hxl := x.toNat_lt
      have hyl := y.toNat_lt
      have hsb := same_bytes x y
      cases huk : u k
      · have t1 : ((x.toNat : Int) == (y.toNat : Int)) = true := by
          rw [hsb]; rw [huk] at hus; simpa using hus.symm
        have Huk := Lib.hid huk
        clear hus hsb hx hy huk
        go_wp2_with fail
        go_quiet (fail)
        go_wp2_with fail
        go_roundw
        case rel => exact ⟨k + 1, by omega, by go_num, Or.inl ⟨Or.inr Huk.out, by rw [runs_off u k Huk.out]; exact Hd.out.ownP.ext (bdrew _ _)⟩, bt Hbw.out (bdrew _ _)⟩
        case measure => simp [intOf]; omega
      · have t1 : ((x.toNat : Int) == (y.toNat : Int)) = false := by
          rw [hsb]; rw [huk] at hus; simpa using hus.symm
        have Huk := Lib.hid huk
        have Hy := Lib.hid hy
        clear hus hsb hx hy huk
        go_wp2_with fail
        go_quiet (fail)
        have D5 := Lib.hid (bdrew wr nq)
        generalize wr.drewN nq = w5 at *
        have Hbw5 := Lib.hid (bt Hbw.out D5.out)
        have Hd5 := Lib.hid (Hd.out.ext D5.out)
        have Hrl := Lib.hid (runs_len u k)
        clear c1 c2 t1
        rcases Hd5.out with ⟨h1, ho⟩ | ⟨hk0, hk1, l0, s, n, g, cap, cur, u0, hr, rfl, hs⟩
        focus (
          have Ho := Lib.hid ho
          have Hnx := Lib.hid (runs_new u k Huk.out h1)
          clear ho
          by_cases hk0 : k = 0
          focus (
            have t3 : ((k : Int) == 0) = true := by rw [hk0]; rfl
            clear hk0 h1
            go_wp2_with fail
            go_quiet (fail)
            have D6 := Lib.hid (bdrew w5 nq)
            generalize w5.drewN nq = w6 at *)
          rotate_left
          focus (
            have t3 : ((k : Int) == 0) = false := by simp; omega
            obtain ⟨j, hj⟩ : ∃ j, k = j + 1 := ⟨k - 1, by omega⟩
            have hkj : (k : Int) - 1 = (j : Int) := by omega
            have huj : u j = false := by
              rcases h1 with h1 | h1
              · exact absurd h1 hk0
              · rw [hj, Nat.add_sub_cancel] at h1; exact h1
            obtain ⟨ad1, x', e1, hx', c3⟩ := byteAt (HRA.out.below Hbw5.out) j (by rw [HA.out]; omega)
            obtain ⟨ad2, y', e2, hy', c4⟩ := byteAt (HRB.out.below Hbw5.out) j (by rw [HB.out]; omega)
            injection e1 with e1
            injection e2 with e2
            subst e1
            subst e2
            have hu2 := unlike_of hx' hy'
            rw [Hu.out, huj] at hu2
            have t4 : ((x'.toNat : Int) == (y'.toNat : Int)) = true := by rw [same_bytes]; simpa using hu2.symm
            have hj2 : (j : Int) < 256 := by omega
            have hj3 : j < 256 := by omega
            clear hu2 hx' hy' huj h1 hj hk0
            go_wp2_with fail
            go_quiet (fail)
            have D6 := Lib.hid (bdrew w5 nq)
            generalize w5.drewN nq = w6 at *
            clear c3 c4 t4 hj2 hj3)
          rotate_left
          all_goals
            have Ho6 := Lib.hid (Ho.out.ext D6.out)
            have Hbw6 := Lib.hid (bt Hbw5.out D6.out)
            go_wp2_with (first | refine wpList_build_one rfl _ _ _ rfl Try.underlying40 _ _ Try.rpatchInfo rfl _ _ rfl ?_ | (at_builtin; refine wpList_append_start rfl _ _ _ _ rfl Try.underlying40 _ _ Try.rpatchInfo rfl w.heap.size _ _ Ho6.out 5 k (by omega) (by omega) rfl rfl Hbw6.out.size (by have := Hrl.out; rw [List.length_map]; omega) (by have := Hrl.out; rw [List.length_map]; omega) ?_))
            apply Stop.go
            intro g cap cur w7 hst hbw7
            have Hbw7 := Lib.hid (Hbw6.out.trans hbw7.out)
            have Hst := hst
            obtain ⟨d, hdd⟩ : ∃ d : List UInt8, [] = d := ⟨_, rfl⟩
            have Hfin := Lib.hid (fun (w' : World) (cur' : Array Value) (u1 : Value) (h : StX w' w.heap.size 54 5 g cap cur' u1 ((runsTo u k).map (ptOf b)) k (d ++ [y])) => DiffTo.next (n := 0) Hy.out Huk.out (Nat.add_zero k) Hnx.out (by rw [← hdd]; simp [ptOf]) h)
            generalize hL0 : (runsTo u k).map (ptOf b) = L0 at *
            have HL0 := Lib.hid (show L0.length = (runsTo u k).length by rw [← hL0, List.length_map])
            generalize (runsTo u k).length = m at *
            have Hml := Lib.hid (show m ≤ 256 by have := Hrl.out; omega)
            clear hst hbw7 hL0 Ho Ho6
            obtain ⟨u0, hu0⟩ : ∃ v : Value, Value.slice none 0 0 = v := ⟨_, rfl⟩
            obtain ⟨S, hS⟩ : ∃ S : Int, (k : Int) = S := ⟨_, rfl⟩
            have Hdl := Lib.hid (show d.length ≤ 256 by rw [← hdd]; exact Nat.zero_le _)
            rw [hu0, hdd, hS] at Hst
            rw [hS] at Hfin
            clear hu0 hdd hS)
        rotate_left 2
        focus (
          have ok := runs_ok u k
          have Hsn := Lib.hid (show s + n = k from ok.last l0 (s, n) hr hk0 hk1)
          have Hnx := Lib.hid (runs_more u k s n l0 Huk.out ⟨hk0, hk1⟩ hr)
          have t3 : ((k : Int) == 0) = false := by simp; omega
          obtain ⟨j, hj⟩ : ∃ j, k = j + 1 := ⟨k - 1, by omega⟩
          have hkj : (k : Int) - 1 = (j : Int) := by omega
          have huj : u j = true := by rw [hj, Nat.add_sub_cancel] at hk1; exact hk1
          obtain ⟨ad1, x', e1, hx', c3⟩ := byteAt (HRA.out.below Hbw5.out) j (by rw [HA.out]; omega)
          obtain ⟨ad2, y', e2, hy', c4⟩ := byteAt (HRB.out.below Hbw5.out) j (by rw [HB.out]; omega)
          injection e1 with e1
          injection e2 with e2
          subst e1
          subst e2
          have hu2 := unlike_of hx' hy'
          rw [Hu.out, huj] at hu2
          have t4 : ((x'.toNat : Int) == (y'.toNat : Int)) = false := by rw [same_bytes]; simpa using hu2.symm
          have hj2 : (j : Int) < 256 := by omega
          have hj3 : j < 256 := by omega
          have Hfin := Lib.hid (fun (w' : World) (cur' : Array Value) (u1 : Value) (h : StX w' w.heap.size 54 5 g cap cur' u1 (l0.map (ptOf b)) s ((ptOf b (s, n)).data ++ [y])) => DiffTo.next Hy.out Huk.out Hsn.out Hnx.out rfl h)
          have Hdl := Lib.hid (show (ptOf b (s, n)).data.length ≤ 256 from by
            show ((b.drop s).take n).length ≤ 256
            rw [List.length_take, List.length_drop, HB.out]; omega)
          have Hs := Lib.hid hs
          have HL0 := Lib.hid (show (l0.map (ptOf b)).length = l0.length from List.length_map _)
          have Hml := Lib.hid (show l0.length ≤ 256 by have h := Hrl.out; rw [hr, List.length_append] at h; simp at h; omega)
          generalize (ptOf b (s, n)).data = d at *
          generalize (s : Int) = S at *
          generalize l0.map (ptOf b) = L0 at *
          generalize l0.length = m at *
          clear hu2 hx' hy' huj hj hk0 hk1 hs hr ok Hd5 Hd
          go_wp2_with fail
          go_quiet (fail)
          have D6 := Lib.hid (bdrew w5 nq)
          generalize w5.drewN nq = w7 at *
          have Hbw7 := Lib.hid (bt Hbw5.out D6.out)
          have Hst := Lib.hid (Hs.out.ext D6.out)
          clear c3 c4 t4 hj2 hj3 t3 hkj)
        rotate_right 2
        all_goals
          have hml := Hml.out
          have hmm : (m : Int) < (m : Int) + 1 := by omega
          go_wp2_with fail
          refine WH.start (S := fun w' : World => Below w.heap.size w w') (List.replicate 16 false) 16 rfl rfl (by kernel_rfl) (bt Hbw7.out (bdrew w7 1)) (fun hSn => ?_)
          simp only [List.replicate]
          refine WH.take 0 _ ?_ rfl (by kernel_rfl) (fun _ _ _ h => h) rfl (by assumption) ?_ ?_; rotate_left; (focus (intro w hSw; (try dsimp only at hSw); (first | (go_simp; done) | (go_simp; with_reducible rfl)))); simp only [Act.put, List.setIfInBounds_toArray, List.set_cons_zero, List.set_cons_succ]
          refine WH.take 1 _ ?_ rfl (by kernel_rfl) (fun _ _ _ h => h) rfl (by assumption) ?_ ?_; rotate_left; (focus (intro w hSw; (try dsimp only at hSw); (first | (go_simp; done) | (go_simp; with_reducible rfl)))); simp only [Act.put, List.setIfInBounds_toArray, List.set_cons_zero, List.set_cons_succ]
          refine WH.take 2 _ ?_ rfl (by kernel_rfl) (fun _ _ _ h => h) rfl (by assumption) ?_ ?_; rotate_left; (focus (intro w hSw; (try dsimp only at hSw); (first | (go_simp; done) | (go_simp; with_reducible rfl)))); simp only [Act.put, List.setIfInBounds_toArray, List.set_cons_zero, List.set_cons_succ]
          refine WH.take 3 _ ?_ rfl (by kernel_rfl) (fun _ _ _ h => h) rfl (by assumption) ?_ ?_; rotate_left; (focus (intro w hSw; (try dsimp only at hSw); (first | (go_simp; done) | (go_simp; with_reducible rfl)))); simp only [Act.put, List.setIfInBounds_toArray, List.set_cons_zero, List.set_cons_succ]
          refine WH.take 4 _ ?_ rfl (by kernel_rfl) (fun _ _ _ h => h) rfl (by assumption) ?_ ?_; rotate_left; (focus (intro w hSw; (try dsimp only at hSw); (first | (go_simp; done) | (go_simp; with_reducible rfl)))); simp only [Act.put, List.setIfInBounds_toArray, List.set_cons_zero, List.set_cons_succ]
          refine WH.take 5 _ ?_ rfl (by kernel_rfl) (fun _ _ _ h => h) rfl (by assumption) ?_ ?_; rotate_left; (focus (intro w hSw; (try dsimp only at hSw); (first | (go_simp; done) | (go_simp; with_reducible rfl)))); simp only [Act.put, List.setIfInBounds_toArray, List.set_cons_zero, List.set_cons_succ]
          refine WH.take 7 _ ?_ rfl (by kernel_rfl) (fun _ _ _ h => h) rfl (by assumption) ?_ ?_; rotate_left; (focus (intro w hSw; (try dsimp only at hSw); (first | (go_simp; done) | (go_simp; with_reducible rfl)))); simp only [Act.put, List.setIfInBounds_toArray, List.set_cons_zero, List.set_cons_succ]
          refine WH.take 8 _ ?_ rfl (by kernel_rfl) (fun _ _ _ h => h) rfl (by assumption) ?_ ?_; rotate_left; (focus (intro w hSw; (try dsimp only at hSw); (first | (go_simp; done) | (go_simp; with_reducible rfl)))); simp only [Act.put, List.setIfInBounds_toArray, List.set_cons_zero, List.set_cons_succ]
          refine WH.take 9 _ ?_ rfl (by kernel_rfl) (fun _ _ _ h => h) rfl (by assumption) ?_ ?_; rotate_left; (focus (intro w hSw; (try dsimp only at hSw); (first | (go_simp; done) | (go_simp; with_reducible rfl)))); simp only [Act.put, List.setIfInBounds_toArray, List.set_cons_zero, List.set_cons_succ]
          refine WH.take 10 _ _ rfl (by kernel_rfl) (fun _ _ _ h => h) rfl (by assumption) (fun w' hSw => exec_load_cell _ _ rfl (ad'.add k) rfl (.int .u8 (y.toNat : Int)) ((hSw.cell (block_lt_of_cell Hyc.out)).trans Hyc.out) _ Try.underlying5 rfl) ?_; simp only [Act.put, List.setIfInBounds_toArray, List.set_cons_zero, List.set_cons_succ]
          have HX := Lib.hid (Hst.out.ext (bdrew w7 1))
          have Hcell : w7.drew.cell? ⟨g, m * 2 + 1, none⟩ = some u0 := by
            have h := HX.out.lastD
            rw [HL0.out] at h
            exact (HX.out.blk.cell _).trans h
          have D8 := Lib.hid (Grew.alloc w7.drew (.cells #[.int .u8 (y.toNat : Int)] 5)).1
          have HX8 := Lib.hid (HX.out.ext D8.out)
          have Hcell8 : (w7.drew.alloc (.cells #[.int .u8 (y.toNat : Int)] 5)).cell? ⟨g, m * 2 + 1, none⟩ = some u0 := by
            have h := HX8.out.lastD
            rw [HL0.out] at h
            exact (HX8.out.blk.cell _).trans h
          refine WH.two 6 11 _ _ rfl rfl (by kernel_rfl) rfl rfl (fun K hK => ?_) (fun K hK => ?_)
          focus (
            refine ow_load_cell _ _ rfl ⟨g, m * 2 + 1, none⟩ rfl u0 Hcell _ Try.underlying33 rfl ?_
            have hSn := hSn; refine hK _ _ hSn ?_; clear hK; clear K; simp only [Act.put, List.setIfInBounds_toArray, List.set_cons_zero, List.set_cons_succ]
            refine WH.only 11 _ rfl (by kernel_rfl) rfl (fun K hK => ?_)
            refine ow_build_byte _ _ _ rfl Try.underlying33 Try.byteInfo _ rfl ?_
            have hSn := bt hSn D8.out; refine hK _ _ hSn ?_; clear hK; clear K; simp only [Act.put, List.setIfInBounds_toArray, List.set_cons_zero, List.set_cons_succ])
          rotate_left
          focus (
            refine ow_build_byte _ _ _ rfl Try.underlying33 Try.byteInfo _ rfl ?_
            have hSn := bt hSn D8.out; refine hK _ _ hSn ?_; clear hK; clear K; simp only [Act.put, List.setIfInBounds_toArray, List.set_cons_zero, List.set_cons_succ]
            refine WH.only 6 _ rfl (by kernel_rfl) rfl (fun K hK => ?_)
            refine ow_load_cell _ _ rfl ⟨g, m * 2 + 1, none⟩ rfl u0 Hcell8 _ Try.underlying33 rfl ?_
            have hSn := hSn; refine hK _ _ hSn ?_; clear hK; clear K; simp only [Act.put, List.setIfInBounds_toArray, List.set_cons_zero, List.set_cons_succ])
          rotate_left
          all_goals
            refine WH.only 12 _ rfl (by kernel_rfl) rfl (fun K hK => ?_)
            refine ow_append_last _ _ _ _ rfl Try.underlying33 Try.byteInfo w.heap.size u0 d HX.out.own y rfl rfl (show w.heap.size ≤ w7.heap.size from Hbw7.out.size) (by have := Hdl.out; omega) ?_
            apply Stop.go
            intro u1 w8 Ho8 Hg8 Hu8
            have Hbw8 := Lib.hid (hSn.grown Hg8.out hSn.size (fun k hk => (HX.out.own.lt k hk).1))
            have hSn := Hbw8.out; refine hK _ _ hSn ?_; clear hK; clear K; simp only [Act.put, List.setIfInBounds_toArray, List.set_cons_zero, List.set_cons_succ]
            refine WH.take 13 _ ?_ rfl (by kernel_rfl) (fun _ _ _ h => h) rfl (by assumption) ?_ ?_; rotate_left; (focus (intro w hSw; (try dsimp only at hSw); (first | (go_simp; done) | (go_simp; with_reducible rfl)))); simp only [Act.put, List.setIfInBounds_toArray, List.set_cons_zero, List.set_cons_succ]
            refine WH.take 14 _ ?_ rfl (by kernel_rfl) (fun _ _ _ h => h) rfl (by assumption) ?_ ?_; rotate_left; (focus (intro w hSw; (try dsimp only at hSw); (first | (go_simp; done) | (go_simp; with_reducible rfl)))); simp only [Act.put, List.setIfInBounds_toArray, List.set_cons_zero, List.set_cons_succ]
            refine WH.only 15 _ rfl (by kernel_rfl) rfl (fun K hK => ?_)
            have Hblk8 := Lib.hid (show Blk w8 g 54 cur from (Hg8.out.block g HX8.out.blk.lt (fun e => HX.out.apart e.symm)).trans HX8.out.blk)
            obtain ⟨A1, c1, hv1, -, -, -⟩ := Ho8.out.read
            refine ow_store_cell _ _ _ rfl Try.bytesSize g (m * 2 + 1) rfl u1 rfl (by rw [hv1]; rfl) (by rw [hv1]; rfl) _ _ Hblk8.out (by have h1 := HX.out.size; have h2 := HX.out.cap1; rw [HL0.out] at h2; omega) ?_
            apply Stop.go
            intro w10 Ho10 Hb10
            have Hbw10 := Lib.hid (bonly Hbw8.out Ho10.out HX.out.base)
            have hSn := Hbw10.out; refine hK _ _ hSn ?_; clear hK; clear K; simp only [Act.put, List.set_cons_zero, List.set_cons_succ]
            refine WH.done (by kernel_rfl) ?_
            have Hnew := Lib.hid (Hfin.out _ _ _ (StX.next HX8.out Ho8.out Hg8.out Hu8.out Ho10.out (by rw [HL0.out]; exact Hb10.out)))
            clear hv1 Hcell hSn
            go_wp2_with fail
            go_roundw
            case rel => exact ⟨k + 1, by omega, by go_num, Hnew.out, Hbw10.out⟩
            case measure => simp [intOf]; omega
    · have d0 : decide ((k : Int) < 256) = false := by simp; omega
      obtain rfl : k = 256 := by omega
      have Hrv := Lib.hid (show diffP a b = (runsTo u 256).map (ptOf b) by unfold diffP; rw [Hu.out])
      go_wp2_with fail
      go_ret
      obtain ⟨A', c', hv, h1, h2, h3⟩ := Hd.out.ownP.read
      rw [Hrv.out]
      exact ⟨A', _, c', congrArg Ending.returned hv, rfl, h1, h2, h3, Hbw.out⟩

end Go.Proofs.Ytckkdfpmibipfaa

/-
  The walk of RollTells.
-/
namespace Go.Proofs.Ytckkdfpmibipfaa
open Go.RowKit

set_option maxRecDepth 100000 in
set_option maxHeartbeats 16000000 in
theorem rollTells_any (L : List UInt8) (hL : L.length = 256) (A : Option Addr) (n cap : Nat) (l : List Cg) (hn : l.length = n) (hcap : n ≤ cap) (hm : cap ≤ maxLen) (block : Int) (w : World) (hr : RdL RdC w A 5 l) :
    Calls Try.prog 3 #[.agg (bcells L), .slice A n cap, .int .i64 block] w fun e w' => e = .returned (.bool true) ∧ Below w.heap.size w w' := by
  have HL := Lib.hid hL
  have Hn := Lib.hid hn
  have Hr := Lib.hid hr
  clear hL hn hr
  go_enter Try.func3, Try.ntmps3
  go_wp2_with (refine wpList_box_row rfl _ _ rfl _ rfl ?_)
  apply Stop.go; intro w2 Hg1 Hb1
  have Hw2 := Lib.hid Hg1.out.1
  have Hx2 := Lib.hid Hb1.out
  have Hr2 := Lib.hid (Hr.out.below Hw2.out)
  clear Hg1 Hb1
  have HM := Lib.hid (rmuchc_any 30 (by decide) A n cap l Hn.out (Nat.le_trans hcap hm) w2 Hr2.out)
  cases hmu : muchC l 30
  rotate_left
  · rw [hmu] at HM
    clear hmu
    go_wp2_with fail
    refine (HM.out).mono ?_; rintro e w2 ⟨rfl, rfl⟩
    go_wp2_with fail
    refine (works10_any _).mono ?_; rintro e w3 ⟨rfl, hb3⟩
    have Hb3 := Lib.hid (bt Hw2.out hb3)
    clear hb3
    go_wp2_with fail
    go_ret
    exact ⟨rfl, Hb3.out⟩
  · obtain ⟨hl, hd⟩ := muchC_no hmu
    rw [hmu] at HM
    clear hmu
    have Hl := Lib.hid (show n ≤ 4096 by have := Hn.out; omega)
    have HD := Lib.hid hd
    have HD4 := Lib.hid (show ∀ c ∈ l, c.p.data.length ≤ 4096 ∧ c.needs.length ≤ 4096 from fun c hc => by have := HD.out c hc; omega)
    have HN := Lib.hid (show ∀ c ∈ l, c.needs.length ≤ 4096 from fun c hc => (HD4.out c hc).2)
    have HV := Lib.hid (imageC_len HL.out l block)
    have HU := Lib.hid (viewC_len HL.out l block)
    clear hl hd
    go_wp2_with fail
    refine (HM.out).mono ?_; rintro e w2 ⟨rfl, rfl⟩
    clear HM
    go_wp2_with fail
    refine (to9_any A n cap l Hn.out Hl.out HD.out _ Hr2.out).mono ?_; rintro e w3 ⟨A3, n3, c3, rfl, e3, q3, r3, hr3, hb3⟩
    have HX := Lib.hid (show l.length = n3 ∧ n3 ≤ 4096 from ⟨e3, by rw [← e3, Hn.out]; exact Hl.out⟩)
    have HrX3 := Lib.hid hr3
    have Hw3 := Lib.hid (bt Hw2.out hb3)
    have Hx3 := Lib.hid (Hx2.out.ext hb3)
    clear e3 q3 r3 hr3 hb3
    go_wp2_with (refine wpList_load_arr rfl _ _ rfl _ rfl _ _ Hx3.out _ _ Try.underlying22 (Try.arrFits HL.out) ?_)
    refine (pview_any L HL.out A3 n3 c3 l HX.out.1 HX.out.2 HD4.out block _ HrX3.out).mono ?_; rintro e w4 ⟨rfl, h5⟩
    have Hw4 := Lib.hid (bt Hw3.out h5)
    have Hx4 := Lib.hid (Hx3.out.ext h5)
    have HrX4 := Lib.hid (HrX3.out.below h5)
    clear h5
    go_wp2_with (refine wpList_alloc_row rfl _ rfl _ Try.blockZero ?_)
    apply Stop.go; intro w5 Hg5 Hb5
    go_wp2_with (refine wpList_store_arr rfl _ _ _ rfl _ (bcells (viewC L l block)) rfl rfl _ _ Hb5.out (Try.blockFits HU.out) (by rw [bcells_size, bcells_size, HU.out, zeros_len]) (oneCell_bcells _) ?_)
    apply Stop.go; intro w6 Ho6 Hb6
    have D6 := Lib.hid (bonly Hg5.out.1 Ho6.out (Nat.le_refl _))
    have Hw6 := Lib.hid (bt Hw4.out D6.out)
    have Hx6 := Lib.hid (Hx4.out.ext D6.out)
    have HrX6 := Lib.hid (HrX4.out.below D6.out)
    clear Hg5 Hb5 Ho6 D6 Hw3 Hx3 HrX3 Hw4 Hx4 HrX4
    go_wp2_with (refine wpList_load_arr rfl _ _ rfl _ rfl _ _ Hx6.out _ _ Try.underlying22 (Try.arrFits HL.out) ?_)
    refine (pimage_any L HL.out A3 n3 c3 l HX.out.1 HX.out.2 block _ HrX6.out).mono ?_; rintro e w7 ⟨AI, nI, cI, rfl, ⟨g1, g2, g3, g4⟩, h5⟩
    have Hw7 := Lib.hid (bt Hw6.out h5)
    have Hx7 := Lib.hid (Hx6.out.ext h5)
    have Hv7 := Lib.hid (Hb6.out.ext h5)
    have HrX7 := Lib.hid (HrX6.out.below h5)
    have HI := Lib.hid (And.intro g1 (And.intro g2 g3))
    have Hi7 := Lib.hid g4
    clear g1 g2 g3 g4 h5
    go_wp2_with (refine wpList_alloc_row rfl _ rfl _ Try.blockZero ?_)
    apply Stop.go; intro w8 Hg8 Hb8
    go_wp2_with (refine wpList_store_arr rfl _ _ _ rfl _ (bcells (imageC L l block)) rfl rfl _ _ Hb8.out (Try.blockFits HV.out) (by rw [bcells_size, bcells_size, HV.out, zeros_len]) (oneCell_bcells _) ?_)
    apply Stop.go; intro w9 Ho9 Hb9
    have D9 := Lib.hid (bonly Hg8.out.1 Ho9.out (Nat.le_refl _))
    have Hw9 := Lib.hid (bt Hw7.out D9.out)
    have Hx9 := Lib.hid (Hx7.out.ext D9.out)
    have Hv9 := Lib.hid (Hv7.out.ext D9.out)
    have HrX9 := Lib.hid (HrX7.out.below D9.out)
    have Hi9 := Lib.hid (Hi7.out.below D9.out)
    have Hr9 := Lib.hid (Hr.out.below Hw9.out)
    clear Hg8 Hb8 Ho9 D9 Hw6 Hx6 HrX6 Hb6 Hw7 Hx7 Hv7 HrX7 Hi7
    generalize w4.heap.size = g8 at *
    generalize w7.heap.size = g9 at *
    generalize hR : readyC l block = R at *
    have HR := Lib.hid hR
    clear hR
    go_wp2_with fail
    refine WH.start (S := fun w' : World => Below w9.heap.size w9 w') (List.replicate 10 false) 10 rfl rfl (by kernel_rfl) (bdrew w9 1) (fun hSn => ?_)
    simp only [List.replicate]
    refine WH.take 0 _ _ rfl (by kernel_rfl) (fun _ _ _ h => h) rfl (by assumption) (fun w' hSw => exec_slice_all _ _ rfl _ _ Try.underlying22 Try.byteSize w.heap.size rfl (by decide)) ?_; simp only [Act.put, List.setIfInBounds_toArray, List.set_cons_zero, List.set_cons_succ]
    refine WH.take 1 _ ?_ rfl (by kernel_rfl) (fun _ _ _ h => h) rfl (by assumption) ?_ ?_; rotate_left; (focus (intro w hSw; (try dsimp only at hSw); (first | (go_simp; done) | (go_simp; with_reducible rfl)))); simp only [Act.put, List.setIfInBounds_toArray, List.set_cons_zero, List.set_cons_succ]
    refine WH.take 2 _ ?_ rfl (by kernel_rfl) (fun _ _ _ h => h) rfl (by assumption) ?_ ?_; rotate_left; (focus (intro w hSw; (try dsimp only at hSw); (first | (go_simp; done) | (go_simp; with_reducible rfl)))); simp only [Act.put, List.setIfInBounds_toArray, List.set_cons_zero, List.set_cons_succ]
    refine WH.take 4 _ _ rfl (by kernel_rfl) (fun _ _ _ h => h) rfl (by assumption) (fun w' hSw => exec_slice_all _ _ rfl _ _ Try.underlying22 Try.byteSize w.heap.size rfl (by decide)) ?_; simp only [Act.put, List.setIfInBounds_toArray, List.set_cons_zero, List.set_cons_succ]
    refine WH.take 5 _ ?_ rfl (by kernel_rfl) (fun _ _ _ h => h) rfl (by assumption) ?_ ?_; rotate_left; (focus (intro w hSw; (try dsimp only at hSw); (first | (go_simp; done) | (go_simp; with_reducible rfl)))); simp only [Act.put, List.setIfInBounds_toArray, List.set_cons_zero, List.set_cons_succ]
    refine WH.take 6 _ ?_ rfl (by kernel_rfl) (fun _ _ _ h => h) rfl (by assumption) ?_ ?_; rotate_left; (focus (intro w hSw; (try dsimp only at hSw); (first | (go_simp; done) | (go_simp; with_reducible rfl)))); simp only [Act.put, List.setIfInBounds_toArray, List.set_cons_zero, List.set_cons_succ]
    refine WH.only 3 _ rfl (by kernel_rfl) rfl (fun K hK => ?_); go_simp; refine (rview10_any (some ⟨w.heap.size, 0, none⟩) 256 256 L HL.out HL.out (Nat.le_refl _) (by decide) A n cap l Hn.out Hl.out HN.out block _ (RB.of_blk0 (Hx9.out.ext hSn)) (Hr9.out.below hSn)).mono ?_; rintro e wa ⟨B1, n1, c1, rfl, e1, q1, r1, hr1, hba⟩; go_simp
    obtain rfl : n1 = 256 := e1.symm.trans HU.out
    have F1 := Lib.hid hr1
    have hSn := bt hSn hba; refine hK _ _ hSn ?_; clear hK; clear K; simp only [List.set_cons_zero, List.set_cons_succ]
    refine WH.only 7 _ rfl (by kernel_rfl) rfl (fun K hK => ?_); go_simp; refine (rimage10_any (some ⟨w.heap.size, 0, none⟩) 256 256 L HL.out HL.out (Nat.le_refl _) (by decide) A n cap l Hn.out Hl.out HN.out block _ (RB.of_blk0 (Hx9.out.ext hSn)) (Hr9.out.below hSn)).mono ?_; rintro e wF ⟨B2, n2, c2, rfl, e2, q2, r2, hr2, hbb⟩; go_simp
    obtain rfl : n2 = 256 := e2.symm.trans HV.out
    have F1 := Lib.hid (F1.out.below hbb)
    have F2 := Lib.hid hr2
    have hSn := bt hSn hbb; refine hK _ _ hSn ?_; clear hK; clear K; simp only [List.set_cons_zero, List.set_cons_succ]
    refine WH.take 8 _ ?_ rfl (by kernel_rfl) (fun _ _ _ h => h) rfl (by assumption) ?_ ?_; rotate_left; (focus (intro w hSw; (try dsimp only at hSw); (first | (go_simp; done) | (go_simp; with_reducible rfl)))); simp only [Act.put, List.setIfInBounds_toArray, List.set_cons_zero, List.set_cons_succ]
    refine WH.take 9 _ ?_ rfl (by kernel_rfl) (fun _ _ _ h => h) rfl (by assumption) ?_ ?_; rotate_left; (focus (intro w hSw; (try dsimp only at hSw); (first | (go_simp; done) | (go_simp; with_reducible rfl)))); simp only [Act.put, List.setIfInBounds_toArray, List.set_cons_zero, List.set_cons_succ]
    refine WH.done (by kernel_rfl) ?_
    have HwF := Lib.hid (bt Hw9.out hSn)
    have HxF := Lib.hid (Hx9.out.ext hSn)
    have HvF := Lib.hid (Hv9.out.ext hSn)
    have HiF := Lib.hid (Hb9.out.ext hSn)
    have HrXF := Lib.hid (HrX9.out.below hSn)
    have HrF := Lib.hid (Hr9.out.below hSn)
    have HidF := Lib.hid (Hi9.out.below hSn)
    clear hr1 hr2 hba hbb hSn e1 e2 q1 r1 q2 r2 Hw9 Hx9 Hv9 Hb9 HrX9 Hr9 Hi9
    have HBk := Lib.hid (fun w' (hb : Below wF.heap.size wF w') => pback_any L HL.out A3 n3 c3 l HX.out.1 HX.out.2 HD4.out block w' (HrXF.out.below hb))
    generalize viewC L l block = U at *
    generalize imageC L l block = V at *
    go_wp2_with (refine wpList_slice_all rfl _ _ rfl _ _ Try.underlying28 Try.byteSize g8 rfl (by decide) ?_)
    refine (same_any (some ⟨g8, 0, none⟩) 256 256 U HU.out B1 256 c1 U HU.out (by decide) (by decide) _ (RB.of_blk0 HvF.out) F1.out).mono ?_; rintro e wb ⟨rfl, k1, rfl⟩
    rw [decide_eq_true (rfl : U = U)]
    have Da := Lib.hid (bdrew wF k1)
    generalize wF.drewN k1 = wa at *
    go_wp2_with (refine wpList_slice_all rfl _ _ rfl _ _ Try.underlying28 Try.byteSize g9 rfl (by decide) ?_)
    refine (same_any (some ⟨g9, 0, none⟩) 256 256 V HV.out B2 256 c2 V HV.out (by decide) (by decide) _ (RB.of_blk0 (HiF.out.ext Da.out)) (F2.out.below Da.out)).mono ?_; rintro e wb ⟨rfl, k2, rfl⟩
    rw [decide_eq_true (rfl : V = V)]
    have Db := Lib.hid (bt Da.out (bdrew wa k2))
    generalize wa.drewN k2 = wb at *
    clear Da
    go_wp2_with fail
    refine (rready9_any A n cap l Hn.out Hl.out HN.out block _ (HrF.out.below Db.out)).mono ?_; rintro e wc ⟨AR, nR, cR, rfl, g1, g2, g3, g4, g5⟩
    rw [HR.out] at g1 g4
    have Dc := Lib.hid (bt Db.out g5)
    have HQ := Lib.hid (And.intro g1 (And.intro g2 (And.intro g3 g4)))
    clear g1 g2 g3 g4 g5 Db
    go_wp2_with fail
    refine (ints_any AI nI cI R HI.out.1 AR nR cR R HQ.out.1 (Nat.le_trans HI.out.2.1 HI.out.2.2) (Nat.le_trans HQ.out.2.1 HQ.out.2.2.1) _ (HidF.out.below Dc.out) HQ.out.2.2.2).mono ?_; rintro e wd ⟨rfl, k3, rfl⟩
    rw [decide_eq_true (rfl : R = R)]
    have Dd := Lib.hid (bt Dc.out (bdrew wc k3))
    generalize wc.drewN k3 = wd at *
    clear Dc HQ
    go_wp2_with fail
    refine (pheld_any A3 n3 c3 l HX.out.1 HX.out.2 block _ (HrXF.out.below Dd.out)).mono ?_; rintro e we ⟨A5, n5, c5, rfl, g1, g2, g3, g4, g5⟩
    have De := Lib.hid (bt Dd.out g5)
    have HQ := Lib.hid (And.intro g1 (And.intro g2 (And.intro g3 g4)))
    clear g1 g2 g3 g4 g5 Dd
    go_wp2_with fail
    refine (rheld10_any A n cap l Hn.out Hl.out HN.out block _ (HrF.out.below De.out)).mono ?_; rintro e wf ⟨A6, n6, c6, rfl, g1, g2, g3, g4, g5⟩
    have Df := Lib.hid (bt De.out g5)
    have HQ2 := Lib.hid (And.intro g1 (And.intro g2 (And.intro g3 g4)))
    have HQr := Lib.hid (HQ.out.2.2.2.below g5)
    clear g1 g2 g3 g4 g5 De
    generalize heldC l block = H at *
    go_wp2_with fail
    refine (ints_any A5 n5 c5 H HQ.out.1 A6 n6 c6 H HQ2.out.1 (Nat.le_trans HQ.out.2.1 HQ.out.2.2.1) (Nat.le_trans HQ2.out.2.1 HQ2.out.2.2.1) _ HQr.out HQ2.out.2.2.2).mono ?_; rintro e wg ⟨rfl, k4, rfl⟩
    rw [decide_eq_true (rfl : H = H)]
    have Dg := Lib.hid (bt Df.out (bdrew wf k4))
    generalize wf.drewN k4 = wg at *
    clear Df HQ HQ2 HQr
    go_wp2_with (refine wpList_load_arr rfl _ _ rfl _ rfl _ _ (HxF.out.ext Dg.out) _ _ Try.underlying22 (Try.arrFits HL.out) ?_)
    refine (HBk.out _ Dg.out).mono ?_; rintro e wh ⟨A7, n7, c7, rfl, g1, g2, g3, g4, g5⟩
    have Dh := Lib.hid (bt Dg.out g5)
    have HQ := Lib.hid (And.intro g1 (And.intro g2 (And.intro g3 g4)))
    have HP := Lib.hid (show n7 ≤ 4096 by rw [← g1]; exact by unfold diffP; rw [List.length_map]; exact Nat.le_trans (runs_len _ _) (by decide))
    clear g1 g2 g3 g4 g5 Dg
    go_wp2_with fail
    refine (ofAll_any A7 n7 c7 (diffP U V) HQ.out.1 HP.out _ HQ.out.2.2.2).mono ?_; rintro e wi ⟨A8, n8, c8, rfl, g1, g2, g3, g4, g5⟩
    have Di := Lib.hid (bt Dh.out g5)
    have HQ2 := Lib.hid (And.intro g1 (And.intro g2 (And.intro g3 g4)))
    clear g1 g2 g3 g4 g5 Dh HQ
    go_wp2_with fail
    refine (rdiff_any B1 c1 U HU.out B2 c2 V HV.out _ (F1.out.below Di.out) (F2.out.below Di.out)).mono ?_; rintro e wj ⟨A9, n9, c9, rfl, g1, g2, g3, g4, g5⟩
    have Dj := Lib.hid (bt Di.out g5)
    have HQr := Lib.hid (HQ2.out.2.2.2.below g5)
    obtain rfl : n8 = n9 := HQ2.out.1.symm.trans g1
    have HQ3 := Lib.hid g4
    clear g1 g2 g3 g4 g5 Di
    go_wp2_with fail
    refine (rsameAll_any A8 n8 c8 A9 c9 (diffP U V) HQ2.out.1 (Nat.le_trans HQ2.out.2.1 HQ2.out.2.2.1) _ HQr.out HQ3.out).mono ?_; rintro e wk ⟨rfl, hbk⟩
    have Dk := Lib.hid (bt Dj.out hbk)
    clear hbk Dj
    go_wp2_with fail
    refine (works10_any _).mono ?_; rintro e wl ⟨rfl, hbl⟩
    have Hfin := Lib.hid (bt (bt HwF.out Dk.out) hbl)
    clear hbl Dk
    go_wp2_with fail
    go_ret
    exact ⟨rfl, Hfin.out⟩

end Go.Proofs.Ytckkdfpmibipfaa

/-
  Whatever the arguments of RollTells are, it answers true and leaves them. No condition.
-/
namespace Go.Proofs.Ytckkdfpmibipfaa
open Go.ChangeShapes Go.WideShapes Go.ChangeAt Go.RowKit Go.ChangeMaps

set_option maxRecDepth 100000 in
theorem rollTells_lifted (os : Os) (started : os.Started) (H : Type) (enc : TypeId × Value → H) :
    ReturnsInHanded {} Try.checked os 3 .any (Rows.rollTellsSpec.pre6 enc Try.prog Try.f3 Rows.rollTellsRow.domain false) (Rows.rollTellsSpec.post enc Try.prog Try.f3 false true false false) := by
  refine returnsInHanded_of_change (C := Try.checked) Try.own started (by kernel_rfl) Try.func3 (ChangeSpec.witness6 (enc := enc) (C := Try.checked) false ⟨#[], #[.agg (bcells (zeros 256)), .slice none 0 0, .int .i64 0], []⟩ 8 (by kernel_rfl) (by kernel_rfl) (by kernel_rfl) (by kernel_rfl)) ?_; intro W base args ds gs before hval0 hW hcnd _; have hval : ∀ (j : Nat) t v, Try.f3.params[j]? = some t → args[j]? = some v → Value.okWide Try.prog W .any base t v := hval0; have hW' := hW; obtain ⟨p, q, hA0, hV, rfl, hfz, hnd⟩ := hW; have hA : DataW.TrodAll enc Try.prog W 0 (fun _ => true) true Try.f3.params.toList args.toList ds p := hA0; rw [Try.params3] at hA hval; obtain ⟨rfl, rfl⟩ := trodVars_none hV; clear hA0 hval0
  obtain ⟨v0, v1, v2, d0, d1, d2, p0, p1, p2, rfl, rfl, rfl, h0, h1, h2⟩ := trodAll_three hA
  obtain ⟨L, rfl, hL⟩ := open_byte_array Try.underlying22 Try.underlying5 (by kernel_rfl) (by kernel_rfl) (hval 0 _ v0 rfl rfl) h0
  obtain ⟨A, n, c, l, rfl, hn, hc, hm, hr⟩ := open_changes Try.underlying23 Try.underlying56 (by kernel_rfl) Try.underlying3 (by kernel_rfl) Try.underlying3 (by kernel_rfl) rfl (by kernel_rfl) Try.underlying30 (by kernel_rfl) Try.underlying3 (by kernel_rfl) Try.underlying54 Try.underlying3 (by kernel_rfl) Try.underlying33 (by kernel_rfl) Try.underlying5 (by kernel_rfl) rfl rfl rfl rfl rfl rfl (hval 1 _ v1 rfl rfl) h1
  obtain ⟨x, rfl, rfl, rfl, _⟩ := open_int Try.underlying3 (hval 2 _ v2 rfl rfl) h2
  refine (rollTells_any L hL A n c l hn hc hm x W hr.rd).mono fun e W' ⟨he, hb⟩ => ?_
  subst he
  exact ⟨_, rfl, law_post Try.laidOut (readable_all (by kernel_rfl)) rfl rfl Try.underlying4 rfl hW' hb⟩

theorem rollTells_holds : Rows.RollTellsSaid := OpenClaim.holds_of_wide 3 Try.f3 rfl rfl rfl rfl rfl rfl rfl ⟨rfl, rfl, rfl, rfl, rfl⟩ rfl rfl rfl rfl rfl (by kernel_rfl) Try.func3 (by kernel_rfl) (of_decide_eq_true (by kernel_rfl)) (by unfold Func.isWrapper; first | (rw [if_pos (by decide +kernel)]; kernel_rfl) | (rw [if_neg (by decide +kernel)]; exact ⟨rfl, rfl⟩)) (fun os started H enc _ => rollTells_lifted os started H enc)

end Go.Proofs.Ytckkdfpmibipfaa
