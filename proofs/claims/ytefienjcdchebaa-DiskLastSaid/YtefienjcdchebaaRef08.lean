/-
  Contracts of the document's answer 08: New, Go.
-/
import Derived.Test.YtefienjcdchebaaDiskC
import Derived.Test.YtefienjcdchebaaPatO
import Derived.Test.YtefienjcdchebaaRets
import Derived.Test.YtefienjcdchebaaArr
namespace Go.Proofs.Ytefienjcdchebaa
open Go.RowKit

theorem Try.rintSize : (Try.prog.info? 3).map (·.size) = some 1 := by kernel_rfl
theorem Try.rboolSize : (Try.prog.info? 4).map (·.size) = some 1 := by kernel_rfl
theorem Try.rbyteSize : (Try.prog.info? 5).map (·.size) = some 1 := by kernel_rfl
theorem Try.rbytesSize : (Try.prog.info? 26).map (·.size) = some 1 := by kernel_rfl
theorem Try.docSize : (Try.prog.info? 28).map (·.size) = some 5 := by kernel_rfl
theorem Try.docZero : (Try.prog.info? 28).map (·.zero) = some (some (.agg #[.slice none 0 0, .int .i64 0, .bool false, .int .i64 0, .int .i64 0])) := by kernel_rfl

/-- The document's device as a value. -/
def xcells (A : Option Addr) (n c : Nat) (f : Int) (off : Bool) (wr rd : Int) : Array Value := #[.slice A n c, .int .i64 f, .bool off, .int .i64 wr, .int .i64 rd]
theorem xcells_size (A : Option Addr) (n c : Nat) (f : Int) (off : Bool) (wr rd : Int) : (xcells A n c f off wr rd).size = 5 := rfl
theorem xcells_one (A : Option Addr) (n c : Nat) (f : Int) (off : Bool) (wr rd : Int) : (xcells A n c f off wr rd).all (·.oneCell') = true := by simp [xcells, Value.oneCell']

set_option maxHeartbeats 400000 in
/-- New. -/
theorem rnew_any (n : Int) (hlo : -9223372036854775808 ≤ n) (hhi : n < 9223372036854775808) (w : World) :
    Calls Try.prog 9 #[.int .i64 n] w fun e w' => ∃ g, e = .returned (.agg (xcells (some ⟨g, 0, none⟩) (devSize n) (devSize n) (-1) false 0 0)) ∧ w.heap.size ≤ g ∧ g < w'.heap.size ∧ RB w' (some ⟨g, 0, none⟩) (zeros (devSize n)) ∧ Below w.heap.size w w' := by
  have hways : (n < 16 ∧ devSize n = 16) ∨ (¬ n < 16 ∧ ¬ 512 < n ∧ (devSize n : Int) = n) ∨ (¬ n < 16 ∧ 512 < n ∧ devSize n = 512) := by
    unfold devSize
    by_cases h1 : n < 16
    · left; simp [h1]
    · by_cases h2 : 512 < n
      · right; right; simp [h1, h2]
      · right; left
        rw [if_neg h1, if_neg h2]
        exact ⟨h1, h2, by omega⟩
  have hle := devSize_le n
  obtain ⟨m, HM⟩ : ∃ m, Hid (devSize n = m) := ⟨_, Lib.hid rfl⟩
  rw [HM.out] at hways hle ⊢
  go_enter Try.func9, Try.ntmps9
  go_wp2_with (refine wpList_alloc_row rfl _ rfl _ Try.docZero ?_)
  apply Stop.go; intro w1 Hg1 Hb1
  rcases hways with ⟨h1, h3⟩ | ⟨h1, h2, h3⟩ | ⟨h1, h2, h3⟩
  focus (
    have d1 : decide (n < 16) = true := decide_eq_true (by omega)
    have H3 := Lib.hid h3
    clear h3 h1
    go_wp2_with (refine wpList_make_bytes rfl _ _ _ _ rfl Try.underlying26 Try.byteInfo _ _ _ _ m rfl rfl (by have := H3.out; omega) (by have := H3.out; omega) (by omega) ?_))
  rotate_left
  focus (
    have d1 : decide (n < 16) = false := decide_eq_false (by omega)
    have d2 : decide (512 < n) = false := decide_eq_false (by omega)
    have H3 := Lib.hid h3
    clear h3 h1 h2
    go_wp2_with (refine wpList_make_bytes rfl _ _ _ _ rfl Try.underlying26 Try.byteInfo _ _ _ _ m rfl rfl (by have := H3.out; omega) (by have := H3.out; omega) (by omega) ?_))
  rotate_left
  focus (
    have d1 : decide (n < 16) = false := decide_eq_false (by omega)
    have d2 : decide (512 < n) = true := decide_eq_true (by omega)
    have H3 := Lib.hid h3
    clear h3 h1 h2
    go_wp2_with (refine wpList_make_bytes rfl _ _ _ _ rfl Try.underlying26 Try.byteInfo _ _ _ _ m rfl rfl (by have := H3.out; omega) (by have := H3.out; omega) (by omega) ?_))
  rotate_left
  all_goals
    apply Stop.go; intro w2 Hg2 Hb2
    have Hr2 := Lib.hid (Hb1.out.ext Hg2.out.1)
    go_wp2_with (refine wpList_store_arr rfl _ _ _ rfl _ (xcells (some ⟨w1.heap.size, 0, none⟩) m m (-1) false 0 0) rfl rfl _ _ Hr2.out Try.docSize rfl (xcells_one _ _ _ _ _ _ _) ?_)
    apply Stop.go; intro w3 Ho3 Hb3
    go_wp2_with ((with_reducible show bodyPost _ _ _ _ _ _); refine bodyPost_struct rfl _ rfl _ _ Hb3.out _ Try.underlying28 rfl Try.docSize rfl ?_)
    apply Stop.go
    have s1 := Hg1.out.2
    have s2 := Hg2.out.2
    exact ⟨w1.heap.size, rfl, by omega, by have := Ho3.out.size; omega, RB.of_blk0 (Hb2.out.only Ho3.out (by omega)), bonly (bt Hg1.out.1 Hg2.out.1) Ho3.out (Nat.le_refl _)⟩

section
variable {P : Program} {a : Act} {w : World}
/-- The first result is a struct in a block, the two others lie in slots. -/
theorem bodyPost_struct_tmp2 {R : Ending → World → Prop} {fn : Func} {p q q' : Tmp} {t : TypeId} (hf : fn.results = #[ResultVar.cell p t, ResultVar.tmp q, ResultVar.tmp q']) (g : Nat) (hp : a.tmps.getD p undef = .pointer (some ⟨g, 0, none⟩)) (t' : TypeId) (cs : Array Value) (hg : Blk w g t' cs)
    (d : TypeDesc) (hu : P.underlying t = some d) (hd1 : (match d with | .struct _ | .array _ _ => true | _ => false) = true) (hi : (P.info? t).map (·.size) = some cs.size) (hd : a.defers = []) (v v' : Value) (hq : a.tmps.getD q undef = v) (hq' : a.tmps.getD q' undef = v') (hR : Stop (R (.returned (.tuple #[.agg cs, v, v'])) w)) : bodyPost P fn R .ret a w := by
  refine bodyPost_ret (v := .tuple #[.agg cs, v, v']) ?_ hd hR
  have hp' : a.tmps[p]?.getD undef = .pointer (some ⟨g, 0, none⟩) := by simpa using hp
  have hq1 : a.tmps[q]?.getD undef = v := by simpa using hq
  have hq2 : a.tmps[q']?.getD undef = v' := by simpa using hq'
  simp [results, hf, hp', hq1, hq2, asAddr, run_loadVar_row w g t' t cs (0, 0) d hg hu hd1 hi]
end

/-- A device's five cells. -/
theorem cells5_of {w : World} {x : Nat} {t : TypeId} {A : Option Addr} {n c : Nat} {f wr rd : Int} {off : Bool} (h : Blk w x t (xcells A n c f off wr rd)) :
    w.cell? ⟨x, 0, none⟩ = some (.slice A n c) ∧ w.cell? ⟨x, 1, none⟩ = some (.int .i64 f) ∧ w.cell? ⟨x, 2, none⟩ = some (.bool off) ∧ w.cell? ⟨x, 3, none⟩ = some (.int .i64 wr) ∧ w.cell? ⟨x, 4, none⟩ = some (.int .i64 rd) :=
  ⟨h.cell 0, h.cell 1, h.cell 2, h.cell 3, h.cell 4⟩
theorem cells3_at {w : World} {x : Nat} {t : TypeId} {v0 v1 v2 : Value} (h : Blk w x t #[v0, v1, v2]) : w.cell? ⟨x, 0, none⟩ = some v0 ∧ w.cell? ⟨x, 1, none⟩ = some v1 ∧ w.cell? ⟨x, 2, none⟩ = some v2 :=
  ⟨h.cell 0, h.cell 1, h.cell 2⟩

section
variable {P : Program} {ops : Array Oper} {rest : List Oper} {o : Oper} {a : Act} {w : World} {K : Act → World → Prop} {Q : Exit → Act → World → Prop}
theorem wpList_build0b (hgd : Region.wanted o (yielded ops a.tmps) = true) (t e : TypeId) (ho : o.op = .buildSlice t 0 #[]) (ht : P.underlying t = some (.slice e)) (hs : (P.info? e).map (·.size) = some 1)
    (h : Stop (∀ w', Hid (Grew w w') → Hid (OwnB w' w.heap.size e (.slice (some ⟨w.heap.size, 0, none⟩) 0 0) []) → wpList P ops Q rest (a.put o.dst (.slice (some ⟨w.heap.size, 0, none⟩) 0 0)) w')) : wpList P ops Q (o :: rest) a w := by
  refine wpList_wanted hgd fun K hK => ?_
  unfold Oper.wp execOp
  simp only [ho, Sem.run_bind, List.map_toArray, List.map_nil, run_build0 P w t e ht hs, Result.andThen_ok]
  exact hK _ _ (h _ (Grew.alloc w _) ⟨rfl, Or.inr ⟨w.heap.size, 0, #[], rfl, Nat.le_refl _, heap_alloc_new w _, Nat.le_refl _, by unfold maxLen; omega, rfl, rfl⟩⟩)
/-- Bytes that are appended to a slice of the call's own. -/
theorem wpList_append_bytesB (hgd : Region.wanted o (yielded ops a.tmps) = true) (s x : Operand) (t e : TypeId) (ho : o.op = .call { callee := .builtin .append, args := #[s, x], argTypes := #[t, t] })
    (ht : P.underlying t = some (.slice e)) (hi : (P.info? e).map (fun i => (i.zero, i.size, i.bytes)) = some (some (.int .u8 0), 1, 1))
    (B : Nat) (v : Value) (hs : a.eval s = v) (hown : OwnB w B e v []) (ad : Addr) (n c : Nat) (l : List UInt8) (hx : a.eval x = .slice (some ad) n c) (hn : l.length = n) (h0 : 0 < n) (hr : RB w (some ad) l) (hB : B ≤ w.heap.size) (hlen : n ≤ 140737488355328)
    (h : Stop (∀ g cap cur w', Hid (B ≤ g ∧ n ≤ cap ∧ cap ≤ maxLen ∧ cur.size = cap) → Hid (Blk w' g e cur) → Hid (cur.toList.take n = l.map fun x => Value.int .u8 (x.toNat : Int)) → Hid (Below B w w') → wpList P ops Q rest (a.put o.dst (.slice (some ⟨g, 0, none⟩) n cap)) w')) : wpList P ops Q (o :: rest) a w := by
  refine wpList_wanted hgd fun K hK => ?_
  obtain ⟨i, h1, h2, h3, h4⟩ := info_parts hi
  obtain ⟨v', w', hrun, how, hg, _⟩ := run_append_own (P := P) w B t o.type e i (.int .u8 0) 1 1 ht h1 h2 h3 h4 rfl (by omega) v 0 [] hown ad n c (l.map fun x => Value.int .u8 (x.toNat : Int)) (by simp [hn]) (fun j u hj => by
    rw [List.getElem?_map] at hj
    obtain ⟨x, hx, rfl⟩ := Option.map_eq_some_iff.1 hj
    obtain ⟨hjl, rfl⟩ := List.getElem?_eq_some_iff.1 hx
    obtain ⟨ad', e1, hc⟩ := hr j hjl
    injection e1 with e1
    subst e1
    exact hc) (fun u hu => by
    obtain ⟨x, _, rfl⟩ := List.mem_map.1 hu
    rfl) (by unfold maxLen; omega) (by omega) hB
  have hbel := (Below.refl B w).grown hg hB (fun k hk => (World.ownsRow.lt hown k hk).1)
  obtain ⟨_, hx' | ⟨g, cap, cur, hv, hb, hgr, hnc, hc, hsz, htk⟩⟩ := how
  · omega
  · unfold Oper.wp execOp
    simp only [ho, resolve, invoke, builtin, Sem.run_bind, Sem.run_pure, Result.andThen_ok, List.map_toArray, List.map_cons, List.map_nil, hs, hx, hrun, hv, Nat.zero_add]
    refine hK _ _ (h g cap cur w' ⟨hb, by omega, hc, by omega⟩ hgr ?_ hbel)
    exact Lib.hid (by simpa using htk)
end
theorem RB.of_take {w : World} {g : Nat} {t : TypeId} {cur : Array Value} {l : List UInt8} {n : Nat} (hn : l.length = n) (h : Blk w g t cur) (ht : cur.toList.take n = l.map fun x => Value.int .u8 (x.toNat : Int)) : RB w (some ⟨g, 0, none⟩) l :=
  RB.of_blk h 0 fun k hk => by
    rw [Nat.zero_add]
    have h2 : (cur.toList.take n)[k]? = (l.map fun x => Value.int .u8 (x.toNat : Int))[k]? := by rw [ht]
    rw [List.getElem?_take_of_lt (by omega), List.getElem?_map, List.getElem?_eq_getElem hk] at h2
    simpa using h2
theorem take_set_bytes {cur : Array Value} {l : List UInt8} {n : Nat} (ht : cur.toList.take n = l.map fun x => Value.int .u8 (x.toNat : Int)) (i : Nat) (x : UInt8) :
    (cur.setIfInBounds i (.int .u8 (x.toNat : Int))).toList.take n = (l.set i x).map fun x => Value.int .u8 (x.toNat : Int) := by
  rw [Array.toList_setIfInBounds, take_set_same, ht, List.map_set]

section
variable (A : Option Addr) (n c : Nat) (f wr rd no by_ : Int) (off : Bool) (w : World)

set_option maxHeartbeats 800000 in
/-- Go: a fuse. -/
theorem rgo_fuse : Calls Try.prog 10 #[.agg (xcells A n c f off wr rd), .agg #[.int .i64 2, .int .i64 no, .int .u8 by_]] w fun e w' =>
    e = .returned (.tuple #[.agg (xcells A n c (if no < 0 then -1 else no) off wr rd), .int .u8 0, .int .i64 0]) ∧ Below w.heap.size w w' := by
  by_cases hno : no < 0
  · rw [if_pos hno]
    have d1 : decide (no < 0) = true := decide_eq_true hno
    clear hno
    go_enter Try.func10, Try.ntmps10; go_wp2_with (refine wpList_box_row rfl _ _ rfl _ rfl ?_); apply Stop.go; intro w1 Hg1 Hb1; go_wp2_with (refine wpList_box_row rfl _ _ rfl _ rfl ?_); apply Stop.go; intro w2 Hg2 Hb2; go_wp2_with (refine wpList_alloc_row rfl _ rfl _ Try.docZero ?_); apply Stop.go; intro w3 Hg3 Hb3; have HD3 := Lib.hid ((Hb1.out.ext Hg2.out.1).ext Hg3.out.1); have HS3 := Lib.hid (Hb2.out.ext Hg3.out.1); have HR3 := Hb3; have Hw3 := Lib.hid (bt (bt Hg1.out.1 Hg2.out.1) Hg3.out.1); have Z1 := Lib.hid Hg1.out.2; have Z2 := Lib.hid Hg2.out.2; have Z3 := Lib.hid Hg3.out.2; have Zw := Lib.hid (show w.heap.size < w1.heap.size ∧ w1.heap.size < w2.heap.size ∧ w2.heap.size < w3.heap.size from ⟨by have := Z1.out; omega, by have := Z2.out; omega, by have := Z3.out; omega⟩)
    obtain ⟨s0, s1, s2⟩ := cells3_at HS3.out
    go_wp2_with (refine wpList_store_cell rfl _ _ _ rfl (by first | exact Try.rintSize | exact Try.rboolSize | exact Try.rbytesSize) _ 1 rfl (.int .i64 no) rfl rfl rfl _ _ HD3.out (by rw [xcells_size]; omega) ?_)
    apply Stop.go; intro w4 Ho4 Hb4
    have HD4 : Hid (Blk w4 w.heap.size 28 (xcells A n c no off wr rd)) := Lib.hid Hb4.out
    have HS4 := Lib.hid (HS3.out.only Ho4.out (by have := Zw.out; omega))
    have HR4 := Lib.hid (HR3.out.only Ho4.out (by have := Zw.out; omega))
    clear s0 s1 s2
    obtain ⟨s0, s1, s2⟩ := cells3_at HS4.out
    go_wp2_with (refine wpList_store_cell rfl _ _ _ rfl (by first | exact Try.rintSize | exact Try.rboolSize | exact Try.rbytesSize) _ 1 rfl (.int .i64 (-1)) rfl rfl rfl _ _ HD4.out (by rw [xcells_size]; omega) ?_)
    apply Stop.go; intro w5 Ho5 Hb5
    have HD5 : Hid (Blk w5 w.heap.size 28 (xcells A n c (-1) off wr rd)) := Lib.hid Hb5.out
    have HR5 := Lib.hid (HR4.out.only Ho5.out (by have := Zw.out; omega))
    go_wp2_with (first | refine wpList_load_blk rfl _ _ rfl _ rfl _ _ HD5.out _ Try.underlying28 rfl Try.docSize ?_ | refine wpList_store_arr rfl _ _ _ rfl _ _ rfl rfl _ _ HR5.out Try.docSize rfl (xcells_one _ _ _ _ _ _ _) ?_); apply Stop.go; intro wz Hoz Hbz; go_wp2_with ((with_reducible show bodyPost _ _ _ _ _ _); refine bodyPost_struct_tmp2 rfl _ rfl _ _ Hbz.out _ Try.underlying28 rfl Try.docSize rfl _ _ rfl rfl ?_); apply Stop.go
    exact bonly (bonly (bonly Hw3.out Ho4.out (Nat.le_refl _)) Ho5.out (Nat.le_refl _)) Hoz.out (by have := Zw.out; omega)
  · rw [if_neg hno]
    have d1 : decide (no < 0) = false := decide_eq_false hno
    clear hno
    go_enter Try.func10, Try.ntmps10; go_wp2_with (refine wpList_box_row rfl _ _ rfl _ rfl ?_); apply Stop.go; intro w1 Hg1 Hb1; go_wp2_with (refine wpList_box_row rfl _ _ rfl _ rfl ?_); apply Stop.go; intro w2 Hg2 Hb2; go_wp2_with (refine wpList_alloc_row rfl _ rfl _ Try.docZero ?_); apply Stop.go; intro w3 Hg3 Hb3; have HD3 := Lib.hid ((Hb1.out.ext Hg2.out.1).ext Hg3.out.1); have HS3 := Lib.hid (Hb2.out.ext Hg3.out.1); have HR3 := Hb3; have Hw3 := Lib.hid (bt (bt Hg1.out.1 Hg2.out.1) Hg3.out.1); have Z1 := Lib.hid Hg1.out.2; have Z2 := Lib.hid Hg2.out.2; have Z3 := Lib.hid Hg3.out.2; have Zw := Lib.hid (show w.heap.size < w1.heap.size ∧ w1.heap.size < w2.heap.size ∧ w2.heap.size < w3.heap.size from ⟨by have := Z1.out; omega, by have := Z2.out; omega, by have := Z3.out; omega⟩)
    obtain ⟨s0, s1, s2⟩ := cells3_at HS3.out
    go_wp2_with (refine wpList_store_cell rfl _ _ _ rfl (by first | exact Try.rintSize | exact Try.rboolSize | exact Try.rbytesSize) _ 1 rfl (.int .i64 no) rfl rfl rfl _ _ HD3.out (by rw [xcells_size]; omega) ?_)
    apply Stop.go; intro w4 Ho4 Hb4
    have HD4 : Hid (Blk w4 w.heap.size 28 (xcells A n c no off wr rd)) := Lib.hid Hb4.out
    have HS4 := Lib.hid (HS3.out.only Ho4.out (by have := Zw.out; omega))
    have HR4 := Lib.hid (HR3.out.only Ho4.out (by have := Zw.out; omega))
    clear s0 s1 s2
    obtain ⟨s0, s1, s2⟩ := cells3_at HS4.out
    go_wp2_with (first | refine wpList_load_blk rfl _ _ rfl _ rfl _ _ HD4.out _ Try.underlying28 rfl Try.docSize ?_ | refine wpList_store_arr rfl _ _ _ rfl _ _ rfl rfl _ _ HR4.out Try.docSize rfl (xcells_one _ _ _ _ _ _ _) ?_); apply Stop.go; intro wz Hoz Hbz; go_wp2_with ((with_reducible show bodyPost _ _ _ _ _ _); refine bodyPost_struct_tmp2 rfl _ rfl _ _ Hbz.out _ Try.underlying28 rfl Try.docSize rfl _ _ rfl rfl ?_); apply Stop.go
    exact bonly (bonly Hw3.out Ho4.out (Nat.le_refl _)) Hoz.out (by have := Zw.out; omega)

set_option maxHeartbeats 800000 in
/-- .. the power is on again. -/
theorem rgo_up : Calls Try.prog 10 #[.agg (xcells A n c f off wr rd), .agg #[.int .i64 3, .int .i64 no, .int .u8 by_]] w fun e w' =>
    e = .returned (.tuple #[.agg (xcells A n c (-1) false wr rd), .int .u8 0, .int .i64 0]) ∧ Below w.heap.size w w' := by
  go_enter Try.func10, Try.ntmps10; go_wp2_with (refine wpList_box_row rfl _ _ rfl _ rfl ?_); apply Stop.go; intro w1 Hg1 Hb1; go_wp2_with (refine wpList_box_row rfl _ _ rfl _ rfl ?_); apply Stop.go; intro w2 Hg2 Hb2; go_wp2_with (refine wpList_alloc_row rfl _ rfl _ Try.docZero ?_); apply Stop.go; intro w3 Hg3 Hb3; have HD3 := Lib.hid ((Hb1.out.ext Hg2.out.1).ext Hg3.out.1); have HS3 := Lib.hid (Hb2.out.ext Hg3.out.1); have HR3 := Hb3; have Hw3 := Lib.hid (bt (bt Hg1.out.1 Hg2.out.1) Hg3.out.1); have Z1 := Lib.hid Hg1.out.2; have Z2 := Lib.hid Hg2.out.2; have Z3 := Lib.hid Hg3.out.2; have Zw := Lib.hid (show w.heap.size < w1.heap.size ∧ w1.heap.size < w2.heap.size ∧ w2.heap.size < w3.heap.size from ⟨by have := Z1.out; omega, by have := Z2.out; omega, by have := Z3.out; omega⟩)
  obtain ⟨s0, s1, s2⟩ := cells3_at HS3.out
  go_wp2_with (refine wpList_store_cell rfl _ _ _ rfl (by first | exact Try.rintSize | exact Try.rboolSize | exact Try.rbytesSize) _ 1 rfl (.int .i64 (-1)) rfl rfl rfl _ _ HD3.out (by rw [xcells_size]; omega) ?_)
  apply Stop.go; intro w4 Ho4 Hb4
  have HD4 : Hid (Blk w4 w.heap.size 28 (xcells A n c (-1) off wr rd)) := Lib.hid Hb4.out
  have HR4 := Lib.hid (HR3.out.only Ho4.out (by have := Zw.out; omega))
  go_wp2_with (refine wpList_store_cell rfl _ _ _ rfl (by first | exact Try.rintSize | exact Try.rboolSize | exact Try.rbytesSize) _ 2 rfl (.bool false) rfl rfl rfl _ _ HD4.out (by rw [xcells_size]; omega) ?_)
  apply Stop.go; intro w5 Ho5 Hb5
  have HD5 : Hid (Blk w5 w.heap.size 28 (xcells A n c (-1) false wr rd)) := Lib.hid Hb5.out
  have HR5 := Lib.hid (HR4.out.only Ho5.out (by have := Zw.out; omega))
  go_wp2_with (first | refine wpList_load_blk rfl _ _ rfl _ rfl _ _ HD5.out _ Try.underlying28 rfl Try.docSize ?_ | refine wpList_store_arr rfl _ _ _ rfl _ _ rfl rfl _ _ HR5.out Try.docSize rfl (xcells_one _ _ _ _ _ _ _) ?_); apply Stop.go; intro wz Hoz Hbz; go_wp2_with ((with_reducible show bodyPost _ _ _ _ _ _); refine bodyPost_struct_tmp2 rfl _ rfl _ _ Hbz.out _ Try.underlying28 rfl Try.docSize rfl _ _ rfl rfl ?_); apply Stop.go
  exact bonly (bonly (bonly Hw3.out Ho4.out (Nat.le_refl _)) Ho5.out (Nat.le_refl _)) Hoz.out (by have := Zw.out; omega)

set_option maxHeartbeats 800000 in
/-- .. the power is off. -/
theorem rgo_off (k : Int) (h2 : k ≠ 2) (h3 : k ≠ 3) : Calls Try.prog 10 #[.agg (xcells A n c f true wr rd), .agg #[.int .i64 k, .int .i64 no, .int .u8 by_]] w fun e w' =>
    e = .returned (.tuple #[.agg (xcells A n c f true wr rd), .int .u8 0, .int .i64 12]) ∧ Below w.heap.size w w' := by
  have d2 : (k == 2) = false := by simpa using h2
  have d3 : (k == 3) = false := by simpa using h3
  clear h2 h3
  go_enter Try.func10, Try.ntmps10; go_wp2_with (refine wpList_box_row rfl _ _ rfl _ rfl ?_); apply Stop.go; intro w1 Hg1 Hb1; go_wp2_with (refine wpList_box_row rfl _ _ rfl _ rfl ?_); apply Stop.go; intro w2 Hg2 Hb2; go_wp2_with (refine wpList_alloc_row rfl _ rfl _ Try.docZero ?_); apply Stop.go; intro w3 Hg3 Hb3; have HD3 := Lib.hid ((Hb1.out.ext Hg2.out.1).ext Hg3.out.1); have HS3 := Lib.hid (Hb2.out.ext Hg3.out.1); have HR3 := Hb3; have Hw3 := Lib.hid (bt (bt Hg1.out.1 Hg2.out.1) Hg3.out.1); have Z1 := Lib.hid Hg1.out.2; have Z2 := Lib.hid Hg2.out.2; have Z3 := Lib.hid Hg3.out.2; have Zw := Lib.hid (show w.heap.size < w1.heap.size ∧ w1.heap.size < w2.heap.size ∧ w2.heap.size < w3.heap.size from ⟨by have := Z1.out; omega, by have := Z2.out; omega, by have := Z3.out; omega⟩)
  obtain ⟨s0, s1, s2⟩ := cells3_at HS3.out
  obtain ⟨c0, c1, c2, c3, c4⟩ := cells5_of HD3.out
  go_wp2_with (first | refine wpList_load_blk rfl _ _ rfl _ rfl _ _ HD3.out _ Try.underlying28 rfl Try.docSize ?_ | refine wpList_store_arr rfl _ _ _ rfl _ _ rfl rfl _ _ HR3.out Try.docSize rfl (xcells_one _ _ _ _ _ _ _) ?_); apply Stop.go; intro wz Hoz Hbz; go_wp2_with ((with_reducible show bodyPost _ _ _ _ _ _); refine bodyPost_struct_tmp2 rfl _ rfl _ _ Hbz.out _ Try.underlying28 rfl Try.docSize rfl _ _ rfl rfl ?_); apply Stop.go
  exact bonly Hw3.out Hoz.out (by have := Zw.out; omega)

set_option maxHeartbeats 800000 in
/-- .. there is no such block. -/
theorem rgo_range (k : Int) (h2 : k ≠ 2) (h3 : k ≠ 3) (hno : no < 0 ∨ (0 ≤ no ∧ (n : Int) ≤ no)) : Calls Try.prog 10 #[.agg (xcells A n c f false wr rd), .agg #[.int .i64 k, .int .i64 no, .int .u8 by_]] w fun e w' =>
    e = .returned (.tuple #[.agg (xcells A n c f false wr rd), .int .u8 0, .int .i64 2]) ∧ Below w.heap.size w w' := by
  have d2 : (k == 2) = false := by simpa using h2
  have d3 : (k == 3) = false := by simpa using h3
  clear h2 h3
  rcases hno with hno | ⟨h0, h1⟩
  · have d1 : decide (no < 0) = true := decide_eq_true hno
    clear hno
    go_enter Try.func10, Try.ntmps10; go_wp2_with (refine wpList_box_row rfl _ _ rfl _ rfl ?_); apply Stop.go; intro w1 Hg1 Hb1; go_wp2_with (refine wpList_box_row rfl _ _ rfl _ rfl ?_); apply Stop.go; intro w2 Hg2 Hb2; go_wp2_with (refine wpList_alloc_row rfl _ rfl _ Try.docZero ?_); apply Stop.go; intro w3 Hg3 Hb3; have HD3 := Lib.hid ((Hb1.out.ext Hg2.out.1).ext Hg3.out.1); have HS3 := Lib.hid (Hb2.out.ext Hg3.out.1); have HR3 := Hb3; have Hw3 := Lib.hid (bt (bt Hg1.out.1 Hg2.out.1) Hg3.out.1); have Z1 := Lib.hid Hg1.out.2; have Z2 := Lib.hid Hg2.out.2; have Z3 := Lib.hid Hg3.out.2; have Zw := Lib.hid (show w.heap.size < w1.heap.size ∧ w1.heap.size < w2.heap.size ∧ w2.heap.size < w3.heap.size from ⟨by have := Z1.out; omega, by have := Z2.out; omega, by have := Z3.out; omega⟩)
    obtain ⟨s0, s1, s2⟩ := cells3_at HS3.out
    obtain ⟨c0, c1, c2, c3, c4⟩ := cells5_of HD3.out
    go_wp2_with (first | refine wpList_load_blk rfl _ _ rfl _ rfl _ _ HD3.out _ Try.underlying28 rfl Try.docSize ?_ | refine wpList_store_arr rfl _ _ _ rfl _ _ rfl rfl _ _ HR3.out Try.docSize rfl (xcells_one _ _ _ _ _ _ _) ?_); apply Stop.go; intro wz Hoz Hbz; go_wp2_with ((with_reducible show bodyPost _ _ _ _ _ _); refine bodyPost_struct_tmp2 rfl _ rfl _ _ Hbz.out _ Try.underlying28 rfl Try.docSize rfl _ _ rfl rfl ?_); apply Stop.go
    exact bonly Hw3.out Hoz.out (by have := Zw.out; omega)
  · have d1 : decide (no < 0) = false := decide_eq_false (by omega)
    have d4 : decide ((n : Int) ≤ no) = true := decide_eq_true h1
    clear h0 h1
    go_enter Try.func10, Try.ntmps10; go_wp2_with (refine wpList_box_row rfl _ _ rfl _ rfl ?_); apply Stop.go; intro w1 Hg1 Hb1; go_wp2_with (refine wpList_box_row rfl _ _ rfl _ rfl ?_); apply Stop.go; intro w2 Hg2 Hb2; go_wp2_with (refine wpList_alloc_row rfl _ rfl _ Try.docZero ?_); apply Stop.go; intro w3 Hg3 Hb3; have HD3 := Lib.hid ((Hb1.out.ext Hg2.out.1).ext Hg3.out.1); have HS3 := Lib.hid (Hb2.out.ext Hg3.out.1); have HR3 := Hb3; have Hw3 := Lib.hid (bt (bt Hg1.out.1 Hg2.out.1) Hg3.out.1); have Z1 := Lib.hid Hg1.out.2; have Z2 := Lib.hid Hg2.out.2; have Z3 := Lib.hid Hg3.out.2; have Zw := Lib.hid (show w.heap.size < w1.heap.size ∧ w1.heap.size < w2.heap.size ∧ w2.heap.size < w3.heap.size from ⟨by have := Z1.out; omega, by have := Z2.out; omega, by have := Z3.out; omega⟩)
    obtain ⟨s0, s1, s2⟩ := cells3_at HS3.out
    obtain ⟨c0, c1, c2, c3, c4⟩ := cells5_of HD3.out
    go_wp2_with (first | refine wpList_load_blk rfl _ _ rfl _ rfl _ _ HD3.out _ Try.underlying28 rfl Try.docSize ?_ | refine wpList_store_arr rfl _ _ _ rfl _ _ rfl rfl _ _ HR3.out Try.docSize rfl (xcells_one _ _ _ _ _ _ _) ?_); apply Stop.go; intro wz Hoz Hbz; go_wp2_with ((with_reducible show bodyPost _ _ _ _ _ _); refine bodyPost_struct_tmp2 rfl _ rfl _ _ Hbz.out _ Try.underlying28 rfl Try.docSize rfl _ _ rfl rfl ?_); apply Stop.go
    exact bonly Hw3.out Hoz.out (by have := Zw.out; omega)

set_option maxHeartbeats 800000 in
/-- .. a write at the fuse's end. -/
theorem rgo_zero (i : Nat) (hi : i < n) : Calls Try.prog 10 #[.agg (xcells A n c 0 false wr rd), .agg #[.int .i64 1, .int .i64 i, .int .u8 by_]] w fun e w' =>
    e = .returned (.tuple #[.agg (xcells A n c 0 true wr rd), .int .u8 0, .int .i64 12]) ∧ Below w.heap.size w w' := by
  have d1 : decide ((i : Int) < 0) = false := decide_eq_false (by omega)
  have d4 : decide ((n : Int) ≤ (i : Int)) = false := decide_eq_false (by omega)
  have d5 : decide (n ≤ i) = false := decide_eq_false (by omega)
  clear hi
  go_enter Try.func10, Try.ntmps10; go_wp2_with (refine wpList_box_row rfl _ _ rfl _ rfl ?_); apply Stop.go; intro w1 Hg1 Hb1; go_wp2_with (refine wpList_box_row rfl _ _ rfl _ rfl ?_); apply Stop.go; intro w2 Hg2 Hb2; go_wp2_with (refine wpList_alloc_row rfl _ rfl _ Try.docZero ?_); apply Stop.go; intro w3 Hg3 Hb3; have HD3 := Lib.hid ((Hb1.out.ext Hg2.out.1).ext Hg3.out.1); have HS3 := Lib.hid (Hb2.out.ext Hg3.out.1); have HR3 := Hb3; have Hw3 := Lib.hid (bt (bt Hg1.out.1 Hg2.out.1) Hg3.out.1); have Z1 := Lib.hid Hg1.out.2; have Z2 := Lib.hid Hg2.out.2; have Z3 := Lib.hid Hg3.out.2; have Zw := Lib.hid (show w.heap.size < w1.heap.size ∧ w1.heap.size < w2.heap.size ∧ w2.heap.size < w3.heap.size from ⟨by have := Z1.out; omega, by have := Z2.out; omega, by have := Z3.out; omega⟩)
  obtain ⟨s0, s1, s2⟩ := cells3_at HS3.out
  obtain ⟨c0, c1, c2, c3, c4⟩ := cells5_of HD3.out
  go_wp2_with (refine wpList_store_cell rfl _ _ _ rfl (by first | exact Try.rintSize | exact Try.rboolSize | exact Try.rbytesSize) _ 2 rfl (.bool true) rfl rfl rfl _ _ HD3.out (by rw [xcells_size]; omega) ?_)
  apply Stop.go; intro w4 Ho4 Hb4
  have HD4 : Hid (Blk w4 w.heap.size 28 (xcells A n c 0 true wr rd)) := Lib.hid Hb4.out
  have HR4 := Lib.hid (HR3.out.only Ho4.out (by have := Zw.out; omega))
  go_wp2_with (first | refine wpList_load_blk rfl _ _ rfl _ rfl _ _ HD4.out _ Try.underlying28 rfl Try.docSize ?_ | refine wpList_store_arr rfl _ _ _ rfl _ _ rfl rfl _ _ HR4.out Try.docSize rfl (xcells_one _ _ _ _ _ _ _) ?_); apply Stop.go; intro wz Hoz Hbz; go_wp2_with ((with_reducible show bodyPost _ _ _ _ _ _); refine bodyPost_struct_tmp2 rfl _ rfl _ _ Hbz.out _ Try.underlying28 rfl Try.docSize rfl _ _ rfl rfl ?_); apply Stop.go
  exact bonly (bonly Hw3.out Ho4.out (Nat.le_refl _)) Hoz.out (by have := Zw.out; omega)

set_option maxHeartbeats 1200000 in
/-- .. Read. -/
theorem rgo_read (ad : Addr) (i : Nat) (l : List UInt8) (hn : l.length = n) (hi : i < n) (hr : RB w (some ad) l) (hrd : 0 ≤ rd ∧ rd < 4611686018427387904) : Calls Try.prog 10 #[.agg (xcells (some ad) n c f false wr rd), .agg #[.int .i64 0, .int .i64 i, .int .u8 by_]] w fun e w' =>
    e = .returned (.tuple #[.agg (xcells (some ad) n c f false wr (rd + 1)), .int .u8 ((l[i]'(by omega)).toNat : Int), .int .i64 0]) ∧ Below w.heap.size w w' := by
  have d1 : decide ((i : Int) < 0) = false := decide_eq_false (by omega)
  have d4 : decide ((n : Int) ≤ (i : Int)) = false := decide_eq_false (by omega)
  have d5 : decide (n ≤ i) = false := decide_eq_false (by omega)
  have hw : IntKind.i64.wrap (rd + 1) = rd + 1 := IntWalk.i64_in _ (by omega)
  have hil : i < l.length := by omega
  obtain ⟨ad', e1, hcell⟩ := hr i hil
  injection e1 with e1
  subst e1
  have HX := Lib.hid hcell
  have hxb := (l[i]).toNat_lt
  generalize l[i] = x at *
  have z1 : (i : Int) < n := by omega
  have Hi := Lib.hid (And.intro hi (block_lt_of_cell hcell))
  clear hi hrd hr hcell hn hil
  go_enter Try.func10, Try.ntmps10; go_wp2_with (refine wpList_box_row rfl _ _ rfl _ rfl ?_); apply Stop.go; intro w1 Hg1 Hb1; go_wp2_with (refine wpList_box_row rfl _ _ rfl _ rfl ?_); apply Stop.go; intro w2 Hg2 Hb2; go_wp2_with (refine wpList_alloc_row rfl _ rfl _ Try.docZero ?_); apply Stop.go; intro w3 Hg3 Hb3; have HD3 := Lib.hid ((Hb1.out.ext Hg2.out.1).ext Hg3.out.1); have HS3 := Lib.hid (Hb2.out.ext Hg3.out.1); have HR3 := Hb3; have Hw3 := Lib.hid (bt (bt Hg1.out.1 Hg2.out.1) Hg3.out.1); have Z1 := Lib.hid Hg1.out.2; have Z2 := Lib.hid Hg2.out.2; have Z3 := Lib.hid Hg3.out.2; have Zw := Lib.hid (show w.heap.size < w1.heap.size ∧ w1.heap.size < w2.heap.size ∧ w2.heap.size < w3.heap.size from ⟨by have := Z1.out; omega, by have := Z2.out; omega, by have := Z3.out; omega⟩)
  obtain ⟨s0, s1, s2⟩ := cells3_at HS3.out
  obtain ⟨c0, c1, c2, c3, c4⟩ := cells5_of HD3.out
  go_wp2_with (refine wpList_store_cell rfl _ _ _ rfl (by first | exact Try.rintSize | exact Try.rboolSize | exact Try.rbytesSize) _ 4 rfl (.int .i64 (rd + 1)) rfl rfl rfl _ _ HD3.out (by rw [xcells_size]; omega) ?_)
  apply Stop.go; intro w4 Ho4 Hb4
  have HD4 : Hid (Blk w4 w.heap.size 28 (xcells (some ad) n c f false wr (rd + 1))) := Lib.hid Hb4.out
  have HS4 := Lib.hid (HS3.out.only Ho4.out (by have := Zw.out; omega))
  have HR4 := Lib.hid (HR3.out.only Ho4.out (by have := Zw.out; omega))
  have Hw4 := Lib.hid (bonly Hw3.out Ho4.out (Nat.le_refl _))
  have HX4 : Hid (w4.cell? (ad.add i) = some (.int .u8 (x.toNat : Int))) := Lib.hid (by rw [Hw4.out.cell Hi.out.2]; exact HX.out)
  clear s0 s1 s2 c0 c1 c2 c3 c4
  have L2 := HR4.out.lt
  go_wp2_with fail
  refine WH.start (S := fun w' : World => Turn w4 w' w2.heap.size w2.heap.size) [false, false, false, false, false, false, false, false, false, false] 10 rfl rfl (by kernel_rfl) (Turn.drew w4 1 _ _) (fun hSn => ?_)
  refine WH.take 0 _ _ rfl (by kernel_rfl) (fun _ _ _ h => h) rfl (by assumption) (fun w' hSw => exec_load_blk _ _ rfl _ rfl _ _ (HD4.out.turn hSw (by have := Zw.out; omega) (by have := Zw.out; omega)) _ Try.underlying28 rfl Try.docSize) ?_; simp only [Act.put, List.setIfInBounds_toArray, List.set_cons_zero, List.set_cons_succ]
  refine WH.take 1 _ ?_ rfl (by kernel_rfl) (fun _ _ _ h => h) rfl (by assumption) ?_ ?_; rotate_left; (focus (intro w hSw; (try dsimp only at hSw); (first | (go_simp; done) | (go_simp; with_reducible rfl)))); simp only [Act.put, List.setIfInBounds_toArray, List.set_cons_zero, List.set_cons_succ]
  refine WH.take 2 _ _ rfl (by kernel_rfl) (fun _ _ _ h => h) rfl (by assumption) (fun w' hSw => exec_load_cell _ _ rfl _ rfl (.slice (some ad) n c) ((HD4.out.turn hSw (by have := Zw.out; omega) (by have := Zw.out; omega)).cell 0) _ Try.underlying26 rfl) ?_; simp only [Act.put, List.setIfInBounds_toArray, List.set_cons_zero, List.set_cons_succ]
  refine WH.take 3 _ ?_ rfl (by kernel_rfl) (fun _ _ _ h => h) rfl (by assumption) ?_ ?_; rotate_left; (focus (intro w hSw; (try dsimp only at hSw); (first | (go_simp; done) | (go_simp; with_reducible rfl)))); simp only [Act.put, List.setIfInBounds_toArray, List.set_cons_zero, List.set_cons_succ]
  refine WH.take 4 _ _ rfl (by kernel_rfl) (fun _ _ _ h => h) rfl (by assumption) (fun w' hSw => exec_load_cell _ _ rfl _ rfl (.int .i64 i) ((HS4.out.turn hSw (by have := Zw.out; omega) (by have := Zw.out; omega)).cell 1) _ Try.underlying3 rfl) ?_; simp only [Act.put, List.setIfInBounds_toArray, List.set_cons_zero, List.set_cons_succ]
  refine WH.take 5 _ ?_ rfl (by kernel_rfl) (fun _ _ _ h => h) rfl (by assumption) ?_ ?_; rotate_left; (focus (intro w hSw; (try dsimp only at hSw); (first | (go_simp; done) | (go_simp; with_reducible rfl)))); simp only [Act.put, List.setIfInBounds_toArray, List.set_cons_zero, List.set_cons_succ]
  refine WH.take 6 _ _ rfl (by kernel_rfl) (fun _ _ _ h => h) rfl (by assumption) (fun w' hSw => exec_load_cell _ _ rfl _ rfl (.int .u8 (x.toNat : Int)) (hSw.cell HX4.out (by have := Zw.out; have := Hi.out; omega) (by have := Zw.out; have := Hi.out; omega)) _ Try.underlying5 rfl) ?_; simp only [Act.put, List.setIfInBounds_toArray, List.set_cons_zero, List.set_cons_succ]
  refine WH.only 7 _ rfl (by kernel_rfl) rfl (fun K hK => ?_)
  refine ow_store _ _ _ rfl _ (xcells (some ad) n c f false wr (rd + 1)) rfl rfl _ _ (HR4.out.ext (bdrew w4 1)) Try.docSize rfl (xcells_one _ _ _ _ _ _ _) ?_
  apply Stop.go; intro w5 Ho5 Hb5
  have hSn := (Turn.drew w4 1 w2.heap.size w2.heap.size).trans (Turn.of_only Ho5.out w2.heap.size); refine hK _ _ hSn ?_; clear hK; clear K; simp only [Act.put, List.set_cons_zero, List.set_cons_succ]
  refine WH.take 8 _ ?_ rfl (by kernel_rfl) (fun _ _ _ h => h) rfl (by assumption) ?_ ?_; rotate_left; (focus (intro w hSw; (try dsimp only at hSw); (first | (go_simp; done) | (go_simp; with_reducible rfl)))); simp only [Act.put, List.setIfInBounds_toArray, List.set_cons_zero, List.set_cons_succ]
  refine WH.take 9 _ ?_ rfl (by kernel_rfl) (fun _ _ _ h => h) rfl (by assumption) ?_ ?_; rotate_left; (focus (intro w hSw; (try dsimp only at hSw); (first | (go_simp; done) | (go_simp; with_reducible rfl)))); simp only [Act.put, List.setIfInBounds_toArray, List.set_cons_zero, List.set_cons_succ]
  refine WH.done (by kernel_rfl) ?_
  go_wp2_with ((with_reducible show bodyPost _ _ _ _ _ _); refine bodyPost_struct_tmp2 rfl _ rfl _ _ Hb5.out _ Try.underlying28 rfl Try.docSize rfl _ _ rfl rfl ?_)
  apply Stop.go
  exact bonly (bt Hw4.out (bdrew w4 1)) Ho5.out (by have := Zw.out; omega)

set_option maxHeartbeats 2000000 in
/-- .. Write. -/
theorem rgo_write (ad : Addr) (i : Nat) (x : UInt8) (l : List UInt8) (hn : l.length = n) (hi : i < n) (hm : n ≤ 512) (hr : RB w (some ad) l) (hwr : 0 ≤ wr ∧ wr < 4611686018427387904) (hf : f ≠ 0) (hf1 : f < 9223372036854775808) : Calls Try.prog 10 #[.agg (xcells (some ad) n c f false wr rd), .agg #[.int .i64 1, .int .i64 i, .int .u8 (x.toNat : Int)]] w fun e w' =>
    ∃ g c', e = .returned (.tuple #[.agg (xcells (some ⟨g, 0, none⟩) n c' (if 0 < f then f - 1 else f) false (wr + 1) rd), .int .u8 0, .int .i64 0]) ∧ RB w' (some ⟨g, 0, none⟩) (l.set i x) ∧ w.heap.size ≤ g ∧ g < w'.heap.size ∧ n ≤ c' ∧ c' ≤ maxLen ∧ Below w.heap.size w w' := by
  have d1 : decide ((i : Int) < 0) = false := decide_eq_false (by omega)
  have d4 : decide ((n : Int) ≤ (i : Int)) = false := decide_eq_false (by omega)
  have d5 : decide (n ≤ i) = false := decide_eq_false (by omega)
  have d6 : (f == 0) = false := by simpa using hf
  have hw : IntKind.i64.wrap (wr + 1) = wr + 1 := IntWalk.i64_in _ (by omega)
  have z1 : (i : Int) < n := by omega
  have Hn := Lib.hid hn
  have HRB := Lib.hid hr
  have Hi := Lib.hid (And.intro hi hm)
  have hxb := x.toNat_lt
  obtain ⟨F, HF⟩ : ∃ F, Hid ((if 0 < f then f - 1 else f) = F) := ⟨_, Lib.hid rfl⟩
  rw [HF.out]
  by_cases hpos : 0 < f
  all_goals
    clear hn hr hi hm hwr
  focus (
    have d7 : decide (0 < f) = true := decide_eq_true hpos
    have hwf : IntKind.i64.wrap (f - 1) = f - 1 := IntWalk.i64_in _ (by omega)
    have HE : Hid (f - 1 = F) := Lib.hid (by have h := HF.out; rwa [if_pos hpos] at h)
    clear hpos hf hf1
    go_enter Try.func10, Try.ntmps10; go_wp2_with (refine wpList_box_row rfl _ _ rfl _ rfl ?_); apply Stop.go; intro w1 Hg1 Hb1; go_wp2_with (refine wpList_box_row rfl _ _ rfl _ rfl ?_); apply Stop.go; intro w2 Hg2 Hb2; go_wp2_with (refine wpList_alloc_row rfl _ rfl _ Try.docZero ?_); apply Stop.go; intro w3 Hg3 Hb3; have HD3 := Lib.hid ((Hb1.out.ext Hg2.out.1).ext Hg3.out.1); have HS3 := Lib.hid (Hb2.out.ext Hg3.out.1); have HR3 := Hb3; have Hw3 := Lib.hid (bt (bt Hg1.out.1 Hg2.out.1) Hg3.out.1); have Z1 := Lib.hid Hg1.out.2; have Z2 := Lib.hid Hg2.out.2; have Z3 := Lib.hid Hg3.out.2; have Zw := Lib.hid (show w.heap.size < w1.heap.size ∧ w1.heap.size < w2.heap.size ∧ w2.heap.size < w3.heap.size from ⟨by have := Z1.out; omega, by have := Z2.out; omega, by have := Z3.out; omega⟩)
    obtain ⟨s0, s1, s2⟩ := cells3_at HS3.out
    obtain ⟨c0, c1, c2, c3, c4⟩ := cells5_of HD3.out
    go_wp2_with (refine wpList_store_cell rfl _ _ _ rfl (by first | exact Try.rintSize | exact Try.rboolSize | exact Try.rbytesSize) _ 1 rfl (.int .i64 (f - 1)) rfl rfl rfl _ _ HD3.out (by rw [xcells_size]; omega) ?_)
    apply Stop.go; intro w4 Ho4 Hb4
    have HD4 : Hid (Blk w4 w.heap.size 28 (xcells (some ad) n c F false wr rd)) := Lib.hid (by rw [← HE.out]; exact Hb4.out)
    have HS4 := Lib.hid (HS3.out.only Ho4.out (by have := Zw.out; omega))
    have HR4 := Lib.hid (HR3.out.only Ho4.out (by have := Zw.out; omega))
    have Hw4 := Lib.hid (bonly Hw3.out Ho4.out (Nat.le_refl _))
    have L4 := Lib.hid (show w4.heap.size = w3.heap.size from Ho4.out.size)
    clear s0 s1 s2 c0 c1 c2 c3 c4
    go_wp2_with (refine wpList_build0b rfl _ _ rfl Try.underlying26 Try.byteSize ?_))
  rotate_left
  focus (
    have d7 : decide (0 < f) = false := decide_eq_false hpos
    have HE : Hid (f = F) := Lib.hid (by have h := HF.out; rwa [if_neg hpos] at h)
    clear hpos hf hf1
    go_enter Try.func10, Try.ntmps10; go_wp2_with (refine wpList_box_row rfl _ _ rfl _ rfl ?_); apply Stop.go; intro w1 Hg1 Hb1; go_wp2_with (refine wpList_box_row rfl _ _ rfl _ rfl ?_); apply Stop.go; intro w2 Hg2 Hb2; go_wp2_with (refine wpList_alloc_row rfl _ rfl _ Try.docZero ?_); apply Stop.go; intro w3 Hg3 Hb3; have HD3 := Lib.hid ((Hb1.out.ext Hg2.out.1).ext Hg3.out.1); have HS3 := Lib.hid (Hb2.out.ext Hg3.out.1); have HR3 := Hb3; have Hw3 := Lib.hid (bt (bt Hg1.out.1 Hg2.out.1) Hg3.out.1); have Z1 := Lib.hid Hg1.out.2; have Z2 := Lib.hid Hg2.out.2; have Z3 := Lib.hid Hg3.out.2; have Zw := Lib.hid (show w.heap.size < w1.heap.size ∧ w1.heap.size < w2.heap.size ∧ w2.heap.size < w3.heap.size from ⟨by have := Z1.out; omega, by have := Z2.out; omega, by have := Z3.out; omega⟩)
    obtain ⟨s0, s1, s2⟩ := cells3_at HS3.out
    obtain ⟨c0, c1, c2, c3, c4⟩ := cells5_of HD3.out
    obtain ⟨w4, E4⟩ : ∃ w4, Hid (w3 = w4) := ⟨_, Lib.hid rfl⟩
    have HD4 : Hid (Blk w4 w.heap.size 28 (xcells (some ad) n c F false wr rd)) := Lib.hid (by rw [← HE.out, ← E4.out]; exact HD3.out)
    have HS4 := Lib.hid (show Blk w4 _ _ _ by rw [← E4.out]; exact HS3.out)
    have HR4 := Lib.hid (show Blk w4 _ _ _ by rw [← E4.out]; exact HR3.out)
    have Hw4 := Lib.hid (show Below w.heap.size w w4 by rw [← E4.out]; exact Hw3.out)
    have L4 := Lib.hid (show w4.heap.size = w3.heap.size by rw [E4.out])
    rw [E4.out] at s0 s1 s2 c0 c1 c2 c3 c4 ⊢
    go_wp2_with (refine wpList_build0b rfl _ _ rfl Try.underlying26 Try.byteSize ?_)
    clear s0 s1 s2 c0 c1 c2 c3 c4)
  rotate_left
  all_goals
    apply Stop.go; intro w5 Hg5 How5
    have HD5 := Lib.hid (HD4.out.ext Hg5.out.1)
    have HS5 := Lib.hid (HS4.out.ext Hg5.out.1)
    have HR5 := Lib.hid (HR4.out.ext Hg5.out.1)
    have Hw5 := Lib.hid (bt Hw4.out Hg5.out.1)
    have L5 := Lib.hid (show w4.heap.size ≤ w5.heap.size from Hg5.out.1.size)
    obtain ⟨c0, c1, c2, c3, c4⟩ := cells5_of HD5.out
    go_wp2_with (at_builtin; refine wpList_append_bytesB rfl _ _ _ _ rfl Try.underlying26 Try.byteInfo w4.heap.size _ rfl How5.out ad n c l rfl Hn.out (by have := Hi.out; omega) (HRB.out.below Hw5.out) L5.out (by have := Hi.out; omega) ?_)
    apply Stop.go
    intro g cap cur w6 Hq6 Hb6 Ht6 Hbel6
    have Z6 := Lib.hid (show w.heap.size < w1.heap.size ∧ w1.heap.size < w2.heap.size ∧ w2.heap.size < w4.heap.size ∧ w4.heap.size ≤ g from ⟨by have := Zw.out; omega, by have := Zw.out; omega, by have := Zw.out; have := L4.out; omega, Hq6.out.1⟩)
    have HD6 := Lib.hid (HD5.out.below Hbel6.out (by have := Z6.out; omega))
    have HS6 := Lib.hid (HS5.out.below Hbel6.out (by have := Z6.out; omega))
    have HR6 := Lib.hid (HR5.out.below Hbel6.out (by have := Z6.out; omega))
    have Hw6 := Lib.hid (Hw5.out.trans (Hbel6.out.mono (by have := Z6.out; omega)))
    clear c0 c1 c2 c3 c4
    obtain ⟨s0, s1, s2⟩ := cells3_at HS6.out
    go_wp2_with (refine wpList_store_cell rfl _ _ _ rfl Try.rbyteSize g i rfl (.int .u8 (x.toNat : Int)) rfl rfl rfl _ _ Hb6.out (by have := Hq6.out; have := Hi.out; omega) ?_)
    apply Stop.go; intro w7 Ho7 Hb7
    have HD7 := Lib.hid (HD6.out.only Ho7.out (by have := Z6.out; omega))
    have HR7 := Lib.hid (HR6.out.only Ho7.out (by have := Z6.out; omega))
    have Hw7 := Lib.hid (bonly Hw6.out Ho7.out (by have := Z6.out; omega))
    have Ht7 := Lib.hid (take_set_bytes Ht6.out i x)
    clear s0 s1 s2
    obtain ⟨c0, c1, c2, c3, c4⟩ := cells5_of HD7.out
    go_wp2_with (refine wpList_store_cell rfl _ _ _ rfl (by first | exact Try.rintSize | exact Try.rboolSize | exact Try.rbytesSize) _ 0 rfl (.slice (some ⟨g, 0, none⟩) n cap) rfl rfl rfl _ _ HD7.out (by rw [xcells_size]; omega) ?_)
    apply Stop.go; intro w8 Ho8 Hb8
    have HD8 : Hid (Blk w8 w.heap.size 28 (xcells (some ⟨g, 0, none⟩) n cap F false wr rd)) := Lib.hid Hb8.out
    have HR8 := Lib.hid (HR7.out.only Ho8.out (by have := Z6.out; omega))
    have Hw8 := Lib.hid (bonly Hw7.out Ho8.out (Nat.le_refl _))
    have Hb8' := Lib.hid (Hb7.out.only Ho8.out (by have := Z6.out; omega))
    clear c0 c1 c2 c3 c4
    obtain ⟨c0, c1, c2, c3, c4⟩ := cells5_of HD8.out
    go_wp2_with (refine wpList_store_cell rfl _ _ _ rfl (by first | exact Try.rintSize | exact Try.rboolSize | exact Try.rbytesSize) _ 3 rfl (.int .i64 (wr + 1)) rfl rfl rfl _ _ HD8.out (by rw [xcells_size]; omega) ?_)
    apply Stop.go; intro w9 Ho9 Hb9
    have HD9 : Hid (Blk w9 w.heap.size 28 (xcells (some ⟨g, 0, none⟩) n cap F false (wr + 1) rd)) := Lib.hid Hb9.out
    have HR9 := Lib.hid (HR8.out.only Ho9.out (by have := Z6.out; omega))
    have Hw9 := Lib.hid (bonly Hw8.out Ho9.out (Nat.le_refl _))
    have Hb9' := Lib.hid (Hb8'.out.only Ho9.out (by have := Z6.out; omega))
    clear c0 c1 c2 c3 c4
    go_wp2_with (first | refine wpList_load_blk rfl _ _ rfl _ rfl _ _ HD9.out _ Try.underlying28 rfl Try.docSize ?_ | refine wpList_store_arr rfl _ _ _ rfl _ _ rfl rfl _ _ HR9.out Try.docSize rfl (xcells_one _ _ _ _ _ _ _) ?_); apply Stop.go; intro wz Hoz Hbz; go_wp2_with ((with_reducible show bodyPost _ _ _ _ _ _); refine bodyPost_struct_tmp2 rfl _ rfl _ _ Hbz.out _ Try.underlying28 rfl Try.docSize rfl _ _ rfl rfl ?_); apply Stop.go
    have Hbz' := Hb9'.out.only Hoz.out (by have := Z6.out; omega)
    exact ⟨g, cap, rfl, RB.of_take (by rw [List.length_set]; exact Hn.out) Hbz' Ht7.out, by have := Z6.out; omega, Hbz'.lt, Hq6.out.2.1, Hq6.out.2.2.1, bonly Hw9.out Hoz.out (by have := Z6.out; omega)⟩

end

end Go.Proofs.Ytefienjcdchebaa
