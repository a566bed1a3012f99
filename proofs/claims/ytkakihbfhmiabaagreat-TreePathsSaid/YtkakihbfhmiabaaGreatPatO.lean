/-
  Laws on structs of a number and a slice of bytes: read, stored, appended to a list of the call's own; bytes appended to none. Plain; no program is named here.
-/
import Derived.Test.YtkakihbfhmiabaaGreatGrAC
import Derived.Test.YtkakihbfhmiabaaGreatGrAK
import Derived.Test.YtkakihbfhmiabaaGreatGrAS
import Derived.Great.BuildSlice
namespace Go.Proofs.YtkakihbfhmiabaaGreat
open Go.RowKit

/-- A patch in memory: n bytes from A on read as its bytes. -/
structure PV (w : World) (p : Pt) (A : Option Addr) (n c : Nat) : Prop where
  lo : -9223372036854775808 ≤ p.at_
  hi : p.at_ < 9223372036854775808
  len : p.data.length = n
  cap : n ≤ c
  max : c ≤ maxLen
  read : RB w A p.data
theorem PV.below {w w' : World} {p : Pt} {A : Option Addr} {n c : Nat} (h : PV w p A n c) (hb : Below w.heap.size w w') : PV w' p A n c := ⟨h.lo, h.hi, h.len, h.cap, h.max, h.read.below hb⟩
theorem RP.pv {w : World} {v0 v1 : Value} {p : Pt} (h : RP w v0 v1 p) : ∃ A n c, v0 = .int .i64 p.at_ ∧ v1 = .slice A n c ∧ PV w p A n c := by
  obtain ⟨A, c, e, h1, h2, h3⟩ := h.bytes
  exact ⟨A, _, c, h.num, e, h.lo, h.hi, rfl, h1, h2, h3⟩
theorem PV.rp {w : World} {p : Pt} {A : Option Addr} {n c : Nat} (h : PV w p A n c) : RP w (.int .i64 p.at_) (.slice A n c) p :=
  ⟨rfl, h.lo, h.hi, A, c, by rw [h.len], by rw [h.len]; exact h.cap, h.max, h.read⟩
/-- A result that is a patch, whose bytes lie in no block below B. -/
def RetPB (B : Nat) (w : World) (p : Pt) (e : Ending) (w' : World) : Prop := ∃ A n c, e = .returned (.agg #[.int .i64 p.at_, .slice A n c]) ∧ PV w' p A n c ∧ Below w.heap.size w w' ∧ ∀ ad, A = some ad → B ≤ ad.block
/-- A result that is a patch. -/
def RetP (w : World) (p : Pt) (e : Ending) (w' : World) : Prop := ∃ A n c, e = .returned (.agg #[.int .i64 p.at_, .slice A n c]) ∧ PV w' p A n c ∧ Below w.heap.size w w'
theorem RetPB.ret {B : Nat} {w : World} {p : Pt} {e : Ending} {w' : World} (h : RetPB B w p e w') : RetP w p e w' := by
  obtain ⟨A, n, c, h1, h2, h3, _⟩ := h
  exact ⟨A, n, c, h1, h2, h3⟩

/-- A result that is a patch, beside a number. -/
def RetPT (w : World) (p : Pt) (v : Int) (e : Ending) (w' : World) : Prop := ∃ A n c, e = .returned (.tuple #[.agg #[.int .i64 p.at_, .slice A n c], .int .i64 v]) ∧ PV w' p A n c ∧ Below w.heap.size w w'

/-- These bytes do not lie in the block of v. -/
def Away (l : List UInt8) (A : Option Addr) (v : Value) : Prop := l = [] ∨ A.map (·.block) ≠ v.ownBlock
/-- A list of patches of the call's own. -/
structure OwnP (w : World) (B : Nat) (e : TypeId) (v : Value) (l : List Pt) : Prop where
  own : ∃ xs, w.ownsRow B e 2 v l.length xs ∧ ∀ k (h : k < l.length), ∃ A n c, xs[k * 2]? = some (.int .i64 l[k].at_) ∧ xs[k * 2 + 1]? = some (.slice A n c) ∧ PV w l[k] A n c ∧ Away l[k].data A v
theorem OwnP.nil_ (w : World) (B : Nat) (e : TypeId) : OwnP w B e (.slice none 0 0) [] := ⟨[], World.ownsRow_nil w B e 2, fun k h => absurd h (by simp)⟩
theorem OwnP.ext {w w' : World} {B : Nat} {e : TypeId} {v : Value} {l : List Pt} (h : OwnP w B e v l) (hb : Below w.heap.size w w') : OwnP w' B e v l := by
  obtain ⟨xs, ⟨hl, ho⟩, hx⟩ := h.own
  refine ⟨xs, ⟨hl, ?_⟩, fun k hk => ?_⟩
  · rcases ho with ho | ⟨g, cap, cur, hv, hbg, hg, ho⟩
    · exact Or.inl ho
    · exact Or.inr ⟨g, cap, cur, hv, hbg, Blk.ext hg hb, ho⟩
  · obtain ⟨A, n, c, h0, h1, h2, h3⟩ := hx k hk
    exact ⟨A, n, c, h0, h1, h2.below hb, h3⟩
theorem OwnP.low {w : World} {B B' : Nat} {e : TypeId} {v : Value} {l : List Pt} (h : OwnP w B e v l) (hb : B' ≤ B) : OwnP w B' e v l := by
  obtain ⟨xs, ⟨hl, ho⟩, hx⟩ := h.own
  refine ⟨xs, ⟨hl, ?_⟩, hx⟩
  rcases ho with ho | ⟨g, cap, cur, hv, hbg, ho⟩
  · exact Or.inl ho
  · exact Or.inr ⟨g, cap, cur, hv, Nat.le_trans hb hbg, ho⟩
theorem OwnP.lt {w : World} {B : Nat} {e : TypeId} {v : Value} {l : List Pt} (h : OwnP w B e v l) : ∀ k, v.ownBlock = some k → B ≤ k ∧ k < w.heap.size := by
  obtain ⟨xs, ho, _⟩ := h.own
  exact World.ownsRow.lt ho
theorem OwnP.read {w : World} {B : Nat} {e : TypeId} {v : Value} {l : List Pt} (h : OwnP w B e v l) : ∃ A c, v = .slice A l.length c ∧ l.length ≤ c ∧ c ≤ maxLen ∧ RPL w A l := by
  obtain ⟨xs, ⟨hl, ho⟩, hx⟩ := h.own
  rcases ho with ⟨hv, hn⟩ | ⟨g, cap, cur, hv, hbg, hg, hn, hc, hs, ht⟩
  · exact ⟨none, 0, by rw [hv, hn], by omega, by unfold maxLen; omega, fun k hk => absurd hk (by omega)⟩
  · refine ⟨_, cap, hv, hn, hc, fun k hk => ?_⟩
    obtain ⟨A, n, c, h0, h1, h2, _⟩ := hx k hk
    have key : ∀ (i : Nat) v, xs[i]? = some v → i < l.length * 2 → w.cell? ((⟨g, 0, none⟩ : Addr).add i) = some v := fun i v hi hil => by
      rw [addr_add0, cell_of_row w g i cur e (0, 0) hg]
      rw [← ht, List.getElem?_take_of_lt hil] at hi
      simpa using hi
    exact ⟨_, _, _, rfl, key _ _ h0 (by omega), key _ _ h1 (by omega), h2.rp⟩

section
variable {P : Program} {ops : Array Oper} {rest : List Oper} {o : Oper} {a : Act} {w : World} {K : Act → World → Prop} {Q : Exit → Act → World → Prop}

theorem run_loadVar_pair (P : Program) (w : World) (t : TypeId) (fs : Array Field) (hu : P.underlying t = some (.struct fs)) (hi : (P.info? t).map (·.size) = some 2) (ad : Addr) (v0 v1 : Value) (h0 : w.cell? ad = some v0) (h1 : w.cell? (ad.add 1) = some v1) : (loadVar t ad).run P w = .ok (.agg #[v0, v1]) w := by
  have hl : (loadCells ad [v0, v1].length).run P w = .ok [v0, v1].toArray w := run_loadCells_list (P := P) w ad [v0, v1] (fun j v hv => by
    match j, hv with
    | 0, hv => simp at hv; subst hv; exact h0
    | 1, hv => simp at hv; subst hv; exact h1)
  obtain ⟨i, hq, hs⟩ := Option.map_eq_some_iff.1 hi
  have hagg : (isAgg t).run P w = .ok true w := by
    unfold isAgg
    rw [Sem.run_bind, run_underlying hu w]
    simp
  simp only [List.length_cons, List.length_nil, Nat.zero_add, Nat.reduceAdd] at hl
  simp [loadVar, Sem.run_bind, hagg, sizeOf, typeInfo, hq, hs, hl]
theorem exec_load_pair {o : Oper} (t : TypeId) (x : Operand) (ho : o.op = .load t x) (ad : Addr) (hx : a.eval x = .pointer (some ad)) (v0 v1 : Value) (h0 : w.cell? ad = some v0) (h1 : w.cell? (ad.add 1) = some v1)
    (fs : Array Field) (hu : P.underlying t = some (.struct fs)) (hi : (P.info? t).map (·.size) = some 2) : (execOp a.eval o).run P w = .ok (.value (.agg #[v0, v1])) w := by
  unfold execOp
  simp only [ho, hx, Instr.loadAt, Instr.sureAddr, Sem.run_bind, Sem.run_pure, Result.andThen_ok, run_loadVar_pair P w t fs hu hi ad v0 v1 h0 h1]
theorem wpList_load_pair (hgd : Region.wanted o (yielded ops a.tmps) = true) (t : TypeId) (x : Operand) (ho : o.op = .load t x) (ad : Addr) (hx : a.eval x = .pointer (some ad)) (v0 v1 : Value) (h0 : w.cell? ad = some v0) (h1 : w.cell? (ad.add 1) = some v1)
    (fs : Array Field) (hu : P.underlying t = some (.struct fs)) (hi : (P.info? t).map (·.size) = some 2) (h : wpList P ops Q rest (a.put o.dst (.agg #[v0, v1])) w) : wpList P ops Q (o :: rest) a w := by
  refine wpList_wanted hgd fun K hK => ?_
  unfold Oper.wp execOp
  simp only [ho, hx, Instr.loadAt, Instr.sureAddr, Sem.run_bind, Sem.run_pure, Result.andThen_ok, run_loadVar_pair P w t fs hu hi ad v0 v1 h0 h1]
  exact hK _ _ h
/-- The same of a block that is such a struct. -/
theorem exec_load_blk {o : Oper} (t : TypeId) (x : Operand) (ho : o.op = .load t x) (g : Nat) (hx : a.eval x = .pointer (some ⟨g, 0, none⟩)) (t' : TypeId) (cs : Array Value) (hg : Blk w g t' cs)
    (d : TypeDesc) (hu : P.underlying t = some d) (hd : (match d with | .struct _ | .array _ _ => true | _ => false) = true) (hi : (P.info? t).map (·.size) = some cs.size) : (execOp a.eval o).run P w = .ok (.value (.agg cs)) w := by
  unfold execOp
  simp only [ho, hx, Instr.loadAt, Instr.sureAddr, Sem.run_bind, Sem.run_pure, Result.andThen_ok, run_loadVar_row w g t' t cs (0, 0) _ hg hu hd hi]
theorem wpList_load_blk (hgd : Region.wanted o (yielded ops a.tmps) = true) (t : TypeId) (x : Operand) (ho : o.op = .load t x) (g : Nat) (hx : a.eval x = .pointer (some ⟨g, 0, none⟩)) (t' : TypeId) (cs : Array Value) (hg : Blk w g t' cs)
    (d : TypeDesc) (hu : P.underlying t = some d) (hd : (match d with | .struct _ | .array _ _ => true | _ => false) = true) (hi : (P.info? t).map (·.size) = some cs.size)
    (h : wpList P ops Q rest (a.put o.dst (.agg cs)) w) : wpList P ops Q (o :: rest) a w :=
  wpList_wanted hgd fun _ hK => wp_load_row t x ho g hx t' cs (0, 0) _ hg hu hd hi (hK _ _ h)
/-- A cell that is no struct. -/
theorem exec_load_cell {o : Oper} (t : TypeId) (x : Operand) (ho : o.op = .load t x) (ad : Addr) (hx : a.eval x = .pointer (some ad)) (v : Value) (hc : w.cell? ad = some v)
    (d : TypeDesc) (hu : P.underlying t = some d) (hd : (match d with | .struct _ | .array _ _ => true | _ => false) = false) : (execOp a.eval o).run P w = .ok (.value v) w := by
  have hagg : (isAgg t).run P w = .ok false w := by
    unfold isAgg
    rw [Sem.run_bind, run_underlying hu w]
    cases d <;> simp_all
  unfold execOp
  simp only [ho, hx, Instr.loadAt, Instr.sureAddr, Sem.run_bind, Sem.run_pure, Result.andThen_ok, loadVar, hagg]
  simp [hc]

/-- A cut of an array from a place on. -/
theorem exec_slice_l {o : Oper} (t : TypeId) (x lo : Operand) (ho : o.op = .slice t x (some lo) none none) (N e : Nat) (hu : P.underlying t = some (.array N e)) (hs : (P.info? e).map (·.size) = some 1)
    (g : Nat) (hx : a.eval x = .pointer (some ⟨g, 0, none⟩)) (kl : IntKind) (L : Int) (hlo : a.eval lo = .int kl L) (l : Nat) (hL : L = l) (h3 : l < N) : (execOp a.eval o).run P w = .ok (.value (.slice (some ⟨g, l, none⟩) (N - l) (N - l))) w := by
  subst hL
  have hr := (run_slice_arr P w t N e hu hs g l N (by omega) (by omega) h3 kl .i64).2.1 rfl
  unfold execOp
  simp only [ho, Sem.run_bind, Sem.run_pure, Result.andThen_ok, Option.map_some, Option.map_none, hx, hlo, hr]
theorem exec_slice_all {o : Oper} (t : TypeId) (x : Operand) (ho : o.op = .slice t x none none none) (N e : Nat) (hu : P.underlying t = some (.array N e)) (hs : (P.info? e).map (·.size) = some 1)
    (g : Nat) (hx : a.eval x = .pointer (some ⟨g, 0, none⟩)) (h3 : 0 < N) : (execOp a.eval o).run P w = .ok (.value (.slice (some ⟨g, 0, none⟩) N N)) w := by
  have hr := (run_slice_arr P w t N e hu hs g 0 N (by omega) (by omega) h3 .i64 .i64).2.2.2 rfl rfl
  unfold execOp
  simp only [ho, Sem.run_bind, Sem.run_pure, Result.andThen_ok, Option.map_none, hx, hr]

/-! One operation by itself. -/
theorem ow_alloc (t : TypeId) (ho : o.op = .alloc t) (cs : Array Value) (hz : (P.info? t).map (·.zero) = some (some (.agg cs)))
    (h : Stop (∀ w', Hid (Grew w w') → Hid (Blk w' w.heap.size t cs) → K (a.put o.dst (.pointer (some ⟨w.heap.size, 0, none⟩))) w')) : o.wp P a w K Q := by
  unfold Oper.wp execOp
  simp only [ho, Sem.run_bind, run_alloc_row P w t cs hz, Result.andThen_ok]
  exact h _ (Grew.alloc w _) (Blk.new w t cs)
theorem ow_store (t : TypeId) (x y : Operand) (ho : o.op = .store t x y)
    (g : Nat) (cs : Array Value) (hx : a.eval x = .pointer (some ⟨g, 0, none⟩)) (hy : a.eval y = .agg cs)
    (t' : TypeId) (old : Array Value) (hg : Blk w g t' old) (hi : (P.info? t).map (·.size) = some cs.size) (hold : old.size = cs.size) (h1 : cs.all (·.oneCell') = true)
    (h : Stop (∀ w', Hid (Only w w' g) → Hid (Blk w' g t' cs) → K (a.put o.dst undef) w')) : o.wp P a w K Q :=
  wp_store_row t x y ho g cs hx hy t' old hg hi hold h1 (h _ (Only.setRow hg cs) (hg.setRow cs))
theorem ow_copy (s x : Operand) (dT sT : TypeId) (ho : o.op = .call { callee := .builtin .copy, args := #[s, x], argTypes := #[dT, sT] }) (elem : TypeId) (hu : P.underlying dT = some (.slice elem)) (hs : (P.info? elem).map (·.size) = some 1)
    (g off dLen dCap : Nat) (cur : List UInt8) (t : TypeId) (hsv : a.eval s = .slice (some ⟨g, off, none⟩) dLen dCap) (hg : Blk w g t (bcells cur)) (hd : off + dLen ≤ cur.length) (A : Option Addr) (n c : Nat) (l : List UInt8) (hxv : a.eval x = .slice A n c) (hn : l.length = n) (hr : RB w A l)
    (h : Stop (∀ w', Hid (Only w w' g) → Hid (Blk w' g t (bcells (splice cur off (l.take dLen)))) → K (a.put o.dst (.int .i64 ((min n dLen : Nat) : Int))) w')) : o.wp P a w K Q := by
  obtain ⟨w', hrun, h1, h2⟩ := run_copy_bytes P w dT sT o.type elem hu hs g off dLen dCap cur t hg hd A n c l hn hr
  unfold Oper.wp execOp
  simp only [ho, resolve, invoke, builtin, Sem.run_bind, Sem.run_pure, Result.andThen_ok, List.map_toArray, List.map_cons, List.map_nil, hsv, hxv, hrun]
  exact h w' h1 h2

theorem run_build0 (P : Program) (w : World) (t e : TypeId) (ht : P.underlying t = some (.slice e)) (hs : (P.info? e).map (·.size) = some 1) : (Instr.buildSlice t 0 #[]).run P w = .ok (.slice (some ⟨w.heap.size, 0, none⟩) 0 0) (w.alloc (.cells #[] e)) := by
  obtain ⟨i, hq, hsz⟩ := Option.map_eq_some_iff.1 hs
  have e0 : Array.map (fun _ : Nat => (default : Value)) (Array.range 0) = #[] := Array.eq_empty_of_size_eq_zero (by simp)
  simp [Instr.buildSlice, run_underlying ht, sizeOf, typeInfo, hq, Instr.fill]
  rw [e0]
  rfl
theorem ow_build0 (t e : TypeId) (ho : o.op = .buildSlice t 0 #[]) (ht : P.underlying t = some (.slice e)) (hs : (P.info? e).map (·.size) = some 1)
    (h : K (a.put o.dst (.slice (some ⟨w.heap.size, 0, none⟩) 0 0)) (w.alloc (.cells #[] e))) : o.wp P a w K Q := by
  unfold Oper.wp execOp
  simp only [ho, Sem.run_bind, List.map_toArray, List.map_nil, run_build0 P w t e ht hs, Result.andThen_ok]
  exact h
theorem wpList_build0 (hgd : Region.wanted o (yielded ops a.tmps) = true) (t e : TypeId) (ho : o.op = .buildSlice t 0 #[]) (ht : P.underlying t = some (.slice e)) (hs : (P.info? e).map (·.size) = some 1)
    (h : wpList P ops Q rest (a.put o.dst (.slice (some ⟨w.heap.size, 0, none⟩) 0 0)) (w.alloc (.cells #[] e))) : wpList P ops Q (o :: rest) a w :=
  wpList_wanted hgd fun _ hK => ow_build0 t e ho ht hs (hK _ _ h)
theorem run_build_one (P : Program) (w : World) (t e : TypeId) (ht : P.underlying t = some (.slice e)) (z : Value) (by_ : Nat) (hi : (P.info? e).map (fun i => (i.zero, i.size, i.bytes)) = some (some z, 2, by_)) (_hz : z.cells.size = 2) (v0 v1 : Value) :
    (Instr.buildSlice t 1 #[(0, .agg #[v0, v1])]).run P w = .ok (.slice (some ⟨w.heap.size, 0, none⟩) 1 1) (w.alloc (.cells #[v0, v1] e)) := by
  obtain ⟨i, h1, h2, h3, h4⟩ := info_parts hi
  have hf : Instr.fill (fun i => some (i * 2, 2)) ((Array.range 2).map (z.cells[· % z.cells.size]!)) [(0, .agg #[v0, v1])] = some #[v0, v1] := by
    have hsz : ((Array.range 2).map (z.cells[· % z.cells.size]!)).size = 2 := by simp
    generalize (Array.range 2).map (z.cells[· % z.cells.size]!) = cs at hsz
    obtain ⟨l⟩ := cs
    match l, hsz with
    | [c0, c1], _ => simp [Instr.fill, Value.cells]
  exact run_buildSlice w t e 1 _ _ i z ht h1 h2 (by omega) (by omega) (by rw [h3]; exact hf)
theorem wpList_build_one (hgd : Region.wanted o (yielded ops a.tmps) = true) (t e : TypeId) (x : Operand) (ho : o.op = .buildSlice t 1 #[(0, x)]) (ht : P.underlying t = some (.slice e)) (z : Value) (by_ : Nat) (hi : (P.info? e).map (fun i => (i.zero, i.size, i.bytes)) = some (some z, 2, by_)) (hz : z.cells.size = 2) (v0 v1 : Value) (hx : a.eval x = .agg #[v0, v1])
    (h : wpList P ops Q rest (a.put o.dst (.slice (some ⟨w.heap.size, 0, none⟩) 1 1)) (w.alloc (.cells #[v0, v1] e))) : wpList P ops Q (o :: rest) a w := by
  refine wpList_wanted hgd fun K hK => ?_
  unfold Oper.wp execOp
  simp only [ho, hx, Sem.run_bind, List.map_toArray, List.map_cons, List.map_nil, run_build_one P w t e ht z by_ hi hz v0 v1, Result.andThen_ok]
  exact hK _ _ h
theorem ow_build_one (t e : TypeId) (x : Operand) (ho : o.op = .buildSlice t 1 #[(0, x)]) (ht : P.underlying t = some (.slice e)) (z : Value) (by_ : Nat) (hi : (P.info? e).map (fun i => (i.zero, i.size, i.bytes)) = some (some z, 2, by_)) (hz : z.cells.size = 2) (v0 v1 : Value) (hx : a.eval x = .agg #[v0, v1])
    (h : K (a.put o.dst (.slice (some ⟨w.heap.size, 0, none⟩) 1 1)) (w.alloc (.cells #[v0, v1] e))) : o.wp P a w K Q := by
  unfold Oper.wp execOp
  simp only [ho, hx, Sem.run_bind, List.map_toArray, List.map_cons, List.map_nil, run_build_one P w t e ht z by_ hi hz v0 v1, Result.andThen_ok]
  exact h

/-- Bytes that are appended to none, in a block made just ahead. -/
theorem run_append_bytes (P : Program) (w : World) (t ty e : TypeId) (ht : P.underlying t = some (.slice e)) (hi : (P.info? e).map (fun i => (i.zero, i.size, i.bytes)) = some (some (.int .u8 0), 1, 1))
    (A : Option Addr) (n c : Nat) (l : List UInt8) (hn : l.length = n) (hr : RB w A l) (hlen : n ≤ 140737488355328) :
    ∃ g c' w', (Builtin.append_ #[t, t] ty #[.slice (some ⟨w.heap.size, 0, none⟩) 0 0, .slice A n c]).run P (w.alloc (.cells #[] e)) = .ok (.slice (some ⟨g, 0, none⟩) n c') w' ∧ RB w' (some ⟨g, 0, none⟩) l ∧ n ≤ c' ∧ c' ≤ maxLen ∧ Below w.heap.size w w' ∧ w.heap.size ≤ g := by
  obtain ⟨i, h1, h2, h3, h4⟩ := info_parts hi
  by_cases h0 : n = 0
  · subst h0
    have hl : l = [] := List.eq_nil_of_length_eq_zero hn
    subst hl
    have hrun : (Builtin.append_ #[t, t] ty #[.slice (some ⟨w.heap.size, 0, none⟩) 0 0, .slice A 0 c]).run P (w.alloc (.cells #[] e)) = .ok (.slice (some ⟨w.heap.size, 0, none⟩) 0 0) (w.alloc (.cells #[] e)) := by
      cases A with
      | none => simp [Builtin.append_, run_underlying ht, sizeOf, typeInfo, h1, Builtin.lenOf, Builtin.firstCells, storeCells]
      | some ad => simp [Builtin.append_, run_underlying ht, sizeOf, typeInfo, h1, Builtin.lenOf, Builtin.firstCells, storeCells, loadCells, loadCellsFrom]
    exact ⟨_, _, _, hrun, RB.nil_ _ _, Nat.le_refl _, by unfold maxLen; omega, (Below.refl _ _).alloc (Nat.le_refl _) _, Nat.le_refl _⟩
  · obtain ⟨ad, rfl⟩ := hr.addr (by omega)
    have hown : (w.alloc (.cells #[] e)).ownsRow w.heap.size e 1 (.slice (some ⟨w.heap.size, 0, none⟩) 0 0) 0 [] :=
      ⟨rfl, Or.inr ⟨w.heap.size, 0, #[], rfl, Nat.le_refl _, heap_alloc_new w _, Nat.le_refl _, by unfold maxLen; omega, rfl, rfl⟩⟩
    have hr' : RB (w.alloc (.cells #[] e)) (some ad) l := hr.below ((Below.refl _ _).alloc (Nat.le_refl _) _)
    obtain ⟨v', w', hrun, ho, hg, _⟩ := run_append_own (P := P) (w.alloc (.cells #[] e)) w.heap.size t ty e i (.int .u8 0) 1 1 ht h1 h2 h3 h4 rfl (by omega) _ 0 [] hown ad n c (l.map fun x => Value.int .u8 (x.toNat : Int)) (by simp [hn]) (fun j u hj => by
      rw [List.getElem?_map] at hj
      obtain ⟨x, hx, rfl⟩ := Option.map_eq_some_iff.1 hj
      obtain ⟨hjl, rfl⟩ := List.getElem?_eq_some_iff.1 hx
      obtain ⟨ad', e1, hc⟩ := hr' j hjl
      injection e1 with e1
      subst e1
      exact hc) (fun u hu => by
      obtain ⟨x, _, rfl⟩ := List.mem_map.1 hu
      rfl) (by unfold maxLen; omega) (by omega) (by simp)
    have ho' : OwnB w' w.heap.size e v' l := by
      unfold OwnB
      rw [hn]
      simpa using ho
    obtain ⟨hl, hx | ⟨g, cap, cur, hv, hb, hgr, hnc, hc, hs, htk⟩⟩ := id ho'
    · omega
    · obtain ⟨A', c', hv', hc1, hc2, hrd⟩ := ho'.read
      rw [hv] at hv'
      injection hv' with e1 e2 e3
      subst e1; subst e3
      refine ⟨g, cap, w', by rw [hrun, hv, hn], hrd, by omega, hc, ?_, hb⟩
      refine (((Below.refl w.heap.size w).alloc (Nat.le_refl _) _)).grown hg (by simp) ?_
      intro k hk
      simp [Value.ownBlock] at hk
      omega
theorem ow_append_bytes (s x : Operand) (t e : TypeId) (ho : o.op = .call { callee := .builtin .append, args := #[s, x], argTypes := #[t, t] })
    (ht : P.underlying t = some (.slice e)) (hi : (P.info? e).map (fun i => (i.zero, i.size, i.bytes)) = some (some (.int .u8 0), 1, 1))
    (hs : a.eval s = .slice (some ⟨w.heap.size, 0, none⟩) 0 0) (A : Option Addr) (n c : Nat) (l : List UInt8) (hx : a.eval x = .slice A n c) (hn : l.length = n) (hr : RB w A l) (hlen : n ≤ 140737488355328)
    (h : Stop (∀ g c' w', Hid (RB w' (some ⟨g, 0, none⟩) l) → Hid (n ≤ c' ∧ c' ≤ maxLen ∧ w.heap.size ≤ g) → Hid (Below w.heap.size w w') → K (a.put o.dst (.slice (some ⟨g, 0, none⟩) n c')) w')) : o.wp P a (w.alloc (.cells #[] e)) K Q := by
  obtain ⟨g, c', w', hrun, h1, h2, h3, h4, h5⟩ := run_append_bytes P w t o.type e ht hi A n c l hn hr hlen
  unfold Oper.wp execOp
  simp only [ho, resolve, invoke, builtin, Sem.run_bind, Sem.run_pure, Result.andThen_ok, List.map_toArray, List.map_cons, List.map_nil, hs, hx, hrun]
  exact h g c' w' h1 ⟨h2, h3, h5⟩ h4
theorem wpList_append_bytes (hgd : Region.wanted o (yielded ops a.tmps) = true) (s x : Operand) (t e : TypeId) (ho : o.op = .call { callee := .builtin .append, args := #[s, x], argTypes := #[t, t] })
    (ht : P.underlying t = some (.slice e)) (hi : (P.info? e).map (fun i => (i.zero, i.size, i.bytes)) = some (some (.int .u8 0), 1, 1))
    (hs : a.eval s = .slice (some ⟨w.heap.size, 0, none⟩) 0 0) (A : Option Addr) (n c : Nat) (l : List UInt8) (hx : a.eval x = .slice A n c) (hn : l.length = n) (hr : RB w A l) (hlen : n ≤ 140737488355328)
    (h : Stop (∀ g c' w', Hid (RB w' (some ⟨g, 0, none⟩) l) → Hid (n ≤ c' ∧ c' ≤ maxLen ∧ w.heap.size ≤ g) → Hid (Below w.heap.size w w') → wpList P ops Q rest (a.put o.dst (.slice (some ⟨g, 0, none⟩) n c')) w')) : wpList P ops Q (o :: rest) a (w.alloc (.cells #[] e)) :=
  wpList_wanted hgd fun _ hK => ow_append_bytes s x t e ho ht hi hs A n c l hx hn hr hlen (fun g c' w' h1 h2 h3 => hK _ _ (h g c' w' h1 h2 h3))

theorem away_grown {l : List UInt8} {A : Option Addr} {v v' : Value} {w : World} (h : Away l A v) (hr : RB w A l) (hv : v'.ownBlock = v.ownBlock ∨ ∃ g, v'.ownBlock = some g ∧ w.heap.size ≤ g) : Away l A v' := by
  rcases h with h | h
  · exact Or.inl h
  · rcases hv with hv | ⟨g, hv, hg⟩
    · exact Or.inr (by rw [hv]; exact h)
    · by_cases hl : l = []
      · exact Or.inl hl
      · obtain ⟨ad, e, hc⟩ := hr 0 (List.length_pos_iff.2 hl)
        have hlt := block_lt_of_cell hc
        rw [block_of_add] at hlt
        refine Or.inr ?_
        rw [e, hv]
        simp
        omega
theorem away_read {l : List UInt8} {A : Option Addr} {w w' : World} {row : Option Nat} (h : l = [] ∨ A.map (·.block) ≠ row) (hr : RB w A l) (hg : w.grownBy w' row) : RB w' A l := fun k hk => by
  obtain ⟨ad, e, hc⟩ := hr k hk
  refine ⟨ad, e, ?_⟩
  rcases h with h | h
  · subst h; simp at hk
  · rw [← hc]
    refine World.cell?_of_block ?_
    have hlt := block_lt_of_cell hc
    refine hg.block _ hlt ?_
    rw [block_of_add]
    rw [e] at h
    simpa using h
/-- append of one patch to a list of the call's own. -/
theorem run_append_pt (P : Program) (w : World) (t ty e : TypeId) (ht : P.underlying t = some (.slice e)) (z : Value) (by_ : Nat) (hi : (P.info? e).map (fun i => (i.zero, i.size, i.bytes)) = some (some z, 2, by_)) (hz : z.cells.size = 2)
    (B : Nat) (v : Value) (l : List Pt) (hown : OwnP w B e v l) (p : Pt) (A : Option Addr) (n c : Nat) (hp : PV w p A n c) (ha : Away p.data A v) (hB : B ≤ w.heap.size) (hlen : l.length + 1 ≤ 281474976710656) (hby : (l.length + 1) * by_ ≤ 140737488355328) :
    ∃ v' w', (Builtin.append_ #[t, t] ty #[v, .slice (some ⟨w.heap.size, 0, none⟩) 1 1]).run P (w.alloc (.cells #[.int .i64 p.at_, .slice A n c] e)) = .ok v' w' ∧ OwnP w' B e v' (l ++ [p]) ∧ Below B w w' ∧ (v'.ownBlock = v.ownBlock ∨ ∃ g, v'.ownBlock = some g ∧ w.heap.size ≤ g) ∧ ∃ xs, xs.length = l.length * 2 ∧ w'.ownsRow B e 2 v' (l.length + 1) (xs ++ [.int .i64 p.at_, .slice A n c]) := by
  obtain ⟨i, h1, h2, h3, h4⟩ := info_parts hi
  obtain ⟨xs, ho, hx⟩ := hown.own
  obtain ⟨w1, hw1⟩ : ∃ w1, w1 = w.alloc (.cells #[.int .i64 p.at_, .slice A n c] e) := ⟨_, rfl⟩
  have hb1 : Below w.heap.size w w1 := hw1 ▸ (Below.refl _ _).alloc (Nat.le_refl _) _
  have hown1 : w1.ownsRow B e 2 v l.length xs := hw1 ▸ World.ownsRow.alloc ho _
  have hnews : ∀ j u, [Value.int .i64 p.at_, Value.slice A n c][j]? = some u → w1.cell? ((⟨w.heap.size, 0, none⟩ : Addr).add j) = some u := fun j u hj => by
    rw [addr_add0, hw1, (Blk.new w e _).cell]
    match j, hj with
    | 0, hj => simpa using hj
    | 1, hj => simpa using hj
  have h5 : ∀ u ∈ [Value.int .i64 p.at_, Value.slice A n c], u.oneCell' = true := fun u hu => by
    simp at hu
    rcases hu with rfl | rfl <;> rfl
  rw [← hw1]
  obtain ⟨v', w', hr, ho', hg, _⟩ := run_append_own (P := P) w1 B t ty e i z 2 by_ ht h1 h2 h3 h4 hz (by omega) v l.length xs hown1 ⟨w.heap.size, 0, none⟩ 1 1 _ rfl hnews h5 (by unfold maxLen; omega) hby (Nat.le_trans hB hb1.size)
  have hblk : v'.ownBlock = v.ownBlock ∨ ∃ g, v'.ownBlock = some g ∧ w.heap.size ≤ g := by
    obtain ⟨hl, ⟨rfl, hn0⟩ | ⟨g, cap, cur, rfl, hbg, hgr, hnc, hcm, hcs, htk⟩⟩ := id hown1
    · have hr' := run_append_nil (P := P) w1 t ty e i z ht h1 h2 ⟨w.heap.size, 0, none⟩ 1 1 [Value.int .i64 p.at_, Value.slice A n c] (by rw [h3]; rfl) hnews (by omega) (by omega) (by rw [h4]; have : 1 * by_ ≤ 140737488355328 := Nat.le_trans (Nat.mul_le_mul_right by_ (by omega)) hby; omega)
      rw [hr] at hr'
      injection hr' with e2 _
      right
      rw [e2]
      exact ⟨_, rfl, hb1.size⟩
    · by_cases hroom : l.length + 1 ≤ cap
      · have hr' := run_append_room (P := P) w1 t ty e i ht h1 g l.length cap cur hgr ⟨w.heap.size, 0, none⟩ 1 1 [Value.int .i64 p.at_, Value.slice A n c] (by rw [h3]; rfl) hnews h5 hroom (by rw [h3, hcs]; simp; omega)
        rw [hr] at hr'
        injection hr' with e2 _
        left
        rw [e2]
        rfl
      · have holds : ∀ j u, xs[j]? = some u → w1.cell? ((⟨g, 0, none⟩ : Addr).add j) = some u := hown1.cells (g := g) rfl
        have hr' := run_append_grow (P := P) w1 t ty e i z ht h1 h2 ⟨g, 0, none⟩ l.length cap xs (by rw [h3]; exact hl) holds ⟨w.heap.size, 0, none⟩ 1 1 [Value.int .i64 p.at_, Value.slice A n c] (by rw [h3]; rfl) hnews (by omega) (by omega) (by rw [h4]; exact growslice_fits (by omega) hby)
        rw [hr] at hr'
        injection hr' with e2 _
        right
        rw [e2]
        exact ⟨_, rfl, hb1.size⟩
  have hin : ∀ (q : Pt) (A : Option Addr) (n c : Nat), PV w q A n c → Away q.data A v → PV w' q A n c ∧ Away q.data A v' := fun q A n c hq hqa =>
    ⟨⟨hq.lo, hq.hi, hq.len, hq.cap, hq.max, away_read hqa (hq.read.below hb1) hg⟩, away_grown hqa hq.read hblk⟩
  refine ⟨v', w', hr, ⟨xs ++ [Value.int .i64 p.at_, Value.slice A n c], by rw [List.length_append]; exact ho', fun k hk => ?_⟩, ?_, hblk, xs, ho.1, ho'⟩
  · have hxl : xs.length = l.length * 2 := ho.1
    by_cases hkl : k < l.length
    · obtain ⟨A', n', c', g0, g1, g2, g3⟩ := hx k hkl
      have h6 := hin _ _ _ _ g2 g3
      refine ⟨A', n', c', ?_, ?_, ?_, ?_⟩
      · rw [List.getElem?_append_left (by omega), g0, List.getElem_append_left hkl]
      · rw [List.getElem?_append_left (by omega), g1]
      · rw [List.getElem_append_left hkl]; exact h6.1
      · rw [List.getElem_append_left hkl]; exact h6.2
    · obtain rfl : k = l.length := by simp at hk; omega
      have h6 := hin p A n c hp ha
      have e1 : (l ++ [p])[l.length]'hk = p := by simp
      refine ⟨A, n, c, ?_, ?_, by rw [e1]; exact h6.1, by rw [e1]; exact h6.2⟩
      · rw [e1, List.getElem?_append_right (by omega), show l.length * 2 - xs.length = 0 by omega]; rfl
      · rw [List.getElem?_append_right (by omega), show l.length * 2 + 1 - xs.length = 1 by omega]; rfl
  · refine (hb1.mono hB).grown hg (Nat.le_trans hB hb1.size) ?_
    intro k hk
    exact (hown.lt k hk).1
theorem ow_append_pt (s x : Operand) (t e : TypeId) (ho : o.op = .call { callee := .builtin .append, args := #[s, x], argTypes := #[t, t] })
    (ht : P.underlying t = some (.slice e)) (z : Value) (by_ : Nat) (hi : (P.info? e).map (fun i => (i.zero, i.size, i.bytes)) = some (some z, 2, by_)) (hz : z.cells.size = 2)
    (B : Nat) (v : Value) (l : List Pt) (hown : OwnP w B e v l) (p : Pt) (A : Option Addr) (n c : Nat) (hp : PV w p A n c) (ha : Away p.data A v) (hs : a.eval s = v) (hx : a.eval x = .slice (some ⟨w.heap.size, 0, none⟩) 1 1) (hB : B ≤ w.heap.size) (hlen : l.length + 1 ≤ 281474976710656) (hby : (l.length + 1) * by_ ≤ 140737488355328)
    (h : Stop (∀ v' w', Hid (OwnP w' B e v' (l ++ [p])) → Hid (Below B w w') → K (a.put o.dst v') w')) : o.wp P a (w.alloc (.cells #[.int .i64 p.at_, .slice A n c] e)) K Q := by
  obtain ⟨v', w', hrun, h1, h2, _, _⟩ := run_append_pt P w t o.type e ht z by_ hi hz B v l hown p A n c hp ha hB hlen hby
  unfold Oper.wp execOp
  simp only [ho, resolve, invoke, builtin, Sem.run_bind, Sem.run_pure, Result.andThen_ok, List.map_toArray, List.map_cons, List.map_nil, hs, hx, hrun]
  exact h v' w' h1 h2
theorem wpList_append_pt (hgd : Region.wanted o (yielded ops a.tmps) = true) (s x : Operand) (t e : TypeId) (ho : o.op = .call { callee := .builtin .append, args := #[s, x], argTypes := #[t, t] })
    (ht : P.underlying t = some (.slice e)) (z : Value) (by_ : Nat) (hi : (P.info? e).map (fun i => (i.zero, i.size, i.bytes)) = some (some z, 2, by_)) (hz : z.cells.size = 2)
    (B : Nat) (v : Value) (l : List Pt) (hown : OwnP w B e v l) (p : Pt) (A : Option Addr) (n c : Nat) (hp : PV w p A n c) (ha : Away p.data A v) (hs : a.eval s = v) (hx : a.eval x = .slice (some ⟨w.heap.size, 0, none⟩) 1 1) (hB : B ≤ w.heap.size) (hlen : l.length + 1 ≤ 281474976710656) (hby : (l.length + 1) * by_ ≤ 140737488355328)
    (h : Stop (∀ v' w', Hid (OwnP w' B e v' (l ++ [p])) → Hid (Below B w w') → wpList P ops Q rest (a.put o.dst v') w')) : wpList P ops Q (o :: rest) a (w.alloc (.cells #[.int .i64 p.at_, .slice A n c] e)) :=
  wpList_wanted hgd fun _ hK => ow_append_pt s x t e ho ht z by_ hi hz B v l hown p A n c hp ha hs hx hB hlen hby (fun v' w' h1 h2 => hK _ _ (h v' w' h1 h2))
end

section
variable {P : Program} {o : Oper} {a : Act} {w : World} {K : Act → World → Prop} {Q : Exit → Act → World → Prop}
theorem ow_load_cell (t : TypeId) (x : Operand) (ho : o.op = .load t x) (ad : Addr) (hx : a.eval x = .pointer (some ad)) (v : Value) (hc : w.cell? ad = some v)
    (dd : TypeDesc) (hu : P.underlying t = some dd) (hd : (match dd with | .struct _ | .array _ _ => true | _ => false) = false) (h : K (a.put o.dst v) w) : o.wp P a w K Q := by
  have hr := exec_load_cell (P := P) (a := a) (w := w) t x ho ad hx v hc dd hu hd
  unfold Oper.wp
  rw [hr]
  exact h
theorem ow_store_cell (ty : TypeId) (x y : Operand) (ho : o.op = .store ty x y) (hs : (P.info? ty).map (·.size) = some 1)
    (g i : Nat) (hx : a.eval x = .pointer (some ⟨g, i, none⟩)) (v : Value) (hy : a.eval y = v) (hv : v.cells = #[v]) (h1 : v.oneCell' = true) (t : TypeId) (cs : Array Value) (hg : Blk w g t cs) (hi : i < cs.size)
    (h : Stop (∀ w', Hid (Only w w' g) → Hid (Blk w' g t (cs.setIfInBounds i v)) → K (a.put o.dst undef) w')) : o.wp P a w K Q := by
  unfold Oper.wp execOp
  simp only [ho, hx, hy, Instr.storeAt, Instr.sureAddr, Sem.run_bind, Sem.run_pure, Result.andThen_ok, run_storeVar_cell P w ty hs g i t cs hg hi v hv h1]
  exact h _ ((Only.refl w g).setCell i v) (hg.set_ i v)
end
/-- The second cell of a struct, by the address that a field has. -/
theorem cell_field {w : World} {ad : Addr} {j : Nat} {v u : Value} (h0 : w.cell? (ad.add j) = some u) (h : w.cell? (ad.add (j + 1)) = some v) : w.cell? ⟨(ad.add j).block, (ad.add j).off + 1, none⟩ = some v := by
  rw [← h]
  have hs : (ad.add j).spot = none := by
    unfold World.cell? at h0
    split at h0
    · split at h0
      · cases h0
      · rename_i h; simpa using h
    · cases h0
  have e : (⟨(ad.add j).block, (ad.add j).off + 1, none⟩ : Addr) = ad.add (j + 1) := by
    rw [← add_of_add]
    generalize ad.add j = x at *
    obtain ⟨b, o, s⟩ := x
    simp at hs
    subst hs
    unfold Addr.add
    simp
  rw [e]
/-- A store into a block that holds no bytes leaves bytes as they are. -/
theorem RB.only_other {w w' : World} {g : Nat} {t : TypeId} {cs : Array Value} {A : Option Addr} {l : List UInt8} (hr : RB w A l) (hg : Blk w g t cs) (hcs : ∀ v ∈ cs.toList, ∀ x, v ≠ .int .u8 x) (ho : Only w w' g) : RB w' A l := fun k hk => by
  obtain ⟨ad, e, hc⟩ := hr k hk
  refine ⟨ad, e, ?_⟩
  rw [← hc]
  refine World.cell?_of_block (ho.block _ fun hb => ?_)
  unfold Blk at hg
  rw [← hb] at hg
  simp [World.cell?, hg] at hc
  exact hcs _ (by simpa using Array.mem_of_getElem? hc.2) _ rfl

/-! Two that may come up next. -/
section
variable {P : Program} {l : List Oper} {Q : Exit → Act → World → Prop} {S : World → Prop} {listed : List Bool} {n : Nat} {a : Act} {w : World}
theorem WH.two (i j : Nat) (oi oj : Oper) (hi : l[i]? = some oi) (hj : l[j]? = some oj) (hr : Region.ready .any l.toArray listed.toArray = [i, j]) (hwi : Region.wanted oi (yielded l.toArray a.tmps) = true) (hwj : Region.wanted oj (yielded l.toArray a.tmps) = true)
    (h1 : ∀ K : Act → World → Prop, (∀ a' w', S w' → WH P l Q S (listed.set i true) n a' w' → K a' w') → oi.wp P a w K Q)
    (h2 : ∀ K : Act → World → Prop, (∀ a' w', S w' → WH P l Q S (listed.set j true) n a' w' → K a' w') → oj.wp P a w K Q) : WH P l Q S listed (n + 1) a w := by
  refine wpAnyH_all (rs := [i, j]) hr (by simp) fun k hk => ?_
  have hi' : l.toArray[i]? = some oi := by simpa using hi
  have hj' : l.toArray[j]? = some oj := by simpa using hj
  have hk' : k = i ∨ k = j := by simpa using hk
  rcases hk' with rfl | rfl
  · unfold Go.wpOp
    simp only [hi', hwi, if_true]
    refine Or.inl (h1 _ fun a' w' g1 g2 => ⟨g1, ?_⟩)
    unfold WH at g2
    simpa using g2
  · unfold Go.wpOp
    simp only [hj', hwj, if_true]
    refine Or.inl (h2 _ fun a' w' g1 g2 => ⟨g1, ?_⟩)
    unfold WH at g2
    simpa using g2
end

end Go.Proofs.YtkakihbfhmiabaaGreat
