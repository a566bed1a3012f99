/-
  More laws on arrays of bytes: a copy from a text, bytes as a text, '!=' of two arrays, a result that is an array beside another one. Plain; no program is named here.
-/
import Derived.Test.YtfhghcodhacneaaGrA
import Derived.Laws.CopyRow
import Derived.Laws.IdiomStrings
namespace Go.Proofs.Ytfhghcodhacneaa
open Go.RowKit

section
variable {P : Program} {ops : Array Oper} {rest : List Oper} {o : Oper} {a : Act} {w : World} {Q : Exit → Act → World → Prop}

/-- copy of a text that fits into a block of bytes. -/
theorem run_copy_text (P : Program) (w : World) (dT sT ty elem : TypeId) (hu : P.underlying dT = some (.slice elem)) (hs : (P.info? elem).map (·.size) = some 1)
    (g off dLen dCap : Nat) (cur : List UInt8) (t : TypeId) (hg : Blk w g t (bcells cur)) (s : ByteArray) (hle : s.size ≤ dLen) (hd : off + dLen ≤ cur.length) :
    (Builtin.copy_ #[dT, sT] ty #[.slice (some ⟨g, off, none⟩) dLen dCap, .string s]).run P w = .ok (.int .i64 (s.size : Int)) (w.setRow g (bcells (splice cur off s.data.toList))) := by
  have hlen : s.data.toList.length = s.size := by simp
  have hst := run_storeCells_at P g off t (s.data.toList.map fun x : UInt8 => Value.int .u8 (x.toNat : Int)) 0 (bcells cur) w hg (by rw [bcells_size]; simp; omega) (by
    intro v hv
    obtain ⟨x, _, rfl⟩ := List.mem_map.1 hv
    rfl)
  have hmin : Nat.min s.size dLen = s.size := Nat.min_eq_left hle
  have htk : List.take s.size (s.data.toList.map fun x : UInt8 => Value.int .u8 (x.toNat : Int)) = s.data.toList.map fun x : UInt8 => Value.int .u8 (x.toNat : Int) := by
    rw [List.take_of_length_le (by rw [List.length_map, hlen]; exact Nat.le_refl _)]
  have e : (List.take (off + 0) (bcells cur).toList ++ (s.data.toList.map fun x : UInt8 => Value.int .u8 (x.toNat : Int)) ++ List.drop (off + 0 + (s.data.toList.map fun x : UInt8 => Value.int .u8 (x.toNat : Int)).length) (bcells cur).toList).toArray = bcells (splice cur off s.data.toList) := by
    simp only [bcells, splice, Nat.add_zero, List.length_map, List.map_append, List.map_take, List.map_drop]
  rw [e] at hst
  obtain ⟨i, hi, _⟩ := Option.map_eq_some_iff.1 hs
  simp [Builtin.copy_, run_underlying hu, Builtin.lenOf, Builtin.firstCells, sizeOf, typeInfo, hi, hmin]
  rw [htk, hst]
  rfl
theorem wpList_copy_text (hgd : Region.wanted o (yielded ops a.tmps) = true) (s x : Operand) (dT sT : TypeId) (ho : o.op = .call { callee := .builtin .copy, args := #[s, x], argTypes := #[dT, sT] }) (elem : TypeId) (hu : P.underlying dT = some (.slice elem)) (hs : (P.info? elem).map (·.size) = some 1)
    (g off dLen dCap : Nat) (cur : List UInt8) (t : TypeId) (hsv : a.eval s = .slice (some ⟨g, off, none⟩) dLen dCap) (hg : Blk w g t (bcells cur)) (d : ByteArray) (hxv : a.eval x = .string d) (hle : d.size ≤ dLen) (hd : off + dLen ≤ cur.length)
    (h : Stop (∀ w', Hid (Only w w' g) → Hid (Blk w' g t (bcells (splice cur off d.data.toList))) → wpList P ops Q rest (a.put o.dst (.int .i64 (d.size : Int))) w')) : wpList P ops Q (o :: rest) a w := by
  refine wpList_wanted hgd fun K hK => ?_
  have hrun := run_copy_text P w dT sT o.type elem hu hs g off dLen dCap cur t hg d hle hd
  unfold Oper.wp execOp
  simp only [ho, resolve, invoke, builtin, Sem.run_bind, Sem.run_pure, Result.andThen_ok, List.map_toArray, List.map_cons, List.map_nil, hsv, hxv, hrun]
  exact hK _ _ (h _ (Only.setRow hg _) (hg.setRow _))

/-- Bytes as a text. -/
theorem run_bytes_text (P : Program) (w : World) (src dst e : TypeId) (hs : P.underlying src = some (.slice e)) (he : P.underlying e = some (.int .u8)) (hd : P.underlying dst = some .string) (ad : Addr) (n c : Nat) (l : List UInt8) (hn : l.length = n) (hr : RB w (some ad) l) :
    (convert src dst (.slice (some ad) n c)).run P w = .ok (.string ⟨l.toArray⟩) w := by
  subst hn
  refine run_convert_bytes_back w src dst e ad c l hs he hd fun j hj => ?_
  obtain ⟨ad', e', hc⟩ := hr j hj
  injection e' with e'
  subst e'
  exact hc
theorem wpList_bytes_text (hgd : Region.wanted o (yielded ops a.tmps) = true) (src dst e : TypeId) (x : Operand) (ho : o.op = .convert src dst x) (hs : P.underlying src = some (.slice e)) (he : P.underlying e = some (.int .u8)) (hd : P.underlying dst = some .string)
    (ad : Addr) (n c : Nat) (hx : a.eval x = .slice (some ad) n c) (l : List UInt8) (hn : l.length = n) (hr : RB w (some ad) l)
    (h : wpList P ops Q rest (a.put o.dst (.string ⟨l.toArray⟩)) w) : wpList P ops Q (o :: rest) a w := by
  refine wpList_wanted hgd fun K hK => ?_
  have hrun := run_bytes_text P w src dst e hs he hd ad n c l hn hr
  unfold Oper.wp execOp
  simp only [ho, hx, Sem.run_bind, Sem.run_pure, Result.andThen_ok, hrun]
  exact hK _ _ h

/-- '!=' on two arrays of bytes. -/
theorem run_neq_bytes (P : Program) (w : World) (t e : TypeId) (n : Nat) (ht : P.underlying t = some (.array n e)) (he : P.underlying e = some (.int .u8)) (hs : (P.info? e).map (·.size) = some 1) (xs ys : List UInt8) (hx : xs.length = n) (hy : ys.length = n) :
    (binOp .neq t (.agg (bcells xs)) (.agg (bcells ys))).run P w = .ok (.bool (!(xs == ys))) w := by
  have h := run_equalIn_bytes (P := P) w 9998 t e n ht he (sizeOf_of hs) xs ys hx hy
  have e1 : (xs.map Extern.Stop.cell).toArray = bcells xs := rfl
  have e2 : (ys.map Extern.Stop.cell).toArray = bcells ys := rfl
  rw [e1, e2] at h
  rw [run_neq_struct, h]
  rfl
theorem wpList_neq_arr (hgd : Region.wanted o (yielded ops a.tmps) = true) (t t' : TypeId) (x y : Operand) (ho : o.op = .binOp .neq t x y t') (hm : P.eqGuardType P.depth t = false) (n e : Nat) (ht : P.underlying t = some (.array n e)) (he : P.underlying e = some (.int .u8)) (hs : (P.info? e).map (·.size) = some 1)
    (xs ys : List UInt8) (hx : a.eval x = .agg (bcells xs)) (hy : a.eval y = .agg (bcells ys)) (hxl : xs.length = n) (hyl : ys.length = n) (r : Bool) (hr : (!(xs == ys)) = r)
    (h : wpList P ops Q rest (a.put o.dst (.bool r)) w) : wpList P ops Q (o :: rest) a w := by
  refine wpList_wanted hgd fun K hK => ?_
  have hrun := run_neq_bytes P w t e n ht he hs xs ys hxl hyl
  rw [hr] at hrun
  unfold Oper.wp execOp
  simp only [ho, hx, hy, Sem.run_bind, run_eqGuard_agg w .neq t x y (bcells xs) (bcells ys) hm, Result.andThen_ok, hrun]
  exact hK _ _ h

/-- The runs of two of these by themselves. -/
theorem exec_neq_arr {o : Oper} (t t' : TypeId) (x y : Operand) (ho : o.op = .binOp .neq t x y t') (hm : P.eqGuardType P.depth t = false) (n e : Nat) (ht : P.underlying t = some (.array n e)) (he : P.underlying e = some (.int .u8)) (hs : (P.info? e).map (·.size) = some 1)
    (xs ys : List UInt8) (hx : a.eval x = .agg (bcells xs)) (hy : a.eval y = .agg (bcells ys)) (hxl : xs.length = n) (hyl : ys.length = n) (r : Bool) (hr : (!(xs == ys)) = r) : (execOp a.eval o).run P w = .ok (.value (.bool r)) w := by
  have hrun := run_neq_bytes P w t e n ht he hs xs ys hxl hyl
  rw [hr] at hrun
  unfold execOp
  simp only [ho, hx, hy, Sem.run_bind, run_eqGuard_agg w .neq t x y (bcells xs) (bcells ys) hm, Result.andThen_ok, hrun]
  rfl
theorem exec_build_zero {o : Oper} (t : TypeId) (ho : o.op = .build t #[]) (cs : Array Value) (hz : (P.info? t).map (·.zero) = some (some (.agg cs))) (n e : Nat) (hu : P.underlying t = some (.array n e)) (he : (P.info? e).map (·.size) = some 1) : (execOp a.eval o).run P w = .ok (.value (.agg cs)) w := by
  unfold execOp
  simp only [ho, Sem.run_bind, List.map_toArray, List.map_nil, run_build_zero P w t cs hz n e hu he, Result.andThen_ok]
  rfl

/-- The first result lies in a block, the second one in a slot. -/
theorem bodyPost_cell_tmp {R : Ending → World → Prop} {fn : Func} {p q : Tmp} {t : TypeId} (hf : fn.results = #[ResultVar.cell p t, ResultVar.tmp q]) (g : Nat) (hp : a.tmps.getD p undef = .pointer (some ⟨g, 0, none⟩)) (t' : TypeId) (cs : Array Value) (hg : Blk w g t' cs)
    (n : Nat) (e : TypeId) (hu : P.underlying t = some (.array n e)) (hi : (P.info? t).map (·.size) = some cs.size) (hd : a.defers = []) (v : Value) (hq : a.tmps.getD q undef = v) (hR : Stop (R (.returned (.tuple #[.agg cs, v])) w)) : bodyPost P fn R .ret a w := by
  refine bodyPost_ret (v := .tuple #[.agg cs, v]) ?_ hd hR
  have hp' : a.tmps[p]?.getD undef = .pointer (some ⟨g, 0, none⟩) := by simpa using hp
  have hq' : a.tmps[q]?.getD undef = v := by simpa using hq
  simp [results, hf, hp', hq', asAddr, run_loadVar_row w g t' t cs (0, 0) _ hg hu rfl hi]
/-- The same of a struct. -/
theorem bodyPost_struct_tmp {R : Ending → World → Prop} {fn : Func} {p q : Tmp} {t : TypeId} (hf : fn.results = #[ResultVar.cell p t, ResultVar.tmp q]) (g : Nat) (hp : a.tmps.getD p undef = .pointer (some ⟨g, 0, none⟩)) (t' : TypeId) (cs : Array Value) (hg : Blk w g t' cs)
    (d : TypeDesc) (hu : P.underlying t = some d) (hd1 : (match d with | .struct _ | .array _ _ => true | _ => false) = true) (hi : (P.info? t).map (·.size) = some cs.size) (hd : a.defers = []) (v : Value) (hq : a.tmps.getD q undef = v) (hR : Stop (R (.returned (.tuple #[.agg cs, v])) w)) : bodyPost P fn R .ret a w := by
  refine bodyPost_ret (v := .tuple #[.agg cs, v]) ?_ hd hR
  have hp' : a.tmps[p]?.getD undef = .pointer (some ⟨g, 0, none⟩) := by simpa using hp
  have hq' : a.tmps[q]?.getD undef = v := by simpa using hq
  simp [results, hf, hp', hq', asAddr, run_loadVar_row w g t' t cs (0, 0) _ hg hu hd1 hi]
end

end Go.Proofs.Ytfhghcodhacneaa
