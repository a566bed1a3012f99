/-
  Texts of this claim joined: TxtA, NamL.
-/
import Derived.Test.YtkakihbfhmiabaaGreatPatO
import Derived.Test.YtkakihbfhmiabaaGreatGrAF
import Derived.Test.YtkakihbfhmiabaaGreatGrAE

/-
  A constant text as bytes, within a drawn region: its four bytes built, then marked. Plain; no program is named here.
-/
namespace Go.Proofs.YtkakihbfhmiabaaGreat
open Go.RowKit

section
variable {P : Program} {o : Oper} {a : Act} {w : World} {Q : Exit → Act → World → Prop} {K : Act → World → Prop}

theorem run_build4 (P : Program) (w : World) (t e : TypeId) (ht : P.underlying t = some (.slice e)) (z : Value) (by_ : Nat) (hi : (P.info? e).map (fun i => (i.zero, i.size, i.bytes)) = some (some z, 1, by_)) (b0 b1 b2 b3 : UInt8) :
    (Instr.buildSlice t 4 #[(0, .int .u8 (b0.toNat : Int)), (1, .int .u8 (b1.toNat : Int)), (2, .int .u8 (b2.toNat : Int)), (3, .int .u8 (b3.toNat : Int))]).run P w = .ok (.slice (some ⟨w.heap.size, 0, none⟩) 4 4) (w.alloc (.cells (bcells [b0, b1, b2, b3]) e)) := by
  obtain ⟨i, h1, h2, h3, h4⟩ := info_parts hi
  have hf : Instr.fill (fun i => some (i * 1, 1)) ((Array.range 4).map (z.cells[· % z.cells.size]!)) [(0, .int .u8 (b0.toNat : Int)), (1, .int .u8 (b1.toNat : Int)), (2, .int .u8 (b2.toNat : Int)), (3, .int .u8 (b3.toNat : Int))] = some (bcells [b0, b1, b2, b3]) := by
    have hsz : ((Array.range 4).map (z.cells[· % z.cells.size]!)).size = 4 := by simp
    generalize (Array.range 4).map (z.cells[· % z.cells.size]!) = cs at hsz
    obtain ⟨l⟩ := cs
    match l, hsz with
    | [c0, c1, c2, c3], _ => simp [Instr.fill, Value.cells, bcells]
  exact run_buildSlice w t e 4 _ _ i z ht h1 h2 (by rw [h3]; decide) (by rw [h3]; decide) (by rw [h3]; exact hf)
theorem ow_build4 (t e : TypeId) (x0 x1 x2 x3 : Operand) (ho : o.op = .buildSlice t 4 #[(0, x0), (1, x1), (2, x2), (3, x3)]) (ht : P.underlying t = some (.slice e)) (z : Value) (by_ : Nat) (hi : (P.info? e).map (fun i => (i.zero, i.size, i.bytes)) = some (some z, 1, by_)) (b0 b1 b2 b3 : UInt8)
    (h0 : a.eval x0 = .int .u8 (b0.toNat : Int)) (h1 : a.eval x1 = .int .u8 (b1.toNat : Int)) (h2 : a.eval x2 = .int .u8 (b2.toNat : Int)) (h3 : a.eval x3 = .int .u8 (b3.toNat : Int))
    (h : Stop (∀ w', Hid (Grew w w') → Hid (Blk w' w.heap.size e (bcells [b0, b1, b2, b3])) → K (a.put o.dst (.slice (some ⟨w.heap.size, 0, none⟩) 4 4)) w')) : o.wp P a w K Q := by
  unfold Oper.wp execOp
  simp only [ho, h0, h1, h2, h3, Sem.run_bind, List.map_toArray, List.map_cons, List.map_nil, run_build4 P w t e ht z by_ hi b0 b1 b2 b3, Result.andThen_ok]
  exact h _ (Grew.alloc w _) (Blk.new w e _)

theorem run_conv_text (P : Program) (w : World) (t e : TypeId) (ht : P.underlying t = some (.slice e)) (he : P.underlying e = some (.int .u8)) (l : List UInt8) (g n c : Nat) (hg : Blk w g e (bcells l)) :
    ∃ w', (convert t t (.slice (some ⟨g, 0, none⟩) n c)).run P w = .ok (.slice (some ⟨g, 0, none⟩) n c) w' ∧ Only w w' g ∧ RB w' (some ⟨g, 0, none⟩) l := by
  have hg' : w.heap[g]? = some (.cells (bcells l) e (0, 0)) := hg
  have hsh : w.shape? g = some (e, (bcells l).size) := by
    unfold World.shape?
    rw [hg']
  refine ⟨w.freeze ⟨g, (bcells l).size, none⟩ 1, ?_, ?_, ?_⟩
  · simp [convert, run_underlying ht, run_underlying he, markStringish, hsh]
  · unfold World.freeze
    rw [if_neg (by decide)]
    exact ⟨rfl, rfl, rfl, by simp, fun k hk => by simp [Array.getElem?_modify, Ne.symm hk]⟩
  · intro k hk
    refine ⟨_, rfl, ?_⟩
    have e1 : (⟨g, 0, none⟩ : Addr).add k = ⟨g, k, none⟩ := by unfold Addr.add; split <;> simp_all
    have hb := bcells_get l k
    rw [List.getElem?_eq_getElem hk] at hb
    rw [e1]
    unfold World.freeze
    rw [if_neg (by decide)]
    simp [World.cell?, Array.getElem?_modify, hg', hb]
theorem ow_conv_text (t e : TypeId) (x : Operand) (ho : o.op = .convert t t x) (ht : P.underlying t = some (.slice e)) (he : P.underlying e = some (.int .u8)) (l : List UInt8) (g n c : Nat) (hx : a.eval x = .slice (some ⟨g, 0, none⟩) n c) (hg : Blk w g e (bcells l))
    (h : Stop (∀ w', Hid (Only w w' g) → Hid (RB w' (some ⟨g, 0, none⟩) l) → K (a.put o.dst (.slice (some ⟨g, 0, none⟩) n c)) w')) : o.wp P a w K Q := by
  obtain ⟨w', hrun, h1, h2⟩ := run_conv_text P w t e ht he l g n c hg
  unfold Oper.wp execOp
  simp only [ho, hx, Sem.run_bind, Sem.run_pure, Result.andThen_ok, hrun]
  exact h w' h1 h2
end

end Go.Proofs.YtkakihbfhmiabaaGreat

/-
  Contracts of package name's Less, and of the document's.
-/
namespace Go.Proofs.YtkakihbfhmiabaaGreat
open Go.RowKit

set_option maxHeartbeats 400000 in
theorem nless_any (a b : ByteArray) (w : World) :
    Calls Tryz.prog 141 #[.string a, .string b] w fun e w' => e = .returned (.bool (ltS a b)) ∧ w = w' := by
  go_enter Tryz.func141, Tryz.ntmps141
  go_wp2_with fail
  go_ret
  exact ⟨rfl, rfl⟩

theorem less_zero (a b : ByteArray) : Op.bytesLess (a.data.toList.drop 0) (b.data.toList.drop 0) = ltS a b := by
  unfold ltS
  rw [ByteArray.toList_eq, ByteArray.toList_eq]
  rfl
theorem less_same (a b : ByteArray) (k : Nat) (ha : k < a.size) (hb : k < b.size) (h : ((a[k].toNat : Int) != (b[k].toNat : Int)) = false) :
    Op.bytesLess (a.data.toList.drop k) (b.data.toList.drop k) = Op.bytesLess (a.data.toList.drop (k + 1)) (b.data.toList.drop (k + 1)) := by
  have e : a[k] = b[k] := by
    apply UInt8.toNat_inj.1
    have : (a[k].toNat : Int) = b[k].toNat := by simpa using h
    omega
  rw [less_step _ _ k (by simpa using ha) (by simpa using hb)]
  have e1 : a.data.toList[k]'(by simpa using ha) = a[k] := rfl
  have e2 : b.data.toList[k]'(by simpa using hb) = b[k] := rfl
  rw [e1, e2, e]
  simp [UInt8.lt_irrefl]
theorem less_other (a b : ByteArray) (k : Nat) (ha : k < a.size) (hb : k < b.size) (h : ((a[k].toNat : Int) != (b[k].toNat : Int)) = true) :
    Op.bytesLess (a.data.toList.drop k) (b.data.toList.drop k) = decide (a[k].toNat < b[k].toNat) := by
  rw [less_step _ _ k (by simpa using ha) (by simpa using hb)]
  have e1 : a.data.toList[k]'(by simpa using ha) = a[k] := rfl
  have e2 : b.data.toList[k]'(by simpa using hb) = b[k] := rfl
  have hne : (a[k] == b[k]) = false := by
    rw [beq_eq_false_iff_ne]
    intro e
    rw [e] at h
    simp at h
  rw [e1, e2, hne, Bool.false_and, Bool.or_false]
  rw [decide_eq_decide, UInt8.lt_iff_toNat_lt]
set_option maxHeartbeats 800000 in
theorem rless_any (a b : ByteArray) (ha : a.size ≤ maxLen) (_hb : b.size ≤ maxLen) (w : World) :
    Calls Tryz.prog 58 #[.string a, .string b] w (RetQ (.bool (ltS a b)) w) := by
  unfold maxLen at ha
  have H0 := Lib.hid (less_zero a b)
  go_enter Tryz.func58, Tryz.ntmps58
  go_wp2_with fail
  go_loopw [5] (fun i wr => ∃ k : Nat, k ≤ a.size ∧ k ≤ b.size ∧ i = .int .i64 k ∧ Op.bytesLess (a.data.toList.drop k) (b.data.toList.drop k) = ltS a b ∧ ∃ m, wr = w.drewN m) (fun i _ => a.size - (intOf i).toNat)
  case atStart => exact ⟨0, Nat.zero_le _, Nat.zero_le _, rfl, H0.out, 0, rfl⟩
  case round =>
    obtain ⟨k, hka, hkb, rfl, hrest, m, rfl⟩ := hrel
    have HR := Lib.hid hrest
    clear hrest
    by_cases h1 : k < a.size
    · have d1 : decide ((k : Int) < a.size) = true := by simpa using h1
      by_cases h2 : k < b.size
      · have d2 : decide ((k : Int) < b.size) = true := by simpa using h2
        have g1 := (a[k]).toNat_lt
        have g2 := (b[k]).toNat_lt
        cases hx : ((a[k].toNat : Int) != (b[k].toNat : Int))
        · have HN := Lib.hid (less_same a b k h1 h2 hx)
          go_wp2_with fail
          go_quiet (fail)
          go_wp2_with fail
          go_roundw
          case rel =>
            refine ⟨k + 1, by omega, by omega, by go_num, by rw [← HN.out]; exact HR.out, m + nq, ?_⟩
            first | rfl | simp only [World.drewN_drewN]
          case measure => simp [intOf]; omega
        · have HN := Lib.hid (less_other a b k h1 h2 hx)
          go_wp2_with fail
          go_quiet (fail)
          go_wp2_with fail
          go_quiet (fail)
          go_wp2_with fail
          go_ret
          refine ⟨?_, ?_⟩
          · rw [← HR.out, HN.out]
            rfl
          · rw [World.drewN_drewN, World.drewN_drewN]
            exact ⟨_, rfl⟩
      · have d2 : decide ((k : Int) < b.size) = false := by simpa using h2
        have HN := Lib.hid (less_end a.data.toList b.data.toList k (Or.inr (by simp; omega)) (by simpa using hka) (by simpa using hkb))
        go_wp2_with fail
        go_ret
        refine ⟨?_, m, rfl⟩
        rw [← HR.out, HN.out]
        simp
    · have d1 : decide ((k : Int) < a.size) = false := by simpa using h1
      have HN := Lib.hid (less_end a.data.toList b.data.toList k (Or.inl (by simp; omega)) (by simpa using hka) (by simpa using hkb))
      go_wp2_with fail
      go_ret
      refine ⟨?_, m, rfl⟩
      rw [← HR.out, HN.out]
      simp

end Go.Proofs.YtkakihbfhmiabaaGreat
