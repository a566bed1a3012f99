/-
  Contracts of package disk: counted, Read, Write.
-/
import Derived.Test.YtefienjcdchebaaDsk1
namespace Go.Proofs.Ytefienjcdchebaa
open Go.RowKit

theorem Blk.new2 (w : World) (o : Obj) (t : TypeId) (cs : Array Value) : Blk ((w.alloc o).alloc (.cells cs t)) (w.heap.size + 1) t cs := by
  have h := Blk.new (w.alloc o) t cs
  simpa using h
theorem Below.two (w : World) (o o' : Obj) : Below w.heap.size w ((w.alloc o).alloc o') := ((Below.refl _ _).alloc (Nat.le_refl _) o).alloc (by simp) o'

set_option maxHeartbeats 400000 in
/-- Where the power is off, or there is no such block: nothing is done, nothing is counted. -/
theorem counted_not (b k : Nat) (no e : Int) (F : Value) (V : Value) (n : Nat) (off fu : Bool) (fz wr rd c : Int) (A : Option Addr) (cp : Nat) (w : World) (hV : V = .slice A n cp) (hb : Blk w b 56 (dcells V off fu fz wr rd)) (hk : (dcells V off fu fz wr rd)[k]? = some (.int .i64 c)) (h0 : 0 ≤ c) (h1 : c < 4611686018427387904)
    (he : (off = true ∧ e = 12) ∨ (off = false ∧ no < 0 ∧ e = 2) ∨ (off = false ∧ 0 ≤ no ∧ (n : Int) ≤ no ∧ e = 2)) :
    Calls Try.prog 24 #[.pointer (some ⟨b, 0, none⟩), .pointer (some ⟨b, k, none⟩), .int .i64 no, F] w fun r w' => r = .returned (.int .i64 e) ∧ Below w.heap.size w w' := by
  subst hV
  have hmf : ∀ (fn : Fn) (first cap : Array Value) (w : World), (Instr.makeFunc fn first cap).run Try.prog w = .ok (.func fn first cap) w := fun _ _ _ _ => rfl
  have hlt := hb.lt
  have HB := Lib.hid hb
  have HK := Lib.hid hk
  have c0 := hb.cell 0
  have c1 := hb.cell 1
  simp only [dcells, List.getElem?_toArray, List.getElem?_cons_zero, List.getElem?_cons_succ] at c0 c1
  clear hb hk
  go_enter_defers Try.func24, Try.ntmps24
  rcases he with ⟨rfl, rfl⟩ | ⟨rfl, h2, rfl⟩ | ⟨rfl, h2, h3, rfl⟩
  focus go_wp2_with fail
  rotate_left
  focus (
    have d1 : decide (no < 0) = true := decide_eq_true h2
    go_wp2_with fail)
  rotate_left
  focus (
    have d1 : decide (no < 0) = false := decide_eq_false (by omega)
    have d2 : decide ((n : Int) ≤ no) = true := decide_eq_true h3
    go_wp2_with fail)
  rotate_left
  all_goals
    refine leaves_cons (f := 28) (args := #[.pointer (some ⟨w.heap.size + 1, 0, none⟩), .pointer (some ⟨w.heap.size, 0, none⟩)]) (by simp) (by simp [go_sem]) ?_
    refine (tick_any (w.heap.size + 1) w.heap.size b k _ c _ _ _ _ .returning _ (Blk.new2 _ _ _ _) ((Blk.new _ _ _).alloc _) ((HB.out.alloc _).alloc _) HK.out h0 h1).mono ?_
    rintro _ _ w2 ⟨rfl, rfl, -, -, hw⟩
    obtain rfl := hw (by decide)
    simp [Leaves, settle, results, Try.results24, go_sem]
    exact Below.two _ _ _

set_option maxHeartbeats 400000 in
/-- Where there is such a block: it is done, and counted, if it answered OK. -/
theorem counted_do (b g k : Nat) (i n cp : Nat) (F : FuncId) (caps : Array Value) (fu : Bool) (fz wr rd c r : Int) (A : Option Addr) (C : Array Value → Prop) (X : World → Prop) (w : World) (hb : Blk w b 56 (dcells (.slice A n cp) false fu fz wr rd)) (hi : i < n) (h0 : 0 ≤ c) (h1 : c < 4611686018427387904)
    (hcf : ∀ (args : Array Value) (w : World), (callFunc F args).run Try.prog w = .ok (.enter F args) w) (hbg : b < w.heap.size ∧ g < w.heap.size) (hk : ∀ cs, C cs → cs[k]? = some (.int .i64 c))
    (hdo : ∀ w1, Below w.heap.size w w1 → Calls Try.prog F caps w1 fun e w2 => e = .returned (.int .i64 r) ∧ Turn w1 w2 b g ∧ (∃ cs, C cs ∧ Blk w2 b 56 cs) ∧ X w2)
    (hX : ∀ w2 w3 x, (x = b ∨ w.heap.size ≤ x) → Only w2 w3 x → X w2 → X w3) :
    Calls Try.prog 24 #[.pointer (some ⟨b, 0, none⟩), .pointer (some ⟨b, k, none⟩), .int .i64 (i : Int), .func (.func F) #[] caps] w fun e w' =>
      e = .returned (.int .i64 r) ∧ Turn w w' b g ∧ (∃ cs, C cs ∧ Blk w' b 56 (ticked r k c cs)) ∧ X w' := by
  have hmf : ∀ (fn : Fn) (first cap : Array Value) (w : World), (Instr.makeFunc fn first cap).run Try.prog w = .ok (.func fn first cap) w := fun _ _ _ _ => rfl
  have hlt := hb.lt
  have c0 := hb.cell 0
  have c1 := hb.cell 1
  simp only [dcells, List.getElem?_toArray, List.getElem?_cons_zero, List.getElem?_cons_succ] at c0 c1
  have Hr := Lib.hid hbg
  have HK := Lib.hid hk
  have z1 : decide ((i : Int) < 0) = false := decide_eq_false (by omega)
  have z2 : decide ((n : Int) ≤ (i : Int)) = false := decide_eq_false (by omega)
  have z3 : decide (n ≤ i) = false := decide_eq_false (by omega)
  clear hb hk hbg
  go_enter_defers Try.func24, Try.ntmps24
  go_wp2_with fail
  refine (hdo _ (Below.two w _ _)).mono ?_
  rintro _ w2 ⟨rfl, ht, ⟨cs, hcs, hb2⟩, hx2⟩
  have Hcs := Lib.hid hcs
  clear hcs
  have He0 := (Blk.new2 w (.cells #[.pointer (some ⟨b, k, none⟩)] 59) 43 #[.int .i64 0]).turn ht (by have := Hr.out; omega) (by have := Hr.out; omega)
  have Hc0 := ((Blk.new w 59 #[.pointer (some ⟨b, k, none⟩)]).alloc (.cells #[.int .i64 0] 43)).turn ht (by have := Hr.out; omega) (by have := Hr.out; omega)
  have T2 := (Turn.of_below (Below.two w (.cells #[.pointer (some ⟨b, k, none⟩)] 59) (.cells #[.int .i64 0] 43)) b g).trans ht
  have Hb2 := Lib.hid hb2
  clear hb2 ht
  go_wp2_with (refine wpList_store_cell rfl _ _ _ rfl Try.errSize _ _ rfl (.int .i64 r) rfl rfl rfl _ _ He0 (by simp) ?_)
  apply Stop.go; intro w3 Ho3 He3
  have Hc3 := Hc0.only Ho3.out (by omega)
  have Hb3 := Hb2.out.only Ho3.out (by have := Hr.out; omega)
  have T3 := T2.new Ho3.out (by omega)
  have X3 := hX _ _ _ (Or.inr (by omega)) Ho3.out hx2
  go_wp2_with fail
  refine leaves_cons (f := 28) (args := #[.pointer (some ⟨w.heap.size + 1, 0, none⟩), .pointer (some ⟨w.heap.size, 0, none⟩)]) (by simp) (by simp [go_sem]) ?_
  refine (tick_any (w.heap.size + 1) w.heap.size b k r c _ _ _ _ .returning _ He3.out Hc3 Hb3 (HK.out cs Hcs.out) h0 h1).mono ?_
  rintro _ _ w4 ⟨rfl, rfl, ho4, hb4, -⟩
  have c4 := (He3.out.only ho4 (by have := Hr.out; omega)).cell 0
  simp only [List.getElem?_toArray, List.getElem?_cons_zero] at c4
  simp [Leaves, settle, results, Try.results24, go_sem, c4]
  exact ⟨T3.trans (Turn.of_only ho4 g), ⟨cs, Hcs.out, hb4⟩, hX _ _ _ (Or.inl rfl) ho4 X3⟩

end Go.Proofs.Ytefienjcdchebaa
