/-
  Contracts of package ready's Find, Of.
-/
import Derived.Test.YtmcinaigkjfehaaCg9
import Derived.Test.YtmcinaigkjfehaaGr5
import Derived.Test.YtmcinaigkjfehaaLw9a
namespace Go.Proofs.Ytmcinaigkjfehaa
open Go.RowKit

section
variable {P : Program} {ops : Array Oper} {rest : List Oper} {o : Oper} {a : Act} {w : World} {Q : Exit → Act → World → Prop}
theorem bodyPost_struct_tmp {R : Ending → World → Prop} {fn : Func} {p q : Tmp} {t : TypeId} (hf : fn.results = #[ResultVar.cell p t, ResultVar.tmp q]) (g : Nat) (hp : a.tmps.getD p undef = .pointer (some ⟨g, 0, none⟩)) (t' : TypeId) (cs : Array Value) (hg : Blk w g t' cs)
    (d : TypeDesc) (hu : P.underlying t = some d) (hd1 : (match d with | .struct _ | .array _ _ => true | _ => false) = true) (hi : (P.info? t).map (·.size) = some cs.size) (hd : a.defers = []) (v : Value) (hq : a.tmps.getD q undef = v) (hR : Stop (R (.returned (.tuple #[.agg cs, v])) w)) : bodyPost P fn R .ret a w := by
  refine bodyPost_ret (v := .tuple #[.agg cs, v]) ?_ hd hR
  have hp' : a.tmps[p]?.getD undef = .pointer (some ⟨g, 0, none⟩) := by simpa using hp
  have hq' : a.tmps[q]?.getD undef = v := by simpa using hq
  simp [results, hf, hp', hq', asAddr, run_loadVar_row w g t' t cs (0, 0) _ hg hu hd1 hi]
end
set_option maxHeartbeats 400000 in
theorem fnd1_any (c : Cg) (Ad : Option Addr) (nd cd : Nat) (An : Option Addr) (nn cn : Nat) (b : Nat) (t : TypeId) (id : Int) (w : World) (hb : Blk w b t #[.int .i64 id]) :
    Calls Try.prog 48 #[.agg #[.int .i64 c.id, .int .i64 c.block, .int .i64 c.p.at_, .slice Ad nd cd, .slice An nn cn], .pointer (some ⟨b, 0, none⟩)] w fun e w' => e = .returned (.bool (c.id == id)) ∧ Below w.heap.size w w' := by
  have Hb := Lib.hid hb
  clear hb
  go_enter Try.func48, Try.ntmps48
  go_wp2_with (refine wpList_box_row rfl _ _ rfl _ rfl ?_)
  apply Stop.go; intro w1 Hg1 Hb1
  have c0 : w1.cell? ⟨w.heap.size, 0, none⟩ = some (.int .i64 c.id) := Hb1.out.five.1
  have c1 : w1.cell? ⟨b, 0, none⟩ = some (.int .i64 id) := (Hb.out.ext Hg1.out.1).cell 0
  go_wp2_with fail
  go_ret
  exact ⟨rfl, Hg1.out.1⟩
/-- The first of an ID, or that there is none. -/
def RetIdx (l : List Cg) (x : Int) (w : World) (e : Ending) (w' : World) : Prop := Below w.heap.size w w' ∧ ((∃ k : Nat, ∃ h : k < l.length, e = .returned (.int .i64 k) ∧ l[k].id = x ∧ ∀ j (h : j < l.length), j < k → l[j].id ≠ x) ∨ (e = .returned (.int .i64 (-1)) ∧ ∀ c ∈ l, c.id ≠ x))
set_option maxRecDepth 100000 in
set_option maxHeartbeats 1600000 in
theorem idxc_any (A : Option Addr) (n cap : Nat) (l : List Cg) (hn : l.length = n) (hm : n ≤ 4096) (b : Nat) (t : TypeId) (id : Int) (w : World) (hr : RdL RdC w A 5 l) (hb : Blk w b t #[.int .i64 id]) :
    Calls Try.prog 47 #[.slice A n cap, .func (.func 48) #[] #[.pointer (some ⟨b, 0, none⟩)]] w (RetIdx l id w) := by
  have Hn := Lib.hid hn
  have Hr := Lib.hid hr
  have Hb := Lib.hid hb
  clear hn hr hb
  go_enter Try.func47, Try.ntmps47
  go_wp2_with fail
  go_loopw [8] (fun i wr => ∃ k : Nat, k ≤ n ∧ i = .int .i64 k ∧ (∀ j (h : j < l.length), j < k → l[j].id ≠ id) ∧ Below w.heap.size w wr) (fun i _ => n - (intOf i).toNat)
  case atStart => exact ⟨0, Nat.zero_le _, rfl, fun j _ h => absurd h (Nat.not_lt_zero _), Below.refl _ _⟩
  case round =>
    obtain ⟨k, hk, rfl, hno, hbw⟩ := hrel
    have Hno := Lib.hid hno
    have Hbw := Lib.hid hbw
    clear hno hbw
    by_cases hlt : k < n
    · have d0 : decide ((k : Int) < n) = true := by simpa using hlt
      have hkl : k < l.length := by rw [Hn.out]; exact hlt
      have z1 : (k : Int) < n := by omega
      obtain ⟨ad, Ad, nd, cd, An, nn, cn, rfl, hcv, h0, h1, h2, h3, h4⟩ := (Hr.out.below Hbw.out).cg hkl
      have C0 := Lib.hid h0
      have C1 := Lib.hid h1
      have C2 := Lib.hid h2
      have C3 := Lib.hid h3
      have C4 := Lib.hid h4
      clear h0 h1 h2 h3 h4 hcv
      have HK := Lib.hid (show (l[k].id == id) = true → (∃ k' : Nat, ∃ h : k' < l.length, (k' : Int) = k ∧ l[k'].id = id ∧ ∀ j (h : j < l.length), j < k' → l[j].id ≠ id) from fun h => ⟨k, hkl, rfl, by simpa using h, Hno.out⟩)
      have HK2 := Lib.hid (show (l[k].id == id) = false → ∀ j (h : j < l.length), j < k + 1 → l[j].id ≠ id from fun h j hj hjk => by
        by_cases hc : j = k
        · subst hc; simpa using h
        · exact Hno.out j hj (by omega))
      generalize l[k] = c at *
      go_wp2_with (refine wpList_load_five rfl _ _ rfl (ad.add (k * 5)) rfl _ _ _ _ _ C0.out C1.out C2.out C3.out C4.out _ Try.underlying50 Try.chgSize ?_)
      refine (fnd1_any c Ad nd cd An nn cn b t id _ (Hb.out.ext Hbw.out)).mono ?_; rintro e w2 ⟨rfl, hb2⟩
      have Hb2 := Lib.hid (bt Hbw.out hb2)
      clear hb2
      cases he : (c.id == id)
      · have HX := Lib.hid (HK2.out he)
        clear he
        go_wp2_with fail
        go_roundw
        case rel => exact ⟨k + 1, by omega, by go_num, HX.out, Hb2.out⟩
        case measure => simp [intOf]; omega
      · have HX := Lib.hid (HK.out he)
        clear he
        go_wp2_with fail
        go_ret
        obtain ⟨k', h, e1, e2, e3⟩ := HX.out
        exact ⟨Hb2.out, Or.inl ⟨k', h, by rw [e1]; rfl, e2, e3⟩⟩
    · have d0 : decide ((k : Int) < n) = false := by simpa using hlt
      go_wp2_with fail
      go_ret
      exact ⟨Hbw.out, Or.inr ⟨rfl, fun c hc => by
        obtain ⟨j, hj, rfl⟩ := List.getElem_of_mem hc
        exact Hno.out j hj (by have := Hn.out; omega)⟩⟩

/-- A result that is a change and whether there is one. -/
def RetF (w : World) (f : Option Cg) (e : Ending) (w' : World) : Prop := ∃ c Ad nd cd An nn cn, c = f.getD default ∧ e = .returned (.tuple #[.agg #[.int .i64 c.id, .int .i64 c.block, .int .i64 c.p.at_, .slice Ad nd cd, .slice An nn cn], .bool f.isSome]) ∧ CV w' c Ad nd cd An nn cn ∧ (∀ ad, Ad = some ad → w.heap.size ≤ ad.block) ∧ (∀ ad, An = some ad → w.heap.size ≤ ad.block) ∧ Below w.heap.size w w'
theorem findC_at {l : List Cg} {id : Int} {k : Nat} (hk : k < l.length) (h : l[k].id = id) (hb : ∀ j (h : j < l.length), j < k → l[j].id ≠ id) : findC l id = some l[k] := by
  unfold findC
  rw [splitId_at hk h (fun j hj => hb j (by omega) hj)]
  rfl
theorem findC_none {l : List Cg} {id : Int} (h : ∀ c ∈ l, c.id ≠ id) : findC l id = none := by
  unfold findC
  rw [splitId_none.2 h]
  rfl

set_option maxRecDepth 100000 in
set_option maxHeartbeats 4000000 in
theorem pfind_any (A : Option Addr) (n cap : Nat) (l : List Cg) (hn : l.length = n) (hm : n ≤ 4096) (hD : ∀ c ∈ l, c.p.data.length ≤ 4096 ∧ c.needs.length ≤ 4096) (id : Int) (w : World) (hr : RdL RdC w A 5 l) :
    Calls Try.prog 26 #[.slice A n cap, .int .i64 id] w (RetF w (findC l id)) := by
  have hmf : ∀ (fn : Fn) (first cap : Array Value) (w : World), (Instr.makeFunc fn first cap).run Try.prog w = .ok (.func fn first cap) w := fun _ _ _ _ => rfl
  have Hn := Lib.hid hn
  have Hr := Lib.hid hr
  have HDD := Lib.hid hD
  obtain ⟨F, hF⟩ : ∃ F, findC l id = F := ⟨_, rfl⟩
  rw [hF]
  have HF := Lib.hid hF
  clear hn hr hD hF
  go_enter Try.func26, Try.ntmps26
  go_wp2_with (refine wpList_box_one rfl _ _ rfl (.int .i64 id) rfl rfl ?_)
  apply Stop.go; intro w1 Hg1 Hb1
  go_wp2_with (refine wpList_alloc_row rfl _ rfl _ Try.chgZero ?_)
  apply Stop.go; intro w2 Hg2 Hb2
  have Hw2 := Lib.hid (bt Hg1.out.1 Hg2.out.1)
  have Z := Lib.hid (show w1.heap.size = w.heap.size + 1 ∧ w2.heap.size = w1.heap.size + 1 from ⟨Hg1.out.2, Hg2.out.2⟩)
  go_wp2_with fail
  refine (idxc_any A n cap l Hn.out hm w.heap.size _ id _ (Hr.out.below Hw2.out) (Hb1.out.ext Hg2.out.1)).mono ?_; rintro e w3 ⟨hb3, hk⟩
  have Hy3 := Lib.hid (Hb2.out.ext hb3)
  have Hw3 := Lib.hid (bt Hw2.out hb3)
  have Z3 := Lib.hid hb3.size
  clear hb3
  rcases hk with ⟨k, hkl, rfl, hid, hno⟩ | ⟨rfl, hno⟩
  · have HE := Lib.hid (HF.out.symm.trans (findC_at hkl hid hno))
    have hd := HDD.out l[k] (List.getElem_mem hkl)
    obtain ⟨ad, Ad, nd, cd, An, nn, cn, rfl, hcv, h0, h1, h2, h3, h4⟩ := (Hr.out.below Hw3.out).cg hkl
    rw [hcv.p.len, hcv.len] at hd
    have C0 := Lib.hid h0
    have C1 := Lib.hid h1
    have C2 := Lib.hid h2
    have C3 := Lib.hid h3
    have C4 := Lib.hid h4
    have Hcv := Lib.hid hcv
    have HDk := Lib.hid hd
    have z1 : (k : Int) < n := by have := Hn.out; omega
    have dk : decide ((k : Int) < 0) = false := decide_eq_false (by omega)
    clear h0 h1 h2 h3 h4 hcv hid hno hd
    generalize l[k] = c at *
    clear hkl
    go_wp2_with (refine wpList_load_five rfl _ _ rfl (ad.add (k * 5)) rfl _ _ _ _ _ C0.out C1.out C2.out C3.out C4.out _ Try.underlying50 Try.chgSize ?_)
    refine (copied_any c Ad nd cd An nn cn HDk.out.1 HDk.out.2 _ Hcv.out).mono ?_; rintro e w4 ⟨Ad4, nd4, cd4, An4, nn4, cn4, rfl, hcv4, f4, g4, hb4⟩
    have Hcv4 := Lib.hid hcv4
    have Hf4 := Lib.hid (And.intro f4 g4)
    have Hy4 := Lib.hid (Hy3.out.ext hb4)
    have Hw4 := Lib.hid (bt Hw3.out hb4)
    clear hcv4 f4 g4 hb4
    go_wp2_with (refine wpList_store_arr rfl _ _ _ rfl _ #[.int .i64 c.id, .int .i64 c.block, .int .i64 c.p.at_, .slice Ad4 nd4 cd4, .slice An4 nn4 cn4] rfl rfl _ _ Hy4.out Try.chgSize rfl (by simp [Value.oneCell']) ?_)
    apply Stop.go; intro w5 Ho5 Hb5
    go_wp2_with ((with_reducible show bodyPost _ _ _ _ _ _); refine bodyPost_struct_tmp rfl _ rfl _ _ Hb5.out _ Try.underlying50 rfl Try.chgSize rfl _ rfl ?_)
    apply Stop.go
    have hs := Hw3.out.size
    have hz := Z.out
    have hz3 := Z3.out
    exact ⟨c, Ad4, nd4, cd4, An4, nn4, cn4, by rw [HE.out]; rfl, by rw [HE.out]; rfl, Hcv4.out.only Ho5.out (fun ad e => by have := Hf4.out.1 ad e; omega) (fun ad e => by have := Hf4.out.2 ad e; omega), fun ad e => by have := Hf4.out.1 ad e; omega, fun ad e => by have := Hf4.out.2 ad e; omega, bonly Hw4.out Ho5.out (by omega)⟩
  · have HE := Lib.hid (HF.out.symm.trans (findC_none hno))
    clear hno
    go_wp2_with (refine wpList_store_arr rfl _ _ _ rfl _ #[.int .i64 0, .int .i64 0, .int .i64 0, .slice none 0 0, .slice none 0 0] rfl rfl _ _ Hy3.out Try.chgSize rfl (by simp [Value.oneCell']) ?_)
    apply Stop.go; intro w5 Ho5 Hb5
    go_wp2_with ((with_reducible show bodyPost _ _ _ _ _ _); refine bodyPost_struct_tmp rfl _ rfl _ _ Hb5.out _ Try.underlying50 rfl Try.chgSize rfl _ rfl ?_)
    apply Stop.go
    have hz := Z.out
    exact ⟨default, none, 0, 0, none, 0, 0, by rw [HE.out]; rfl, by rw [HE.out]; rfl, ⟨by decide, by decide, by decide, by decide, ⟨by decide, by decide, rfl, Nat.le_refl _, by unfold maxLen; omega, RB.nil_ _ _⟩, rfl, Nat.le_refl _, by unfold maxLen; omega, RC.nil_ _ _, fun z hz => by cases hz⟩, fun ad e => (by cases e), fun ad e => (by cases e), bonly Hw3.out Ho5.out (by omega)⟩

end Go.Proofs.Ytmcinaigkjfehaa
