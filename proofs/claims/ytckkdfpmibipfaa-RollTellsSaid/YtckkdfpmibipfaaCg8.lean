/-
  The contract of package ready's Ready.
-/
import Derived.Test.YtckkdfpmibipfaaCg6
import Derived.Test.YtckkdfpmibipfaaCg7
import Derived.Test.YtckkdfpmibipfaaCg5
namespace Go.Proofs.Ytckkdfpmibipfaa
open Go.RowKit

theorem Try.sliceIntSize : (Try.prog.info? 30).map (·.size) = some 1 := by kernel_rfl
section
variable {P : Program} {ops : Array Oper} {rest : List Oper} {o : Oper} {a : Act} {w : World} {Q : Exit → Act → World → Prop}
/-- A cut of a slice of one-cell values. -/
theorem wpList_slice_sl (hgd : Region.wanted o (yielded ops a.tmps) = true) (t : TypeId) (x lo hi : Operand) (ho : o.op = .slice t x (some lo) (some hi) none) (e : TypeId) (hu : P.underlying t = some (.slice e)) (hs : (P.info? e).map (·.size) = some 1)
    (g n c : Nat) (hx : a.eval x = .slice (some ⟨g, 0, none⟩) n c) (kl kh : IntKind) (L H : Int) (hlo : a.eval lo = .int kl L) (hhi : a.eval hi = .int kh H) (l h : Nat) (hL : L = l) (hH : H = h) (h1 : l ≤ h) (h2 : h ≤ c) (h3 : l < c)
    (k : wpList P ops Q rest (a.put o.dst (.slice (some ⟨g, l, none⟩) (h - l) (c - l))) w) : wpList P ops Q (o :: rest) a w := by
  refine wpList_wanted hgd fun K hK => ?_
  subst hL; subst hH
  have hel : P.elem t = e := by simp [Program.elem, hu]
  have hr : (Instr.slice t (.slice (some ⟨g, 0, none⟩) n c) (some (.int kl (l : Int))) (some (.int kh (h : Int))) none).run P w = .ok (.slice (some ⟨g, l, none⟩) (h - l) (c - l)) w := by
    rw [run_slice_lh w t _ _ _ (by rw [hel]; exact hu) kl kh l h (by omega) (by omega) (by omega), hel, sizeOf_of hs]
    simp only [Result.andThen, sliced, Int.toNat_natCast, Option.map_some, Nat.mul_one]
    rw [if_neg (by omega), addr_add0]
  unfold Oper.wp execOp
  simp only [ho, hx, hlo, hhi, Sem.run_bind, Sem.run_pure, Result.andThen_ok, Option.map_some, Option.map_none, Instr.sliceAt, run_underlying hu, hr]
  exact hK _ _ k
end

section
variable {P : Program} {ops : Array Oper} {rest : List Oper} {o : Oper} {a : Act} {w : World} {Q : Exit → Act → World → Prop}
/-- A variable of one cell. -/
theorem wpList_alloc_one (hgd : Region.wanted o (yielded ops a.tmps) = true) (t : TypeId) (ho : o.op = .alloc t) (z : Value) (hz : (P.info? t).map (·.zero) = some (some z)) (hc : z.cells = #[z])
    (h : Stop (∀ w', Hid (Grew w w') → Hid (Blk w' w.heap.size t #[z]) → wpList P ops Q rest (a.put o.dst (.pointer (some ⟨w.heap.size, 0, none⟩))) w')) : wpList P ops Q (o :: rest) a w := by
  refine wpList_wanted hgd fun K hK => ?_
  obtain ⟨i, hi, hiz⟩ := Option.map_eq_some_iff.1 hz
  have hr : (Instr.alloc t true (.tuple #[])).run P w = .ok (.pointer (some ⟨w.heap.size, 0, none⟩)) (w.alloc (.cells #[z] t)) := by
    simp [Instr.alloc, newVar, zeroValue, typeInfo, hi, hiz, hc]; rfl
  unfold Oper.wp execOp
  simp only [ho, Sem.run_bind, hr, Result.andThen_ok]
  exact hK _ _ (h _ (Grew.alloc w _) (Blk.new w t _))
theorem wpList_box_one (hgd : Region.wanted o (yielded ops a.tmps) = true) (t : TypeId) (x : Operand) (ho : o.op = .box t x) (z : Value) (hx : a.eval x = z) (hc : z.cells = #[z])
    (h : Stop (∀ w', Hid (Grew w w') → Hid (Blk w' w.heap.size t #[z]) → wpList P ops Q rest (a.put o.dst (.pointer (some ⟨w.heap.size, 0, none⟩))) w')) : wpList P ops Q (o :: rest) a w := by
  refine wpList_wanted hgd fun K hK => ?_
  have hr : (Instr.box t z).run P w = .ok (.pointer (some ⟨w.heap.size, 0, none⟩)) (w.alloc (.cells #[z] t)) := by
    simp [Instr.box, newVar, hc]; rfl
  unfold Oper.wp execOp
  simp only [ho, hx, Sem.run_bind, hr, Result.andThen_ok]
  exact hK _ _ (h _ (Grew.alloc w _) (Blk.new w t _))
/-- A set of nothing. -/
theorem wpList_make_set (hgd : Region.wanted o (yielded ops a.tmps) = true) (t : TypeId) (ho : o.op = .makeMap t none) (K0 : TypeId)
    (h : Stop (∀ w', Hid (Grew w w') → Hid (SetI w' P K0 w.heap.size 0 (fun _ => false)) → wpList P ops Q rest (a.put o.dst (.map (some w.heap.size))) w')) : wpList P ops Q (o :: rest) a w := by
  refine wpList_wanted hgd fun K hK => ?_
  have hr : (Instr.makeMap t none).run P w = .ok (.map (some w.heap.size)) (w.alloc (.map #[] 0)) := rfl
  unfold Oper.wp execOp
  simp only [ho, Sem.run_bind, Sem.run_pure, Option.map_none, hr, Result.andThen_ok]
  exact hK _ _ (h _ (Grew.alloc w _) (SetI.made w P K0))
end
theorem Try.sliceIntZero : (Try.prog.info? 30).map (·.zero) = some (some (.slice none 0 0)) := by kernel_rfl
theorem Try.sliceBoolZero : (Try.prog.info? 95).map (·.zero) = some (some (.slice none 0 0)) := by kernel_rfl
theorem Try.sliceBoolSize : (Try.prog.info? 95).map (·.size) = some 1 := by kernel_rfl
theorem Try.mapUnitZero : (Try.prog.info? 86).map (·.zero) = some (some (.map none)) := by kernel_rfl
theorem Try.mapUnitSize : (Try.prog.info? 86).map (·.size) = some 1 := by kernel_rfl
theorem Try.funcZero : (Try.prog.info? 94).map (·.zero) = some (some .nilFunc) := by kernel_rfl
theorem Try.funcSize : (Try.prog.info? 94).map (·.size) = some 1 := by kernel_rfl
theorem Try.boolInfo : (Try.prog.info? 4).map (fun i => (i.zero, i.size, i.bytes)) = some (some (.bool false), 1, 1) := by kernel_rfl

theorem Try.enterReady2 (args : Array Value) (w : World) : (callFunc 60 args).run Try.prog w = .ok (.enter 60 args) w := by
  simp [go_sem]
/-- Where the call's variables lie: in this order. -/
structure RAt (w0 : World) (g2 g5 gm g6 g7 gh g8 B : Nat) : Prop where
  h0 : w0.heap.size ≤ g2
  h1 : g2 < g5
  h2 : g5 < gm
  h3 : gm < g6
  h4 : g6 < g7
  h5 : g7 < gh
  h6 : gh < g8
  h7 : g8 < B
/-- The call's variables behind the first i. -/
structure RSt (w0 w : World) (g2 g5 gm g6 g7 gh g8 B : Nat) (A : Option Addr) (n cap : Nat) (l : List Cg) (block : Int) (i : Nat) : Prop where
  bel : Below w0.heap.size w0 w
  size : B ≤ w.heap.size
  v2 : Blk w g2 26 #[.slice A n cap]
  v5 : ∃ v, Blk w g5 30 #[v] ∧ OwnC w B 3 v (ivals (rdN l block i))
  vm : SetI w Try.prog 3 gm i (fun x => (rdN l block i).contains x)
  v6 : Blk w g6 86 #[.map (some gm)]
  v7 : Blk w g7 94 #[.func (.func 58) #[] #[.pointer (some ⟨g6, 0, none⟩), .pointer (some ⟨g2, 0, none⟩)]]
  vh : Blk w gh 4 (fbools 256 (heldN l block i))
  v8 : Blk w g8 95 #[.slice (some ⟨gh, 0, none⟩) 256 256]
section
variable {w0 w w' : World} {g2 g5 gm g6 g7 gh g8 B : Nat} {A : Option Addr} {n cap : Nat} {l : List Cg} {block : Int} {i : Nat}
theorem RSt.ext (S : RSt w0 w g2 g5 gm g6 g7 gh g8 B A n cap l block i) (h : Below w.heap.size w w') : RSt w0 w' g2 g5 gm g6 g7 gh g8 B A n cap l block i := by
  obtain ⟨v, h5, ho⟩ := S.v5
  exact ⟨bt S.bel h, Nat.le_trans S.size h.size, S.v2.ext h, ⟨v, h5.ext h, ho.ext h⟩, S.vm.ext h, S.v6.ext h, S.v7.ext h, S.vh.ext h, S.v8.ext h⟩
theorem RSt.skip (S : RSt w0 w g2 g5 gm g6 g7 gh g8 B A n cap l block i) (hi : i < l.length) (hb : l[i].block ≠ block) : RSt w0 w g2 g5 gm g6 g7 gh g8 B A n cap l block (i + 1) := by
  obtain ⟨e1, e2⟩ := rd_skip hi hb
  refine ⟨S.bel, S.size, S.v2, ?_, ?_, S.v6, S.v7, ?_, S.v8⟩
  · rw [e1]; exact S.v5
  · rw [e1]; exact S.vm.mono (by omega)
  · rw [fbools_congr e2]; exact S.vh
end
theorem OwnC.only {w w' : World} {B : Nat} {e : TypeId} {v : Value} {l : List Value} (h : OwnC w B e v l) {g : Nat} (ho : Only w w' g) (hg : g < B) : OwnC w' B e v l := by
  obtain ⟨hl, h | ⟨k, cap, cur, hv, hbk, hk, h⟩⟩ := h
  · exact ⟨hl, Or.inl h⟩
  · exact ⟨hl, Or.inr ⟨k, cap, cur, hv, hbk, Blk.only hk ho (by omega), h⟩⟩
theorem wf_int {z : Int} (h1 : -9223372036854775808 ≤ z) (h2 : z < 9223372036854775808) : (Lit.int .i64 z).wf = true := WalkArith.wf_i64 ⟨h1, by omega⟩

set_option maxRecDepth 100000 in
set_option maxHeartbeats 8000000 in
/-- What is done with each change of the block. -/
theorem rdy2_any (w0 : World) (g2 g5 gm g6 g7 gh g8 B : Nat) (hat : RAt w0 g2 g5 gm g6 g7 gh g8 B) (A : Option Addr) (n cap : Nat) (l : List Cg) (hn : l.length = n) (hm : n ≤ 4096) (hmay : mayC l = true) (hr : RdL RdC w0 A 5 l) (block : Int)
    (i : Nat) (hi : i < l.length) (Ad : Option Addr) (nd cd : Nat) (An : Option Addr) (nn cn : Nat) (w : World) (hb : l[i].block = block) (hcv : CV w l[i] Ad nd cd An nn cn) (S : RSt w0 w g2 g5 gm g6 g7 gh g8 B A n cap l block i) :
    Calls Try.prog 60 #[.agg #[.int .i64 l[i].id, .int .i64 l[i].block, .int .i64 l[i].p.at_, .slice Ad nd cd, .slice An nn cn], .pointer (some ⟨g8, 0, none⟩), .pointer (some ⟨g7, 0, none⟩), .pointer (some ⟨g6, 0, none⟩), .pointer (some ⟨g5, 0, none⟩)] w fun e w' => e = .returned (.tuple #[]) ∧ RSt w0 w' g2 g5 gm g6 g7 gh g8 B A n cap l block (i + 1) := by
  have Hat := Lib.hid hat
  have Hr := Lib.hid hr
  have Hn := Lib.hid hn
  have Hmay := Lib.hid hmay
  have HS := Lib.hid S
  have Hcv := Lib.hid hcv
  have Hil := Lib.hid (show i < n by omega)
  have Hhit := Lib.hid (show hitN l block i l[i] = true → _ from rd_hit hmay hi hb)
  have Hfree := Lib.hid (show hitN l block i l[i] = false → _ from rd_free hmay hi hb)
  have Hdef := Lib.hid (show hitN l block i l[i] = (anyN (fun j => heldN l block i (l[i].p.lo + j)) l[i].p.data.length || l[i].needs.any fun x => hasId l x && !(rdN l block i).contains x) from rfl)
  have hpr := (Cg.may_iff.1 (mayC_iff0.1 hmay i hi)).2.2.1
  clear hat hr hn hmay S hcv hb
  generalize hitN l block i l[i] = hit at *
  generalize l[i] = c at *
  clear hi
  have hp := Pt.right_iff.1 hpr
  rw [Hcv.out.p.len] at hp
  obtain ⟨p1, p2, p3, p4⟩ := hp
  obtain ⟨q, hq⟩ := Int.eq_ofNat_of_zero_le p3
  have hlo : c.p.lo = q := by unfold Pt.lo; rw [hq]; rfl
  rw [hlo, Hcv.out.p.len] at Hdef Hhit
  have Hwf := Lib.hid (wf_int Hcv.out.lo0 Hcv.out.hi0)
  obtain ⟨T, hT⟩ : ∃ T, q + nd = T := ⟨_, rfl⟩
  have HT := Lib.hid hT
  have hT2 : T ≤ 256 := by omega
  have hT3 : q ≤ T := by omega
  have hT4 : q < 256 := by omega
  have HTn := Lib.hid (show T - q = nd by omega)
  have qw : IntKind.i64.wrap ((q : Int) + (nd : Int)) = (T : Int) := by rw [IntKind.wrap_i64]; omega
  have Hlen := Lib.hid (rdN_len l block i)
  clear hpr p3 p4 hlo hT
  go_enter Try.func60, Try.ntmps60
  go_wp2_with (refine wpList_box_row rfl _ _ rfl _ rfl ?_)
  apply Stop.go; intro w1 Hg1 Hb1
  have S1 := Lib.hid (HS.out.ext Hg1.out.1)
  have c8 : w1.cell? ⟨g8, 0, none⟩ = some (.slice (some ⟨gh, 0, none⟩) 256 256) := S1.out.v8.cell 0
  have c2 : w1.cell? ⟨w.heap.size, 2, none⟩ = some (.int .i64 (q : Int)) := Hb1.out.five.2.2.1
  have c3 : w1.cell? ⟨w.heap.size, 3, none⟩ = some (.slice Ad nd cd) := Hb1.out.five.2.2.2.1
  go_wp2_with (refine wpList_slice_sl rfl _ _ _ _ rfl _ Try.underlying95 Try.boolSize _ _ _ rfl _ _ _ _ rfl rfl q T rfl rfl hT3 hT2 hT4 ?_)
  have Hany := Lib.hid (show anyN (fun j => heldN l block i (q + j)) (T - q) = anyN (fun j => heldN l block i (q + j)) nd by rw [HTn.out])
  refine (conb_any ⟨gh, q, none⟩ (T - q) (256 - q) (fun j => heldN l block i (q + j)) (by omega) _ (fun j hj => by rw [show (⟨gh, q, none⟩ : Addr).add j = ⟨gh, q + j, none⟩ by (unfold Addr.add; split <;> simp_all), S1.out.vh.cell, fbools_get _ _ _ (by omega)])).mono ?_; rintro e wx ⟨rfl, rfl⟩
  rw [Hany.out]
  have c4 : w1.cell? ⟨w.heap.size, 4, none⟩ = some (.slice An nn cn) := Hb1.out.five.2.2.2.2.1
  have c7 : w1.cell? ⟨g7, 0, none⟩ = some (.func (.func 58) #[] #[.pointer (some ⟨g6, 0, none⟩), .pointer (some ⟨g2, 0, none⟩)]) := S1.out.v7.cell 0
  have HCO := Lib.hid (fun (_ : True) => coni_any An nn cn c.needs Hcv.out.len (Nat.le_trans Hcv.out.cap Hcv.out.max) (.pointer (some ⟨g6, 0, none⟩)) (.pointer (some ⟨g2, 0, none⟩)) (fun x => hasId l x && !(rdN l block i).contains x) w1 (Hcv.out.read.below Hg1.out.1) (fun x hx w' hw' =>
    rdy1_any g2 g6 gm _ _ i (fun x => (rdN l block i).contains x) A n cap l Hn.out hm Hmay.out x (wf_int (Hcv.out.nb x hx).1 (Hcv.out.nb x hx).2) w' (Hr.out.below (bt S1.out.bel hw')) (S1.out.v2.ext hw') (S1.out.v6.ext hw') (S1.out.vm.ext hw')))
  generalize anyN (fun j => heldN l block i (q + j)) nd = b1 at *
  generalize hb2 : (c.needs.any fun x => hasId l x && !(rdN l block i).contains x) = b2 at *
  clear hb2
  have fin_hit : Hid (hit = true → ∀ w3, Below w1.heap.size w1 w3 → Calls Try.prog 63 #[.slice (some ⟨gh, q, none⟩) (T - q) (256 - q)] w3 fun e w' => e = .returned (.tuple #[]) ∧ RSt w0 w' g2 g5 gm g6 g7 gh g8 B A n cap l block (i + 1)) := Lib.hid fun hh w3 h3 => by
    obtain ⟨e1, e2⟩ := Hhit.out hh
    have S3 := S1.out.ext h3
    refine (mark_any gh q (T - q) (256 - q) 256 _ _ (by omega) (by decide) w3 S3.vh).mono ?_
    rintro e w4 ⟨rfl, ho, hblk⟩
    have a0 := Hat.out.h0; have a1 := Hat.out.h1; have a2 := Hat.out.h2; have a3 := Hat.out.h3; have a4 := Hat.out.h4; have a5 := Hat.out.h5; have a6 := Hat.out.h6; have a7 := Hat.out.h7
    obtain ⟨v, hv5, hv⟩ := S3.v5
    refine ⟨rfl, bonly S3.bel ho (by omega), by rw [ho.size]; exact S3.size, S3.v2.only ho (by omega), ?_, ?_, S3.v6.only ho (by omega), S3.v7.only ho (by omega), ?_, S3.v8.only ho (by omega)⟩
    · rw [e1]; exact ⟨v, hv5.only ho (by omega), hv.only ho (by omega)⟩
    · rw [e1]; exact (S3.vm.only ho (by omega)).mono (by omega)
    · rw [fbools_congr (g := fromTo (heldN l block i) q (T - q)) (fun j => by rw [e2, HTn.out]; rfl)]; exact hblk
  cases b1
  · have Hd := Lib.hid (show hit = b2 by rw [Hdef.out]; rfl)
    go_wp2_with fail
    refine (HCO.out trivial).mono ?_; rintro e w2 ⟨rfl, hb2⟩
    have Hb2 := Lib.hid hb2
    clear hb2 c8 c2 c3 c4 c7
    cases b2
    · obtain ⟨e1, e2⟩ := Hfree.out Hd.out
      have E1 := Lib.hid e1
      have E2 := Lib.hid e2
      have S2 := Lib.hid (S1.out.ext Hb2.out)
      have c6 : w2.cell? ⟨g6, 0, none⟩ = some (.map (some gm)) := S2.out.v6.cell 0
      have Hx2 := Lib.hid (Hb1.out.ext Hb2.out)
      have c0 : w2.cell? ⟨w.heap.size, 0, none⟩ = some (.int .i64 c.id) := Hx2.out.five.1
      have a0 := Hat.out.h0; have a1 := Hat.out.h1; have a2 := Hat.out.h2; have a3 := Hat.out.h3; have a4 := Hat.out.h4; have a5 := Hat.out.h5; have a6 := Hat.out.h6; have a7 := Hat.out.h7
      have hxB : B ≤ w.heap.size := HS.out.size
      have HA := Lib.hid (show w0.heap.size ≤ g2 ∧ g2 < g5 ∧ g5 < gm ∧ gm < g6 ∧ g6 < g7 ∧ g7 < gh ∧ gh < g8 ∧ g8 < B ∧ B ≤ w.heap.size from ⟨a0, a1, a2, a3, a4, a5, a6, a7, hxB⟩)
      clear e1 e2 a0 a1 a2 a3 a4 a5 a6 a7 hxB
      have hmx : i < maxLen := by have := Hil.out; unfold maxLen; omega
      go_wp2_with (refine wpList_set_store rfl _ _ _ _ rfl _ _ Try.underlying3 Try.underlying86 rfl S2.out.vm hmx c.id rfl Hwf.out rfl ?_)
      apply Stop.go; intro w4 Hm4 Ho4
      obtain ⟨v, hv5, hv⟩ := S2.out.v5
      obtain ⟨Av, cv, rfl, hv1, hv2, -⟩ := hv.read
      have Hv4 := Lib.hid (hv.only Ho4.out (by have := HA.out; omega))
      have c5 : w4.cell? ⟨g5, 0, none⟩ = some (.slice Av (ivals (rdN l block i)).length cv) := (hv5.only Ho4.out (by have := HA.out; omega)).cell 0
      have c0' : w4.cell? ⟨w.heap.size, 0, none⟩ = some (.int .i64 c.id) := (Hx2.out.only Ho4.out (by have := HA.out; omega)).five.1
      have Hv5 := Lib.hid (hv5.only Ho4.out (by have := HA.out; omega))
      have hl1 : (ivals (rdN l block i)).length + 1 ≤ maxLen := by rw [ivals_len]; have := Hlen.out; have := Hil.out; unfold maxLen; omega
      have hl2 : ((ivals (rdN l block i)).length + 1) * 8 ≤ 140737488355328 := by rw [ivals_len]; have := Hlen.out; have := Hil.out; omega
      have Hz4 := Lib.hid (show B ≤ w4.heap.size by rw [Ho4.out.size]; exact S2.out.size)
      clear hv hv5 hv1 hv2 c6 c0
      go_wp2_with (at_builtin; refine wpList_append_one rfl _ _ _ _ rfl Try.underlying30 (.int .i64 0) 8 Try.infoInt rfl B _ _ rfl Hv4.out (.int .i64 c.id) rfl rfl Hz4.out hl1 hl2 ?_)
      apply Stop.go
      intro v' w5 Hv' Ha'
      obtain ⟨Av', cv', rfl, hv1, hv2, -⟩ := Hv'.out.read
      have Hv55 := Lib.hid (Hv5.out.below Ha'.out.below (by have := HA.out; omega))
      clear hv1 hv2
      go_wp2_with (refine wpList_store_cell rfl _ _ _ rfl Try.sliceIntSize g5 0 rfl _ rfl rfl rfl _ _ Hv55.out (by simp) ?_)
      apply Stop.go; intro w6 Ho6 Hb6
      go_wp2_with fail
      go_end0
      have ha := HA.out
      have B1 := S2.out.bel
      have B4 := bonly B1 Ho4.out (by omega)
      have B5 : Below w0.heap.size w0 w5 := B4.trans (Ha'.out.below.mono (by omega))
      have B6 := bonly B5 Ho6.out (by omega)
      have keep : ∀ {g : Nat} {t : TypeId} {cs : Array Value}, Blk w2 g t cs → g < B → g ≠ gm → g ≠ g5 → Blk w6 g t cs := fun h h1 h2 h3 => ((h.only Ho4.out h2).below Ha'.out.below h1).only Ho6.out h3
      refine ⟨rfl, B6, ?_, keep S2.out.v2 (by omega) (by omega) (by omega), ⟨_, Hb6.out, ?_⟩, ?_, keep S2.out.v6 (by omega) (by omega) (by omega), keep S2.out.v7 (by omega) (by omega) (by omega), ?_, keep S2.out.v8 (by omega) (by omega) (by omega)⟩
      · rw [Ho6.out.size]; exact Nat.le_trans Hz4.out Ha'.out.below.size
      · have hv6 := Hv'.out.only Ho6.out (by omega)
        rw [show (ivals (rdN l block i) ++ [Value.int IntKind.i64 c.id]).length = (ivals (rdN l block i)).length + 1 by simp] at hv6
        rw [E1.out, ← ivals_snoc]
        exact hv6
      · have hs5 := Hm4.out.same (Ha'.out.below.block gm (by omega))
        refine (hs5.only Ho6.out (by omega)).congr fun k => ?_
        rw [E1.out]
        unfold addM
        by_cases hk : k = c.id
        · rw [if_pos hk, hk]; simp
        · rw [if_neg hk]; simp [hk]
      · rw [fbools_congr E2.out]
        exact keep S2.out.vh (by omega) (by omega) (by omega)
    · go_wp2_with fail
      refine (fin_hit.out Hd.out _ Hb2.out).mono ?_; rintro e w4 ⟨rfl, hs⟩
      go_wp2_with fail
      refine bodyPost_ret (results_none rfl _ _ _) rfl ?_
      exact ⟨rfl, hs⟩
  · have Hd := Lib.hid (show hit = true by rw [Hdef.out]; rfl)
    go_wp2_with fail
    refine (fin_hit.out Hd.out _ (Below.refl _ _)).mono ?_; rintro e w4 ⟨rfl, hs⟩
    go_wp2_with fail
    refine bodyPost_ret (results_none rfl _ _ _) rfl ?_
    exact ⟨rfl, hs⟩

set_option maxRecDepth 100000 in
set_option maxHeartbeats 4000000 in
theorem pready_any (A : Option Addr) (n cap : Nat) (l : List Cg) (hn : l.length = n) (hm : n ≤ 4096) (block : Int) (w : World) (hr : RdL RdC w A 5 l) :
    Calls Try.prog 48 #[.slice A n cap, .int .i64 block] w (RetI w (readyC l block)) := by
  have hmf : ∀ (fn : Fn) (first cap : Array Value) (w : World), (Instr.makeFunc fn first cap).run Try.prog w = .ok (.func fn first cap) w := fun _ _ _ _ => rfl
  have Hn := Lib.hid hn
  have Hr := Lib.hid hr
  obtain ⟨W, hW⟩ : ∃ W, readyC l block = W := ⟨_, rfl⟩
  rw [hW]
  have HW := Lib.hid hW
  clear hn hr hW
  go_enter Try.func48, Try.ntmps48
  go_wp2_with (refine wpList_box_one rfl _ _ rfl (.slice A n cap) rfl rfl ?_)
  apply Stop.go; intro w1 Hg1 Hb1
  have c0 : w1.cell? ⟨w.heap.size, 0, none⟩ = some (.slice A n cap) := Hb1.out.cell 0
  go_wp2_with fail
  refine (chk_any A n cap l Hn.out hm _ (Hr.out.below Hg1.out.1)).mono ?_; rintro e w2 ⟨rfl, hb2⟩
  have Hb2 := Lib.hid hb2
  clear hb2 c0
  cases hmay : mayC l
  · rw [chkI_no hmay]
    have HE : Hid (W = []) := Lib.hid (HW.out.symm.trans (by unfold readyC; rw [hmay]; rfl))
    clear hmay
    go_wp2_with fail
    go_ret
    rw [HE.out]
    exact RetI.nil_ (bt Hg1.out.1 Hb2.out)
  · rw [chkI_yes hmay]
    have Hmay := Lib.hid hmay
    clear hmay
    go_wp2_with (refine wpList_alloc_one rfl _ rfl _ Try.sliceIntZero rfl ?_)
    apply Stop.go; intro w3 Hg3 Hb3
    go_wp2_with (refine wpList_make_set rfl _ rfl 3 ?_)
    apply Stop.go; intro w4 Hg4 Hm4
    go_wp2_with (refine wpList_alloc_one rfl _ rfl _ Try.mapUnitZero rfl ?_)
    apply Stop.go; intro w5 Hg5 Hb5
    go_wp2_with (refine wpList_store_cell rfl _ _ _ rfl Try.mapUnitSize w4.heap.size 0 rfl (.map (some w3.heap.size)) rfl rfl rfl _ _ Hb5.out (by simp) ?_)
    apply Stop.go; intro w6 Ho6 Hb6
    go_wp2_with (refine wpList_alloc_one rfl _ rfl _ Try.funcZero rfl ?_)
    apply Stop.go; intro w7 Hg7 Hb7
    go_wp2_with (refine wpList_store_cell rfl _ _ _ rfl Try.funcSize w6.heap.size 0 rfl (.func (.func 58) #[] #[.pointer (some ⟨w4.heap.size, 0, none⟩), .pointer (some ⟨w.heap.size, 0, none⟩)]) rfl rfl rfl _ _ Hb7.out (by simp) ?_)
    apply Stop.go; intro w8 Ho8 Hb8
    go_wp2_with (refine wpList_make_zero rfl _ _ _ _ rfl Try.underlying95 (.bool false) 1 Try.boolInfo rfl .i64 .i64 _ _ 256 rfl rfl rfl rfl (by decide) (by decide) (fbools 256 fun _ => false) rfl ?_)
    apply Stop.go; intro w9 Hg9 Hb9
    go_wp2_with (refine wpList_alloc_one rfl _ rfl _ Try.sliceBoolZero rfl ?_)
    apply Stop.go; intro w10 Hg10 Hb10
    go_wp2_with (refine wpList_store_cell rfl _ _ _ rfl Try.sliceBoolSize w9.heap.size 0 rfl (.slice (some ⟨w8.heap.size, 0, none⟩) 256 256) rfl rfl rfl _ _ Hb10.out (by simp) ?_)
    apply Stop.go; intro w11 Ho11 Hb11
    have z1 := Hg1.out.2; have z2 := Hb2.out.size; have z3 := Hg3.out.2; have z4 := Hg4.out.2; have z5 := Hg5.out.2; have z6 := Ho6.out.size; have z7 := Hg7.out.2; have z8 := Ho8.out.size; have z9 := Hg9.out.2; have z10 := Hg10.out.2; have z11 := Ho11.out.size
    have HAT := Lib.hid (show RAt w w.heap.size w2.heap.size w3.heap.size w4.heap.size w6.heap.size w8.heap.size w9.heap.size w11.heap.size from ⟨Nat.le_refl _, by omega, by omega, by omega, by omega, by omega, by omega, by omega⟩)
    have k8 : ∀ {g : Nat} {t : TypeId} {cs : Array Value}, Blk w8 g t cs → g ≠ w9.heap.size → Blk w11 g t cs := fun h hne => ((h.ext Hg9.out.1).ext Hg10.out.1).only Ho11.out hne
    have k6 : ∀ {g : Nat} {t : TypeId} {cs : Array Value}, Blk w6 g t cs → g ≠ w9.heap.size → g ≠ w6.heap.size → Blk w11 g t cs := fun h h1 h2 => k8 ((h.ext Hg7.out.1).only Ho8.out h2) h1
    have k4 : ∀ {g : Nat} {t : TypeId} {cs : Array Value}, Blk w4 g t cs → g ≠ w9.heap.size → g ≠ w6.heap.size → g ≠ w4.heap.size → Blk w11 g t cs := fun h h1 h2 h3 => k6 ((h.ext Hg5.out.1).only Ho6.out h3) h1 h2
    have B2 := bt Hg1.out.1 Hb2.out
    have B4 := bt (bt B2 Hg3.out.1) Hg4.out.1
    have B6 := bonly (bt B4 Hg5.out.1) Ho6.out (by omega)
    have B8 := bonly (bt B6 Hg7.out.1) Ho8.out (by omega)
    have B11 := bonly (bt (bt B8 Hg9.out.1) Hg10.out.1) Ho11.out (by omega)
    have HS0 := Lib.hid (show RSt w w11 w.heap.size w2.heap.size w3.heap.size w4.heap.size w6.heap.size w8.heap.size w9.heap.size w11.heap.size A n cap l block 0 from
      ⟨B11, Nat.le_refl _, k4 (((Hb1.out.ext Hb2.out).ext Hg3.out.1).ext Hg4.out.1) (by omega) (by omega) (by omega), ⟨_, k4 (Hb3.out.ext Hg4.out.1) (by omega) (by omega) (by omega), OwnC.nil_ _ _ _⟩,
        ((((((Hm4.out.ext Hg5.out.1).only Ho6.out (by omega)).ext Hg7.out.1).only Ho8.out (by omega)).ext Hg9.out.1).ext Hg10.out.1).only Ho11.out (by omega),
        k6 Hb6.out (by omega) (by omega), k8 Hb8.out (by omega), ((Hb9.out.ext Hg10.out.1).only Ho11.out (by omega)), Hb11.out⟩)
    clear z1 z2 z3 z4 z5 z6 z7 z8 z9 z10 z11 k8 k6 k4 B2 B4 B6 B8 B11 Hg1 Hb1 Hb2 Hg3 Hb3 Hg4 Hm4 Hg5 Hb5 Ho6 Hb6 Hg7 Hb7 Ho8 Hb8 Hg9 Hb9 Hg10 Hb10 Ho11 Hb11
    generalize w.heap.size = g2 at *
    generalize w2.heap.size = g5 at *
    generalize w3.heap.size = gm at *
    generalize w4.heap.size = g6 at *
    generalize w6.heap.size = g7 at *
    generalize w8.heap.size = gh at *
    generalize w9.heap.size = g8 at *
    generalize w11.heap.size = B at *
    have c2 : w11.cell? ⟨g2, 0, none⟩ = some (.slice A n cap) := HS0.out.v2.cell 0
    have HE := Lib.hid (each4_any 60 (.pointer (some ⟨g8, 0, none⟩)) (.pointer (some ⟨g7, 0, none⟩)) (.pointer (some ⟨g6, 0, none⟩)) (.pointer (some ⟨g5, 0, none⟩)) A n cap l Hn.out hm block (fun i w' => RSt w w' g2 g5 gm g6 g7 gh g8 B A n cap l block i) w11
      Try.enterReady2 (fun i w' h => Hr.out.below h.bel) (fun i w' w'' h hb => h.ext hb) (fun i w' h hb hs => hs.skip h hb)
      (fun i w' h Ad nd cd An nn cn hb hcv hs => rdy2_any w g2 g5 gm g6 g7 gh g8 B HAT.out A n cap l Hn.out hm Hmay.out Hr.out block i h Ad nd cd An nn cn w' hb hcv hs) HS0.out)
    go_wp2_with fail
    refine (HE.out).mono ?_; rintro e w12 ⟨rfl, hs⟩
    obtain ⟨v, hv5, hv⟩ := hs.v5
    have c5 : w12.cell? ⟨g5, 0, none⟩ = some v := hv5.cell 0
    have Hv := Lib.hid hv
    have Hbel := Lib.hid hs.bel
    have HF : Hid (W = rdN l block n) := Lib.hid (HW.out.symm.trans (by rw [readyC_rdN block Hmay.out, Hn.out]))
    clear hs hv hv5 HE c2
    obtain ⟨Av, cv, rfl, hv1, hv2, -⟩ := Hv.out.read
    clear hv1 hv2
    go_wp2_with fail
    go_ret
    rw [HF.out]
    exact Hv.out.retI Hbel.out

end Go.Proofs.Ytckkdfpmibipfaa
