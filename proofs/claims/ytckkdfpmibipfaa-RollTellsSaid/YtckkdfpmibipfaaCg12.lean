/-
  The contract of package ready's Of.
-/
import Derived.Test.YtckkdfpmibipfaaCg11
namespace Go.Proofs.Ytckkdfpmibipfaa
open Go.RowKit

theorem ofC_on {l : List Cg} {b : Int} {k : Nat} (hk : k < l.length) (h : l[k].block = b) : ofC (l.take (k + 1)) b = ofC (l.take k) b ++ [l[k]] := by
  unfold ofC
  rw [List.take_succ_eq_append_getElem hk, List.filter_append]
  rw [show List.filter (fun c : Cg => decide (c.block = b)) [l[k]] = [l[k]] by rw [List.filter_cons, if_pos (by simpa using h)]; rfl]
theorem ofC_off {l : List Cg} {b : Int} {k : Nat} (hk : k < l.length) (h : l[k].block ≠ b) : ofC (l.take (k + 1)) b = ofC (l.take k) b := by
  unfold ofC
  rw [List.take_succ_eq_append_getElem hk, List.filter_append]
  rw [show List.filter (fun c : Cg => decide (c.block = b)) [l[k]] = [] by rw [List.filter_cons, if_neg (by simpa using h)]; rfl]
  simp
theorem ofC_lenk (l : List Cg) (b : Int) (k : Nat) : (ofC (l.take k) b).length ≤ k := by
  unfold ofC
  exact Nat.le_trans (List.length_filter_le _ _) (by rw [List.length_take]; omega)
theorem Blk.grown {w w' : World} {g : Nat} {t : TypeId} {cs : Array Value} (h : Blk w g t cs) {row : Option Nat} (hg : w.grownBy w' row) (hne : some g ≠ row) : Blk w' g t cs := (hg.block g h.lt hne).trans h
theorem blk_cell_mem {w : World} {g : Nat} {t : TypeId} {cs : Array Value} {ad : Addr} {v : Value} (hg : Blk w g t cs) (hb : ad.block = g) (hc : w.cell? ad = some v) : v ∈ cs.toList := by
  unfold Blk at hg
  rw [← hb] at hg
  simp [World.cell?, hg] at hc
  simpa using Array.mem_of_getElem? hc.2
/-- A store into a block that none of its rows leads to, and that is not its own. -/
theorem OwnL.only2 {w w' : World} {B : Nat} {e : TypeId} {v : Value} {l : List Cg} (h : OwnL RdC w B e 5 v l) {g : Nat} {t : TypeId} {cs : Array Value} (hg : Blk w g t cs) (hcs : ∀ x ∈ cs.toList, (∀ z, x ≠ .int .u8 z) ∧ ∀ z, x ≠ .int .i64 z) (ho : Only w w' g) (hgB : g < B) : OwnL RdC w' B e 5 v l := by
  have hlt := fun k hk => (h.lt k hk).1
  obtain ⟨rows, h1, h2, h3, h4⟩ := h
  have key : ∀ r ∈ rows, g ∉ blocksOf r := fun r hr hq => by
    obtain ⟨k, hk, rfl⟩ := List.getElem_of_mem hr
    obtain ⟨v0, v1, v2, v3, v4, er, hc⟩ := h3 k hk (by omega)
    rw [er] at hq
    obtain ⟨x, hx, hlx⟩ := mem_blocksOf.1 hq
    obtain ⟨A4, m4, e4, q1, q2, hr4⟩ := hc.needs
    obtain ⟨A3, m3, e3, q3, q4, hr3⟩ := hc.p.bytes
    simp only [List.mem_cons, List.mem_nil_iff, or_false] at hx
    rcases hx with rfl | rfl | rfl | rfl | rfl
    · rw [hc.e0] at hlx; cases hlx
    · rw [hc.e1] at hlx; cases hlx
    · rw [hc.p.num] at hlx; cases hlx
    · rw [e3] at hlx
      cases A3 with
      | none => cases hlx
      | some ad =>
        rw [leads_slice] at hlx
        by_cases hz : l[k].p.data.length = 0
        · rw [if_pos hz] at hlx; cases hlx
        · rw [if_neg hz] at hlx
          injection hlx with hlx
          obtain ⟨ad', e', hcell⟩ := hr3 0 (by omega)
          injection e' with e'
          subst e'
          exact (hcs _ (blk_cell_mem hg (by rw [block_of_add]; exact hlx) hcell)).1 _ rfl
    · rw [e4] at hlx
      cases A4 with
      | none => cases hlx
      | some ad =>
        rw [leads_slice] at hlx
        by_cases hz : l[k].needs.length = 0
        · rw [if_pos hz] at hlx; cases hlx
        · rw [if_neg hz] at hlx
          injection hlx with hlx
          obtain ⟨ad', e', hcell⟩ := hr4 0 (by rw [ivals_len]; omega)
          injection e' with e'
          subst e'
          refine (hcs _ (blk_cell_mem hg (by rw [block_of_add]; exact hlx) hcell)).2 (l[k].needs[0]'(by omega)) ?_
          simp [ivals]
  refine ⟨rows, ⟨h1.1, h1.2.1, ?_⟩, h2, fun k hk hk' => RdC.stable (h3 k hk hk') fun q hq => ho.block _ (fun e => key _ (List.getElem_mem hk) (by rw [← e]; exact hq)), h4⟩
  rcases h1.2.2 with h | ⟨q, cap, cur, hv, hb, hq, h⟩
  · exact Or.inl h
  · exact Or.inr ⟨q, cap, cur, hv, hb, Blk.only hq ho (by omega), h⟩
/-- The call's variable behind the first i. -/
structure OSt (w0 w : World) (g5 B : Nat) (l : List Cg) (block : Int) (i : Nat) : Prop where
  lo : w0.heap.size ≤ g5
  hi : g5 < B
  bel : Below w0.heap.size w0 w
  size : B ≤ w.heap.size
  v5 : ∃ v, Blk w g5 26 #[v] ∧ OwnL RdC w B 59 5 v (ofC (l.take i) block)
theorem OSt.ext {w0 w w' : World} {g5 B : Nat} {l : List Cg} {block : Int} {i : Nat} (S : OSt w0 w g5 B l block i) (h : Below w.heap.size w w') : OSt w0 w' g5 B l block i := by
  obtain ⟨v, h5, ho⟩ := S.v5
  exact ⟨S.lo, S.hi, bt S.bel h, Nat.le_trans S.size h.size, v, h5.ext h, ho.ext h⟩
theorem OSt.skip {w0 w : World} {g5 B : Nat} {l : List Cg} {block : Int} {i : Nat} (S : OSt w0 w g5 B l block i) (hi : i < l.length) (hb : l[i].block ≠ block) : OSt w0 w g5 B l block (i + 1) :=
  ⟨S.lo, S.hi, S.bel, S.size, by rw [ofC_off hi hb]; exact S.v5⟩
theorem Try.sliceChgSize : (Try.prog.info? 26).map (·.size) = some 1 := by kernel_rfl
theorem Try.sliceChgZero : (Try.prog.info? 26).map (·.zero) = some (some (.slice none 0 0)) := by kernel_rfl
theorem Try.enterOf1 (args : Array Value) (w : World) : (callFunc 46 args).run Try.prog w = .ok (.enter 46 args) w := by
  simp [go_sem]

set_option maxRecDepth 100000 in
set_option maxHeartbeats 8000000 in
theorem of1_any (w0 : World) (g5 B : Nat) (l : List Cg) (block : Int) (i : Nat) (hi : i < l.length) (hm : l.length ≤ 4096) (Ad : Option Addr) (nd cd : Nat) (An : Option Addr) (nn cn : Nat) (hd : nd ≤ 4096) (hnn : nn ≤ 4096) (w : World) (hb : l[i].block = block) (hcv : CV w l[i] Ad nd cd An nn cn) (S : OSt w0 w g5 B l block i) :
    Calls Try.prog 46 #[.agg #[.int .i64 l[i].id, .int .i64 l[i].block, .int .i64 l[i].p.at_, .slice Ad nd cd, .slice An nn cn], .pointer (some ⟨g5, 0, none⟩)] w fun e w' => e = .returned (.tuple #[]) ∧ OSt w0 w' g5 B l block (i + 1) := by
  have HS := Lib.hid S
  have Hcv := Lib.hid hcv
  have HE := Lib.hid (ofC_on hi hb)
  have Hlk := Lib.hid (ofC_lenk l block i)
  have Hil := Lib.hid hi
  clear S hcv hb
  generalize l[i] = c at *
  clear hi
  go_enter Try.func46, Try.ntmps46
  go_wp2_with (refine wpList_box_row rfl _ _ rfl _ rfl ?_)
  apply Stop.go; intro w1 Hg1 Hb1
  have S1 := Lib.hid (HS.out.ext Hg1.out.1)
  obtain ⟨v, hv50, hv0⟩ := HS.out.v5
  have Hvlt := Lib.hid (fun k hk => (hv0.lt k hk).2)
  have hv5 := hv50.ext Hg1.out.1
  have hv := hv0.ext Hg1.out.1
  clear hv50 hv0
  obtain ⟨L, hL⟩ : ∃ L, ofC (l.take i) block = L := ⟨_, rfl⟩
  rw [hL] at hv HE Hlk
  clear hL
  have hxg := S1.out.hi
  have hxB := HS.out.size
  have HV5 := Lib.hid hv5
  have hlt5 := hv5.lt
  have Hcv1 := Lib.hid (Hcv.out.below Hg1.out.1)
  obtain ⟨Av, cv, rfl, hv1, hv2, -⟩ := hv.read
  have HV := Lib.hid hv
  have c5 := hv5.cell 0
  simp only [List.getElem?_toArray, List.getElem?_cons_zero] at c5
  have C5 := Lib.hid c5
  clear hv5 hv hv1 hv2 c5 hlt5
  have Hx1 := Lib.hid (show w.heap.size ≠ g5 by omega)
  clear hxg hxB
  go_wp2_with fail
  refine WH.start (S := fun w' : World => Blk w' w.heap.size 59 #[.int .i64 c.id, .int .i64 c.block, .int .i64 c.p.at_, .slice Ad nd cd, .slice An nn cn]) [false, false, false, false, false, false] 6 rfl rfl (by kernel_rfl) (Hb1.out.ext (bdrew w1 1)) (fun hSn => ?_)
  refine WH.take 1 _ _ rfl (by kernel_rfl) (fun _ _ _ h => h) rfl (by assumption) (fun w' hSw => exec_load_blk _ _ rfl _ rfl _ _ (hSw) _ (Try.underlying59) rfl (Try.chgSize)) ?_; simp only [Act.put, List.setIfInBounds_toArray, List.set_cons_zero, List.set_cons_succ]
  have Hex := Lib.hid (bdrew w1 1)
  obtain ⟨wS, hwS⟩ : ∃ x, w1.drew = x := ⟨_, rfl⟩
  rw [show w1.drewN 1 = wS from hwS] at Hex
  rw [hwS] at hSn ⊢
  clear hwS
  refine WH.two 0 2 _ _ rfl rfl (by kernel_rfl) rfl rfl (fun K hK => ?_) (fun K hK => ?_)
  focus (
    refine ow_load_cell _ _ rfl ⟨g5, 0, none⟩ rfl _ ((Hex.out.cell (block_lt_of_cell C5.out)).trans C5.out) _ Try.underlying26 rfl ?_
    have hSn := hSn; refine hK _ _ hSn ?_; clear hK; clear K; simp only [Act.put, List.setIfInBounds_toArray, List.set_cons_zero, List.set_cons_succ]
    refine WH.only 2 _ rfl (by kernel_rfl) rfl (fun K hK => ?_); go_simp; refine (copied_any c Ad nd cd An nn cn hd hnn _ (Hcv1.out.below Hex.out)).mono ?_; rintro e wa ⟨Ad7, nd7, cd7, An7, nn7, cn7, rfl, hcv7, f7, g7, hb7⟩; go_simp
    have Hcv7 := Lib.hid hcv7
    have Hf7 := Lib.hid (And.intro f7 g7)
    have HzS := Lib.hid Hex.out.size
    have Hex := Lib.hid (bt Hex.out hb7)
    have hSn := hSn.ext hb7; refine hK _ _ hSn ?_; clear hK; clear K; simp only [List.set_cons_zero, List.set_cons_succ]
    refine WH.only 3 _ rfl (by kernel_rfl) rfl (fun K hK => ?_)
    refine ow_build_row _ _ _ rfl Try.underlying26 5 72 _ Try.chgInfo (by decide) (by decide) #[.int .i64 c.id, .int .i64 c.block, .int .i64 c.p.at_, .slice Ad7 nd7 cd7, .slice An7 nn7 cn7] rfl rfl ?_
    apply Stop.go
    intro wB HgB HbB
    have HcZ := Lib.hid (Hcv7.out.below HgB.out.1)
    have Hex := Lib.hid (bt Hex.out HgB.out.1)
    have hSn := hSn.ext HgB.out.1; refine hK _ _ hSn ?_; clear hK; clear K; simp only [Act.put, List.setIfInBounds_toArray, List.set_cons_zero, List.set_cons_succ]
    refine WH.only 4 _ rfl (by kernel_rfl) rfl (fun K hK => ?_)
    have hBw : B ≤ wB.heap.size := Nat.le_trans S1.out.size Hex.out.size
    refine ow_append_L RdC _ _ _ _ rfl Try.underlying26 5 72 _ Try.chgInfo rfl (by decide) B _ L rfl (HV.out.ext Hex.out) _ _ rfl HbB.out rfl (by simp [Value.oneCell']) c HcZ.out.rd (fun q hq e => far5 hq (fun e2 => by
        have h1 := (HV.out.lt q e).2
        have h3 := HzS.out
        cases hA : Ad7 with
        | none => rw [hA] at e2; cases e2
        | some a => rw [hA] at e2; have h2 := Hf7.out.1 a hA; injection e2 with e2; have e3 : a.block = q := e2; omega) (fun e2 => by
        have h1 := (HV.out.lt q e).2
        have h3 := HzS.out
        cases hA : An7 with
        | none => rw [hA] at e2; cases e2
        | some a => rw [hA] at e2; have h2 := Hf7.out.2 a hA; injection e2 with e2; have e3 : a.block = q := e2; omega)) hBw (by have := Hlk.out; have := Hil.out; omega) (by have := Hlk.out; have := Hil.out; omega) ?_
    apply Stop.go
    intro gL capL wL HL HbL HgL HwL
    have HV5L := Lib.hid ((HV5.out.ext Hex.out).below HbL.out S1.out.hi)
    have hxv : (Value.slice Av L.length cv).ownBlock ≠ some w.heap.size := fun e => by
      have := Hvlt.out _ e
      omega
    have hSn := Blk.grown hSn HgL.out (fun e => hxv e.symm); refine hK _ _ hSn ?_; clear hK; clear K; simp only [Act.put, List.setIfInBounds_toArray, List.set_cons_zero, List.set_cons_succ]
    refine WH.only 5 _ rfl (by kernel_rfl) rfl (fun K hK => ?_)
    refine ow_store_cell _ _ _ rfl Try.sliceChgSize g5 0 rfl _ rfl rfl rfl _ _ HV5L.out (by simp) ?_
    apply Stop.go
    intro w9 Ho9 Hb9
    have hSn := hSn.only Ho9.out Hx1.out; refine hK _ _ hSn ?_; clear hK; clear K; simp only [Act.put, List.set_cons_zero, List.set_cons_succ]
    refine WH.done (by kernel_rfl) ?_
    clear hSn
    go_wp2_with fail
    go_end0
    have a1 := S1.out.lo
    have a2 := S1.out.hi
    have B1 := bt S1.out.bel Hex.out
    have B5 : Below w0.heap.size w0 wL := B1.trans (HbL.out.mono (by omega))
    have B6 := bonly B5 Ho9.out a1
    refine ⟨rfl, a1, a2, B6, ?_, _, Hb9.out, ?_⟩
    · rw [Ho9.out.size]; exact Nat.le_trans hBw HbL.out.size
    · rw [HE.out]
      exact HL.out.only2 HV5L.out (fun x hx => by
        simp only [List.mem_singleton] at hx
        subst hx
        exact ⟨fun z e => (by cases e), fun z e => (by cases e)⟩) Ho9.out a2)
  focus (
    go_simp; refine (copied_any c Ad nd cd An nn cn hd hnn _ (Hcv1.out.below Hex.out)).mono ?_; rintro e wa ⟨Ad7, nd7, cd7, An7, nn7, cn7, rfl, hcv7, f7, g7, hb7⟩; go_simp
    have Hcv7 := Lib.hid hcv7
    have Hf7 := Lib.hid (And.intro f7 g7)
    have HzS := Lib.hid Hex.out.size
    have Hex := Lib.hid (bt Hex.out hb7)
    have hSn := hSn.ext hb7; refine hK _ _ hSn ?_; clear hK; clear K; simp only [List.set_cons_zero, List.set_cons_succ]
    refine WH.two 0 3 _ _ rfl rfl (by kernel_rfl) rfl rfl (fun K hK => ?_) (fun K hK => ?_)
    focus (
      refine ow_load_cell _ _ rfl ⟨g5, 0, none⟩ rfl _ ((Hex.out.cell (block_lt_of_cell C5.out)).trans C5.out) _ Try.underlying26 rfl ?_
      have hSn := hSn; refine hK _ _ hSn ?_; clear hK; clear K; simp only [Act.put, List.setIfInBounds_toArray, List.set_cons_zero, List.set_cons_succ]
      refine WH.only 3 _ rfl (by kernel_rfl) rfl (fun K hK => ?_)
      refine ow_build_row _ _ _ rfl Try.underlying26 5 72 _ Try.chgInfo (by decide) (by decide) #[.int .i64 c.id, .int .i64 c.block, .int .i64 c.p.at_, .slice Ad7 nd7 cd7, .slice An7 nn7 cn7] rfl rfl ?_
      apply Stop.go
      intro wB HgB HbB
      have HcZ := Lib.hid (Hcv7.out.below HgB.out.1)
      have Hex := Lib.hid (bt Hex.out HgB.out.1)
      have hSn := hSn.ext HgB.out.1; refine hK _ _ hSn ?_; clear hK; clear K; simp only [Act.put, List.setIfInBounds_toArray, List.set_cons_zero, List.set_cons_succ]
      refine WH.only 4 _ rfl (by kernel_rfl) rfl (fun K hK => ?_)
      have hBw : B ≤ wB.heap.size := Nat.le_trans S1.out.size Hex.out.size
      refine ow_append_L RdC _ _ _ _ rfl Try.underlying26 5 72 _ Try.chgInfo rfl (by decide) B _ L rfl (HV.out.ext Hex.out) _ _ rfl HbB.out rfl (by simp [Value.oneCell']) c HcZ.out.rd (fun q hq e => far5 hq (fun e2 => by
          have h1 := (HV.out.lt q e).2
          have h3 := HzS.out
          cases hA : Ad7 with
          | none => rw [hA] at e2; cases e2
          | some a => rw [hA] at e2; have h2 := Hf7.out.1 a hA; injection e2 with e2; have e3 : a.block = q := e2; omega) (fun e2 => by
          have h1 := (HV.out.lt q e).2
          have h3 := HzS.out
          cases hA : An7 with
          | none => rw [hA] at e2; cases e2
          | some a => rw [hA] at e2; have h2 := Hf7.out.2 a hA; injection e2 with e2; have e3 : a.block = q := e2; omega)) hBw (by have := Hlk.out; have := Hil.out; omega) (by have := Hlk.out; have := Hil.out; omega) ?_
      apply Stop.go
      intro gL capL wL HL HbL HgL HwL
      have HV5L := Lib.hid ((HV5.out.ext Hex.out).below HbL.out S1.out.hi)
      have hxv : (Value.slice Av L.length cv).ownBlock ≠ some w.heap.size := fun e => by
        have := Hvlt.out _ e
        omega
      have hSn := Blk.grown hSn HgL.out (fun e => hxv e.symm); refine hK _ _ hSn ?_; clear hK; clear K; simp only [Act.put, List.setIfInBounds_toArray, List.set_cons_zero, List.set_cons_succ]
      refine WH.only 5 _ rfl (by kernel_rfl) rfl (fun K hK => ?_)
      refine ow_store_cell _ _ _ rfl Try.sliceChgSize g5 0 rfl _ rfl rfl rfl _ _ HV5L.out (by simp) ?_
      apply Stop.go
      intro w9 Ho9 Hb9
      have hSn := hSn.only Ho9.out Hx1.out; refine hK _ _ hSn ?_; clear hK; clear K; simp only [Act.put, List.set_cons_zero, List.set_cons_succ]
      refine WH.done (by kernel_rfl) ?_
      clear hSn
      go_wp2_with fail
      go_end0
      have a1 := S1.out.lo
      have a2 := S1.out.hi
      have B1 := bt S1.out.bel Hex.out
      have B5 : Below w0.heap.size w0 wL := B1.trans (HbL.out.mono (by omega))
      have B6 := bonly B5 Ho9.out a1
      refine ⟨rfl, a1, a2, B6, ?_, _, Hb9.out, ?_⟩
      · rw [Ho9.out.size]; exact Nat.le_trans hBw HbL.out.size
      · rw [HE.out]
        exact HL.out.only2 HV5L.out (fun x hx => by
          simp only [List.mem_singleton] at hx
          subst hx
          exact ⟨fun z e => (by cases e), fun z e => (by cases e)⟩) Ho9.out a2)
    focus (
      refine ow_build_row _ _ _ rfl Try.underlying26 5 72 _ Try.chgInfo (by decide) (by decide) #[.int .i64 c.id, .int .i64 c.block, .int .i64 c.p.at_, .slice Ad7 nd7 cd7, .slice An7 nn7 cn7] rfl rfl ?_
      apply Stop.go
      intro wB HgB HbB
      have HcZ := Lib.hid (Hcv7.out.below HgB.out.1)
      have Hex := Lib.hid (bt Hex.out HgB.out.1)
      have hSn := hSn.ext HgB.out.1; refine hK _ _ hSn ?_; clear hK; clear K; simp only [Act.put, List.setIfInBounds_toArray, List.set_cons_zero, List.set_cons_succ]
      refine WH.only 0 _ rfl (by kernel_rfl) rfl (fun K hK => ?_)
      refine ow_load_cell _ _ rfl ⟨g5, 0, none⟩ rfl _ ((Hex.out.cell (block_lt_of_cell C5.out)).trans C5.out) _ Try.underlying26 rfl ?_
      have hSn := hSn; refine hK _ _ hSn ?_; clear hK; clear K; simp only [Act.put, List.setIfInBounds_toArray, List.set_cons_zero, List.set_cons_succ]
      refine WH.only 4 _ rfl (by kernel_rfl) rfl (fun K hK => ?_)
      have hBw : B ≤ wB.heap.size := Nat.le_trans S1.out.size Hex.out.size
      refine ow_append_L RdC _ _ _ _ rfl Try.underlying26 5 72 _ Try.chgInfo rfl (by decide) B _ L rfl (HV.out.ext Hex.out) _ _ rfl HbB.out rfl (by simp [Value.oneCell']) c HcZ.out.rd (fun q hq e => far5 hq (fun e2 => by
          have h1 := (HV.out.lt q e).2
          have h3 := HzS.out
          cases hA : Ad7 with
          | none => rw [hA] at e2; cases e2
          | some a => rw [hA] at e2; have h2 := Hf7.out.1 a hA; injection e2 with e2; have e3 : a.block = q := e2; omega) (fun e2 => by
          have h1 := (HV.out.lt q e).2
          have h3 := HzS.out
          cases hA : An7 with
          | none => rw [hA] at e2; cases e2
          | some a => rw [hA] at e2; have h2 := Hf7.out.2 a hA; injection e2 with e2; have e3 : a.block = q := e2; omega)) hBw (by have := Hlk.out; have := Hil.out; omega) (by have := Hlk.out; have := Hil.out; omega) ?_
      apply Stop.go
      intro gL capL wL HL HbL HgL HwL
      have HV5L := Lib.hid ((HV5.out.ext Hex.out).below HbL.out S1.out.hi)
      have hxv : (Value.slice Av L.length cv).ownBlock ≠ some w.heap.size := fun e => by
        have := Hvlt.out _ e
        omega
      have hSn := Blk.grown hSn HgL.out (fun e => hxv e.symm); refine hK _ _ hSn ?_; clear hK; clear K; simp only [Act.put, List.setIfInBounds_toArray, List.set_cons_zero, List.set_cons_succ]
      refine WH.only 5 _ rfl (by kernel_rfl) rfl (fun K hK => ?_)
      refine ow_store_cell _ _ _ rfl Try.sliceChgSize g5 0 rfl _ rfl rfl rfl _ _ HV5L.out (by simp) ?_
      apply Stop.go
      intro w9 Ho9 Hb9
      have hSn := hSn.only Ho9.out Hx1.out; refine hK _ _ hSn ?_; clear hK; clear K; simp only [Act.put, List.set_cons_zero, List.set_cons_succ]
      refine WH.done (by kernel_rfl) ?_
      clear hSn
      go_wp2_with fail
      go_end0
      have a1 := S1.out.lo
      have a2 := S1.out.hi
      have B1 := bt S1.out.bel Hex.out
      have B5 : Below w0.heap.size w0 wL := B1.trans (HbL.out.mono (by omega))
      have B6 := bonly B5 Ho9.out a1
      refine ⟨rfl, a1, a2, B6, ?_, _, Hb9.out, ?_⟩
      · rw [Ho9.out.size]; exact Nat.le_trans hBw HbL.out.size
      · rw [HE.out]
        exact HL.out.only2 HV5L.out (fun x hx => by
          simp only [List.mem_singleton] at hx
          subst hx
          exact ⟨fun z e => (by cases e), fun z e => (by cases e)⟩) Ho9.out a2))

set_option maxRecDepth 100000 in
set_option maxHeartbeats 4000000 in
theorem pof_any (A : Option Addr) (n cap : Nat) (l : List Cg) (hn : l.length = n) (hm : n ≤ 4096) (hD : ∀ c ∈ l, c.p.data.length ≤ 4096 ∧ c.needs.length ≤ 4096) (block : Int) (w : World) (hr : RdL RdC w A 5 l) :
    Calls Try.prog 30 #[.slice A n cap, .int .i64 block] w (RetC w (ofC l block)) := by
  have hmf : ∀ (fn : Fn) (first cap : Array Value) (w : World), (Instr.makeFunc fn first cap).run Try.prog w = .ok (.func fn first cap) w := fun _ _ _ _ => rfl
  have Hn := Lib.hid hn
  have Hr := Lib.hid hr
  have HDD := Lib.hid hD
  clear hn hr hD
  go_enter Try.func30, Try.ntmps30
  go_wp2_with (refine wpList_alloc_one rfl _ rfl _ Try.sliceChgZero rfl ?_)
  apply Stop.go; intro w1 Hg1 Hb1
  have HS0 := Lib.hid (show OSt w w1 w.heap.size w1.heap.size l block 0 from ⟨Nat.le_refl _, by have := Hg1.out.2; omega, Hg1.out.1, Nat.le_refl _, _, Hb1.out, OwnL.nil_ _ _ _ _ _⟩)
  clear Hg1 Hb1
  generalize w.heap.size = g5 at HS0 ⊢
  generalize w1.heap.size = B at HS0 ⊢
  have HE := Lib.hid (each1_any 46 (.pointer (some ⟨g5, 0, none⟩)) A n cap l Hn.out hm block (fun i w' => OSt w w' g5 B l block i) w1
      Try.enterOf1 (fun i w' h => Hr.out.below h.bel) (fun i w' w'' h hb => h.ext hb) (fun i w' h hb hs => hs.skip h hb)
      (fun i w' h Ad nd cd An nn cn hb hcv hs => by
        have hd := HDD.out l[i] (List.getElem_mem h)
        rw [hcv.p.len, hcv.len] at hd
        exact of1_any w g5 B l block i h (by rw [Hn.out]; exact hm) Ad nd cd An nn cn hd.1 hd.2 w' hb hcv hs) HS0.out)
  go_wp2_with fail
  refine (HE.out).mono ?_; rintro e w12 ⟨rfl, hs⟩
  obtain ⟨v, hv5, hv⟩ := hs.v5
  rw [List.take_of_length_le (by rw [Hn.out]; exact Nat.le_refl _)] at hv
  have c5 : w12.cell? ⟨g5, 0, none⟩ = some v := hv5.cell 0
  have Hv := Lib.hid hv
  have Hbel := Lib.hid hs.bel
  clear hs hv hv5 HE
  obtain ⟨Av, cv, rfl, hv1, hv2, -⟩ := Hv.out.read
  clear hv1 hv2
  go_wp2_with fail
  go_ret
  exact Hv.out.retC Hbel.out

end Go.Proofs.Ytckkdfpmibipfaa
