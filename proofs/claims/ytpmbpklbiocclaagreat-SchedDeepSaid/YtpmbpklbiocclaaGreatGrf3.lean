/-
  The contract of package graph's waits.
-/
import Derived.Test.YtpmbpklbiocclaaGreatGrf2
import Derived.Test.YtpmbpklbiocclaaGreatGrAJ
namespace Go.Proofs.YtpmbpklbiocclaaGreat
open Go.RowKit

theorem Tryz.intsInfoG : (Tryz.prog.info? 59).map (fun i => (i.zero, i.size, i.bytes)) = some (some (.slice none 0 0), 1, 24) := by kernel_rfl
structure W1 (l : List Cg) (at_ : Nat) (X : Nat ⊕ Int → List Int) : Prop where
  blk : ∀ b, X (.inr b) = ns (plB l at_ b)
  row : ∀ k, k < at_ → ∀ y, y ∈ X (.inl k) ↔ NdB l k y
  none : ∀ k, at_ ≤ k → X (.inl k) = []
  len : ∀ k, (X (.inl k)).length ≤ 4096
structure W2 (l : List Cg) (a j : Nat) (X1 X : Nat ⊕ Int → List Int) : Prop where
  other : ∀ b, X (.inr b) = X1 (.inr b)
  off : ∀ k, k ≠ a → X (.inl k) = X1 (.inl k)
  on : ∀ y, y ∈ X (.inl a) ↔ ∃ q : Nat, q < l.length ∧ y = q ∧ (cgA l q).id ∈ (cgA l a).needs.take j
  len : (X (.inl a)).length ≤ j
theorem W1.start (l : List Cg) : W1 l 0 (fun _ => []) := ⟨fun b => by rw [plB_zero]; rfl, fun k h => absurd h (Nat.not_lt_zero _), fun _ _ => rfl, fun _ => by simp⟩
theorem W2.start {l : List Cg} {a : Nat} {X : Nat ⊕ Int → List Int} (h : W1 l a X) : W2 l a 0 X X :=
  ⟨fun _ => rfl, fun _ _ => rfl, fun y => by rw [h.none a (Nat.le_refl _)]; simp, by rw [h.none a (Nat.le_refl _)]; simp⟩
theorem W2.skip {l : List Cg} {a j : Nat} {X1 X : Nat ⊕ Int → List Int} (h : W2 l a j X1 X) (hj : j < (cgA l a).needs.length) (hn : ∀ c ∈ l, c.id ≠ (cgA l a).needs[j]) : W2 l a (j + 1) X1 X :=
  ⟨h.other, h.off, fun y => by
    rw [h.on y]
    constructor
    · rintro ⟨q, h1, h2, h3⟩
      exact ⟨q, h1, h2, by rw [List.take_succ_eq_append_getElem hj]; exact List.mem_append.2 (Or.inl h3)⟩
    · rintro ⟨q, h1, h2, h3⟩
      rw [List.take_succ_eq_append_getElem hj] at h3
      rcases List.mem_append.1 h3 with h4 | h4
      · exact ⟨q, h1, h2, h4⟩
      · exact absurd (List.mem_singleton.1 h4) (hn _ (by rw [cgA_eq h1]; exact List.getElem_mem _)), by have := h.len; omega⟩
theorem W2.add {l : List Cg} (hm : mayC l = true) {a j p : Nat} {X1 X : Nat ⊕ Int → List Int} (h : W2 l a j X1 X) (hj : j < (cgA l a).needs.length) (hp : p < l.length) (hn : l[p].id = (cgA l a).needs[j]) : W2 l a (j + 1) X1 (updF X (.inl a) (X (.inl a) ++ [(p : Int)])) :=
  ⟨fun b => by rw [updF_other _ _ (by simp)]; exact h.other b, fun k hk => by rw [updF_other _ _ (by simpa using hk)]; exact h.off k hk, fun y => by
    rw [updF_same, List.mem_append, h.on y]
    constructor
    · rintro (⟨q, h1, h2, h3⟩ | h1)
      · exact ⟨q, h1, h2, by rw [List.take_succ_eq_append_getElem hj]; exact List.mem_append.2 (Or.inl h3)⟩
      · refine ⟨p, hp, by simpa using h1, ?_⟩
        rw [List.take_succ_eq_append_getElem hj]
        exact List.mem_append.2 (Or.inr (by rw [cgA_eq hp, hn]; exact List.mem_singleton.2 rfl))
    · rintro ⟨q, h1, h2, h3⟩
      rw [List.take_succ_eq_append_getElem hj] at h3
      rcases List.mem_append.1 h3 with h4 | h4
      · exact Or.inl ⟨q, h1, h2, h4⟩
      · have e := List.mem_singleton.1 h4
        rw [cgA_eq h1, ← hn] at e
        have := mayC_ids hm h1 hp e
        subst this
        exact Or.inr (by simp [h2]), by rw [updF_same]; have := h.len; simp; omega⟩
theorem W1.next {l : List Cg} {a : Nat} {X1 X : Nat ⊕ Int → List Int} (h : W1 l a X1) (h2 : W2 l a (cgA l a).needs.length X1 X) (hn : (cgA l a).needs.length ≤ 4096) : W1 l (a + 1) (updF X (.inr (cgA l a).block) (X (.inr (cgA l a).block) ++ [(a : Int)])) where
  blk b := by
    by_cases e : b = (cgA l a).block
    · subst e
      rw [updF_same, h2.other, h.blk, ns_snoc, plB_on rfl]
    · rw [updF_other _ _ (by simpa using e), h2.other, h.blk, plB_off (fun e2 => e e2.symm)]
  row k hk y := by
    rw [updF_other _ _ (by simp)]
    by_cases e : k = a
    · subst e
      rw [h2.on y, List.take_length]
      rfl
    · rw [h2.off k e]
      exact h.row k (by omega) y
  none k hk := by
    rw [updF_other _ _ (by simp), h2.off k (by omega)]
    exact h.none k (by omega)
  len k := by
    rw [updF_other _ _ (by simp)]
    by_cases e : k = a
    · subst e; have := h2.len; omega
    · rw [h2.off k e]; exact h.len k
def MM (m : Int → Option Value) (S : Nat ⊕ Int → Value) : Prop := ∀ b, (m b).getD nilS = S (.inr b)
theorem MM.upd {m : Int → Option Value} {S : Nat ⊕ Int → Value} (h : MM m S) (b : Int) (v : Value) : MM (updM m b (some v)) (updF S (.inr b) v) := fun k => by
  unfold updM
  by_cases e : k = b
  · subst e; rw [if_pos rfl, updF_same]; rfl
  · rw [if_neg e, updF_other _ _ (by simpa using e)]; exact h k
theorem MM.inl {m : Int → Option Value} {S : Nat ⊕ Int → Value} (h : MM m S) (a : Nat) (v : Value) : MM m (updF S (.inl a) v) := fun k => by
  rw [updF_other _ _ (by simp)]; exact h k

structure W3 (l : List Cg) (left : Int → Bool) (X X3 : Nat ⊕ Int → List Int) : Prop where
  other : ∀ b, X3 (.inr b) = X (.inr b)
  yet : ∀ k, k < l.length → left (cgA l k).block = true → X3 (.inl k) = X (.inl k)
  on : ∀ k, k < l.length → left (cgA l k).block = false → ∀ y, y ∈ X3 (.inl k) ↔ y ∈ X (.inl k) ∨ MtB l (plB l l.length (cgA l k).block) k y
  len : ∀ k, (X3 (.inl k)).length ≤ 4096 + 256
theorem W3.start {l : List Cg} {n : Nat} {left : Int → Bool} {X : Nat ⊕ Int → List Int} (h : W1 l n X) (hs : ∀ k, k < l.length → left (cgA l k).block = true) : W3 l left X X :=
  ⟨fun _ => rfl, fun _ _ _ => rfl, fun k hk hf => (by rw [hs k hk] at hf; cases hf), fun k => by have := h.len k; omega⟩
theorem W3.next {l : List Cg} {left : Int → Bool} {b : Int} {X X3 X4 : Nat ⊕ Int → List Int} (hX : ∀ k, (X (.inl k)).length ≤ 4096) (h : W3 l left X X3) (hb : left b = true) (hm : Met l (plB l l.length b) (plB l l.length b).length X3 X4) : W3 l (fun j => left j && !decide (j = b)) X X4 where
  other c := by rw [hm.other, h.other]
  yet k hk hl := by
    simp only [Bool.and_eq_true, Bool.not_eq_true', decide_eq_false_iff_not] at hl
    rw [hm.off k (by rw [List.take_length, plB_mem]; exact fun e => hl.2 e.2)]
    exact h.yet k hk hl.1
  on k hk hl y := by
    by_cases e : (cgA l k).block = b
    · rw [hm.on k (by rw [List.take_length, plB_mem]; exact ⟨hk, e⟩) y, h.yet k hk (by rw [e]; exact hb), e]
    · rw [hm.off k (by rw [List.take_length, plB_mem]; exact fun e2 => e e2.2)]
      exact h.on k hk (by simpa [e] using hl) y
  len k := by
    by_cases e : k ∈ plB l l.length b
    · obtain ⟨e1, e2⟩ := plB_mem.1 e
      have := hm.len k
      rw [h.yet k e1 (by rw [e2]; exact hb)] at this
      have := hX k
      omega
    · rw [hm.off k (by rw [List.take_length]; exact e)]
      exact h.len k
theorem rows_done {l : List Cg} (hm : mayC l = true) {X : Nat ⊕ Int → List Int} (hX : ∀ k, k < l.length → ∀ y, y ∈ X (.inl k) ↔ (NdB l k y ∨ MtB l (plB l l.length (cgA l k).block) k y)) :
    RowsOK l l.length (fun i => (sortI (X (.inl i))).map Int.toNat) ∧ ∀ i, i < l.length → ns ((sortI (X (.inl i))).map Int.toNat) = sortI (X (.inl i)) := by
  have pos : ∀ k, k < l.length → ∀ y, y ∈ X (.inl k) → 0 ≤ y := fun k hk y hy => by
    rcases (hX k hk y).1 hy with ⟨j, _, e, _⟩ | ⟨q, _, h1, h2⟩
    · omega
    · omega
  have pos2 : ∀ k, k < l.length → ∀ y, y ∈ sortI (X (.inl k)) → 0 ≤ y := fun k hk y hy => pos k hk y (((sortI_rises _).2 y).1 hy)
  refine ⟨rows_ok hm (fun i hi => ?_) (fun i hi k => ?_), fun i hi => ?_⟩
  · rw [List.pairwise_map]
    refine List.Pairwise.imp_of_mem ?_ (sortI_rises (X (.inl i))).1
    intro a b ha hb hab
    have := pos2 i hi a ha
    have := pos2 i hi b hb
    omega
  · rw [← hX i hi k, ← (sortI_rises (X (.inl i))).2, List.mem_map]
    constructor
    · rintro ⟨y, hy, e⟩
      have := pos2 i hi y hy
      have e2 : y = k := by omega
      rw [← e2]
      exact hy
    · intro h
      exact ⟨_, h, by simp⟩
  · unfold ns
    rw [List.map_map]
    have : ∀ y ∈ sortI (X (.inl i)), ((fun (k : Nat) => (k : Int)) ∘ Int.toNat) y = y := fun y hy => by
      have := pos2 i hi y hy
      show ((y.toNat : Nat) : Int) = y
      omega
    rw [List.map_congr_left this, List.map_id']
def RetR (l : List Cg) (w : World) (e : Ending) (w' : World) : Prop := ∃ (gR c : Nat) (S : Nat → Value) (R : Nat → List Nat), e = .returned (.slice (some ⟨gR, 0, none⟩) l.length c) ∧ l.length ≤ c ∧ c ≤ maxLen ∧ RowsOK l l.length R ∧ w.heap.size ≤ gR ∧ Blk w' gR 59 (vc l.length S) ∧ (∀ i, i < l.length → OwnC w' w.heap.size 3 (S i) (ivals (ns (R i)))) ∧ Below w.heap.size w w'

set_option maxRecDepth 100000 in
set_option maxHeartbeats 16000000 in
theorem gwaits_any (A : Option Addr) (n cap : Nat) (l : List Cg) (hl : l.length = n) (hm : n ≤ 4096) (hmay : mayC l = true) (hN : ∀ c ∈ l, c.needs.length ≤ 4096) (w : World) (hr : RdL RdC w A 5 l) :
    Calls Tryz.prog 73 #[.slice A n cap] w (RetR l w) := by
  have Hl := Lib.hid hl
  have Hr := Lib.hid hr
  have HMay := Lib.hid hmay
  have HNN := Lib.hid hN
  clear hl hr hmay hN
  go_enter Tryz.func73, Tryz.ntmps73
  go_wp2_with (refine wpList_make_zero rfl _ _ _ _ rfl Tryz.underlying137 (.slice none 0 0) 24 Tryz.intsInfoG rfl .i64 .i64 _ _ n rfl rfl rfl rfl (by omega) (by omega) (vc n fun _ => .slice none 0 0) (vc_rep n _) ?_)
  apply Stop.go; intro w1 Hg1 Hb1
  go_wp2_with (refine wpList_makeV rfl _ rfl 3 ?_)
  apply Stop.go; intro w2 Hg2 Hm2
  have HgR : Hid (w.heap.size < w1.heap.size) := Lib.hid (by have := Hg1.out.2; omega)
  have HR2 := Lib.hid (Hb1.out.ext Hg2.out.1)
  have Hw2 := Lib.hid (bt Hg1.out.1 Hg2.out.1)
  have Hz2 := Lib.hid Hg2.out.2
  clear Hb1 Hg1 Hg2
  generalize hgM : w1.heap.size = gM at *
  generalize hgR : w.heap.size = gR at *
  clear hgM
  have HG : Hid (∀ r, (r = gR ∨ r = gM) → gR ≤ r) := Lib.hid fun r h => by have := HgR.out; omega
  have Hsz := Lib.hid hgR
  rw [← hgR] at Hw2
  clear hgR
  go_wp2_with fail
  go_loopw [21] (fun i wr => ∃ (t N : Nat) (S : Nat ⊕ Int → Value) (X : Nat ⊕ Int → List Int) (m : Int → Option Value), t ≤ n ∧ i = .int .i64 t ∧ N ≤ t ∧ Fam wr (gM + 1) 3 S X ∧ Blk wr gR 59 (vc n fun k => S (.inl k)) ∧ MapV wr Tryz.prog 3 gM N m ∧ MM m S ∧ W1 l t X ∧ Turns (fun r => r = gR ∨ r = gM) w2 wr (fun _ : Nat ⊕ Int => nilS) S ∧ (∀ b, plB l t b ≠ [] → (m b).isSome = true)) (fun i _ => n - (intOf i).toNat)
  case atStart => exact ⟨0, 0, fun _ => nilS, fun _ => [], fun _ => none, Nat.zero_le _, rfl, Nat.le_refl _, Fam.none _ _ _, HR2.out, Hm2.out, fun _ => rfl, W1.start l, Turns.refl _ _ _, fun b h => absurd (plB_zero l b) h⟩
  case round =>
    obtain ⟨t, N, S, X, m, ht, rfl, hNt, hF, hR, hM, hMM, hW, hT, hHas⟩ := hrel
    have HF := Lib.hid hF
    have HR := Lib.hid hR
    have HM := Lib.hid hM
    have HMM := Lib.hid hMM
    have HW := Lib.hid hW
    have HT := Lib.hid hT
    have HHas := Lib.hid hHas
    have HBw := Lib.hid (Hw2.out.trans (hT.below (B := w.heap.size) (fun r h => by have := HG.out r h; have := Hsz.out; omega) (fun i k e => by cases e) Hw2.out.size))
    clear hF hR hM hMM hW hT hHas
    by_cases hlt : t < n
    · have d0 : decide ((t : Int) < n) = true := by simpa using hlt
      have z1 : (t : Int) < n := by omega
      have htl : t < l.length := by have := Hl.out; omega
      obtain ⟨ad, Ad, nd, cd, An, nn, cn, rfl, hcv, h0, h1, h2, h3, h4⟩ := Hr.out.cgk htl
      have hnn := HNN.out _ (show cgA l t ∈ l by rw [cgA_eq htl]; exact List.getElem_mem _)
      have HNx := Lib.hid (fun X' => HW.out.next (X := X') )
      have Hwb := Lib.hid (wf_int hcv.lo1 hcv.hi1)
      have Hp0 := Lib.hid (fun b => (⟨fun h => plB_on h, fun h => plB_off h⟩ : ((cgA l t).block = b → plB l (t + 1) b = plB l t b ++ [t]) ∧ ((cgA l t).block ≠ b → plB l (t + 1) b = plB l t b)))
      obtain ⟨c, hc⟩ : ∃ c, cgA l t = c := ⟨_, rfl⟩
      have HSk := Lib.hid (fun j (X1 X : Nat ⊕ Int → List Int) (h : W2 l t j X1 X) (hj : j < c.needs.length) (hn : ∀ d ∈ l, d.id ≠ c.needs[j]) => W2.skip h (by rw [hc]; exact hj) (by intro d hd; have := hn d hd; subst hc; exact this))
      have HAd := Lib.hid (fun j p (X1 X : Nat ⊕ Int → List Int) (h : W2 l t j X1 X) (hj : j < c.needs.length) (hp : p < l.length) (hn : l[p].id = c.needs[j]) => W2.add HMay.out h (by rw [hc]; exact hj) hp (by subst hc; exact hn))
      rw [hc] at hcv h0 h1 h2 hnn HNx Hwb Hp0
      clear hc
      rw [hcv.len] at hnn HNx
      have C0 := Lib.hid ((HBw.out.cell (block_lt_of_cell h0)).trans h0)
      have C1 := Lib.hid ((HBw.out.cell (block_lt_of_cell h1)).trans h1)
      have C2 := Lib.hid ((HBw.out.cell (block_lt_of_cell h2)).trans h2)
      have C3 := Lib.hid ((HBw.out.cell (block_lt_of_cell h3)).trans h3)
      have C4 := Lib.hid ((HBw.out.cell (block_lt_of_cell h4)).trans h4)
      have Hcv := Lib.hid hcv
      clear h0 h1 h2 h3 h4 hcv
      go_wp2_with (first | refine wpList_load_five rfl _ _ rfl (ad.add (t * 5)) rfl _ _ _ _ _ C0.out C1.out C2.out C3.out C4.out _ Tryz.underlying88 Tryz.chgSize ?_ | refine wpList_alloc_row rfl _ rfl _ Tryz.chgZero ?_); apply Stop.go; intro w3 Hg3 Hb3; go_wp2_with (refine wpList_store_arr rfl _ _ _ rfl _ #[.int .i64 c.id, .int .i64 c.block, .int .i64 c.p.at_, .slice Ad nd cd, .slice An nn cn] rfl rfl _ _ Hb3.out Tryz.chgSize rfl (by simp [Value.oneCell']) ?_); apply Stop.go; intro w4 Ho4 Hb4; have D4 := Lib.hid (bonly Hg3.out.1 Ho4.out (Nat.le_refl _))
      have HNc := Lib.hid (HF.out.no (r := wr.heap.size) (Or.inr (Nat.le_refl _)))
      have Hgc : Hid (gM < wr.heap.size) := Lib.hid HM.out.lt
      have HF4 := Lib.hid (HF.out.ext D4.out)
      have HR4 := Lib.hid (HR.out.ext D4.out)
      have HM4 := Lib.hid (HM.out.ext D4.out)
      have HT4 := Lib.hid (HT.out.trans (Turns.of_below (fun r => r = gR ∨ r = gM) S D4.out))
      clear HF HR HM HT D4 Hg3 Hb3 Ho4 HBw C0 C1 C2 C3 C4
      generalize wr.heap.size = gc at *
      have c1 : w4.cell? ⟨gc, 4, none⟩ = some (.slice An nn cn) := Hb4.out.cell 4
      go_wp2_with fail
      clear c1
      go_loopw [29] (fun i wr => ∃ (j : Nat) (S2 : Nat ⊕ Int → Value) (X2 : Nat ⊕ Int → List Int), j ≤ nn ∧ i = .int .i64 j ∧ Fam wr (gM + 1) 3 S2 X2 ∧ Blk wr gR 59 (vc n fun k => S2 (.inl k)) ∧ MapV wr Tryz.prog 3 gM N m ∧ MM m S2 ∧ Blk wr gc 88 #[.int .i64 c.id, .int .i64 c.block, .int .i64 c.p.at_, .slice Ad nd cd, .slice An nn cn] ∧ W2 l t j X X2 ∧ Turns (fun r => r = gR ∨ r = gM) w2 wr (fun _ : Nat ⊕ Int => nilS) S2 ∧ NoB S2 gc) (fun i _ => nn - (intOf i).toNat)
      case atStart => exact ⟨0, S, X, Nat.zero_le _, rfl, HF4.out, HR4.out, HM4.out, HMM.out, Hb4.out, W2.start HW.out, HT4.out, HNc.out⟩
      case round =>
        obtain ⟨j, S2, X2, hj, rfl, hF, hR, hM, hMM, hQ, hW2, hT, hN2⟩ := hrel
        have HF := Lib.hid hF
        have HR := Lib.hid hR
        have HM := Lib.hid hM
        have HMM2 := Lib.hid hMM
        have HQ := Lib.hid hQ
        have HW2 := Lib.hid hW2
        have HT := Lib.hid hT
        have HNq := Lib.hid hN2
        have HBw := Lib.hid (Hw2.out.trans (hT.below (B := w.heap.size) (fun r h => by have := HG.out r h; have := Hsz.out; omega) (fun i k e => by cases e) Hw2.out.size))
        clear hF hR hM hMM hQ hW2 hT hN2 HF4 HR4 HM4 HT4 Hb4 HNc
        by_cases hjl : j < nn
        · have d1 : decide ((j : Int) < nn) = true := by simpa using hjl
          have hjn : j < c.needs.length := by have := Hcv.out.len; omega
          obtain ⟨an, rfl, k0⟩ := (Hcv.out.read.below HBw.out).int j hjn
          have HSj := Lib.hid (fun X1 X h hn => HSk.out j X1 X h hjn hn)
          have HAj := Lib.hid (fun p X1 X h hp hn => HAd.out j p X1 X h hjn hp hn)
          generalize c.needs[j] = z at *
          clear hjn
          go_wp2_with fail
          refine (gfind_any (some ad) n cap l Hl.out hm z HMay.out _ (Hr.out.below HBw.out)).mono ?_; rintro e w5 ⟨p, bb, rfl, hf, hb5⟩
          have Hf := Lib.hid hf
          have HF5 := Lib.hid (HF.out.ext hb5)
          have HR5 := Lib.hid (HR.out.ext hb5)
          have HM5 := Lib.hid (HM.out.ext hb5)
          have HQ5 := Lib.hid (HQ.out.ext hb5)
          have HT5 := Lib.hid (HT.out.trans (Turns.of_below (fun r => r = gR ∨ r = gM) S2 hb5))
          clear hf hb5 HF HR HM HQ HT HBw k0
          cases bb
          · have HX := Lib.hid (HSj.out _ _ HW2.out (Hf.out.2 rfl))
            clear Hf HSj HAj
            go_wp2_with fail
            go_roundw
            case rel => exact ⟨j + 1, S2, X2, by omega, by go_num, HF5.out, HR5.out, HM5.out, HMM2.out, HQ5.out, HX.out, HT5.out, HNq.out⟩
            case measure => simp [intOf]; omega
          · obtain ⟨hpl, hpid⟩ := Hf.out.1 rfl
            have HX := Lib.hid (HAj.out p _ _ HW2.out hpl hpid)
            have k2 : w5.cell? ⟨gR, t, none⟩ = some (S2 (.inl t)) := by rw [HR5.out.cell, vc_get _ hlt]
            have hl1 : (X2 (.inl t)).length + 1 ≤ maxLen := by have := HW2.out.len; unfold maxLen; omega
            have hl2 : ((X2 (.inl t)).length + 1) * 8 ≤ 140737488355328 := by have := HW2.out.len; omega
            have Ho2 := Lib.hid (HF5.out.own (.inl t))
            have Hal := Lib.hid (Grew.alloc w5 (.cells #[.int .i64 (p : Int)] 3)).1
            have Hbz : Hid (gM + 1 ≤ w5.heap.size) := Lib.hid HM5.out.lt
            clear Hf HSj HAj hpl hpid
            go_wp2_with (at_builtin; refine wpList_append_int rfl _ _ _ _ rfl Tryz.underlying59 (.int .i64 0) 8 Tryz.infoInt rfl (gM + 1) (S2 (.inl t)) (X2 (.inl t)) rfl (Ho2.out.ext Hal.out) (p : Int) _ rfl _ (Blk.new _ _ _) (Nat.le_trans Hbz.out Hal.out.size) hl1 hl2 ?_)
            apply Stop.go
            intro v' w6 Hv' Ha' Hl'
            have HR6 := Lib.hid (Hl'.out.blk (HR5.out.ext Hal.out) (HF5.out.no (Or.inl (by have := HgR.out; omega)) _))
            have HM6 := Lib.hid ((HM5.out.ext Hal.out).below Ha'.out.below (Nat.lt_succ_self _))
            have HQ6 := Lib.hid (Hl'.out.blk (HQ5.out.ext Hal.out) (HNq.out _))
            have HF6 := Lib.hid ((HF5.out.ext Hal.out).put Hl'.out Hv'.out)
            have HT6 := Lib.hid ((HT5.out.trans (Turns.of_below (fun r => r = gR ∨ r = gM) S2 Hal.out)).trans (Turns.of_lies _ Hl'.out))
            have HN6 := Lib.hid (HNq.out.upd Hl'.out (Nat.lt_of_lt_of_le HQ5.out.lt Hal.out.size))
            have HMM6 := Lib.hid (HMM2.out.inl t v')
            obtain ⟨Av, nv, cv, hve⟩ : ∃ A n c, v' = Value.slice A n c := by
              obtain ⟨A, c, e, _⟩ := Hv'.out.ints
              exact ⟨_, _, _, e⟩
            clear Hv' Ha' Hl' Hal k2 HF5 HR5 HM5 HQ5 HT5 Ho2
            subst hve
            go_wp2_with (refine wpList_store_cell rfl _ _ _ rfl Tryz.intsSzG gR t rfl _ rfl rfl rfl _ _ HR6.out (by rw [vc_size]; exact hlt) ?_)
            apply Stop.go; intro w7 Ho7 Hb7
            rw [vc_set, vc_congr (fun k _ => updF_inl S2 t _ k)] at Hb7
            have HF7 := Lib.hid (HF6.out.hi (HiS.of_only Ho7.out (by have := HgR.out; omega)))
            have HM7 := Lib.hid (HM6.out.only Ho7.out (Nat.ne_of_gt HgR.out))
            have HQ7 := Lib.hid (HQ6.out.only Ho7.out (by have := HgR.out; have := Hgc.out; omega))
            have HT7 := Lib.hid (HT6.out.trans (Turns.of_only _ Ho7.out (show (fun r => r = gR ∨ r = gM) gR from Or.inl rfl)))
            generalize updF S2 (Sum.inl t) (Value.slice Av nv cv) = S3 at *
            generalize updF X2 (Sum.inl t) (X2 (Sum.inl t) ++ [(p : Int)]) = X3 at *
            go_wp2_with fail
            go_roundw
            case rel => exact ⟨j + 1, S3, X3, by omega, by go_num, HF7.out, Hb7.out, HM7.out, HMM6.out, HQ7.out, HX.out, HT7.out, HN6.out⟩
            case measure => simp [intOf]; omega
        · have d1 : decide ((j : Int) < nn) = false := by simpa using hjl
          have hjn : nn = j := by omega
          subst hjn
          have HW3 := Lib.hid (HNx.out X2 HW2.out hnn)
          have Hex := Lib.hid (bdrew wr 1)
          go_wp2_with fail
          refine WH.start (S := fun w' : World => Blk w' gc 88 #[.int .i64 c.id, .int .i64 c.block, .int .i64 c.p.at_, .slice Ad nd cd, .slice An nn cn]) [false, false, false, false, false, false, false, false, false, false, false] 11 rfl rfl (by kernel_rfl) (HQ.out.ext (bdrew wr 1)) (fun hSn => ?_)
          obtain ⟨wS, hwS⟩ : ∃ x, wr.drew = x := ⟨_, rfl⟩
          rw [show wr.drewN 1 = wS from hwS] at Hex
          rw [hwS] at hSn ⊢
          clear hwS
          have HMS := Lib.hid (HM.out.ext Hex.out)
          have HFS := Lib.hid (HF.out.ext Hex.out)
          have HRS := Lib.hid (HR.out.ext Hex.out)
          have HTS := Lib.hid (HT.out.trans (Turns.of_below (fun r => r = gR ∨ r = gM) S2 Hex.out))
          have hl1 : (X2 (.inr c.block)).length + 1 ≤ maxLen := by rw [HW2.out.other, HW.out.blk, ns_len]; have := plB_len l t c.block; unfold maxLen; omega
          have hl2 : ((X2 (.inr c.block)).length + 1) * 8 ≤ 140737488355328 := by rw [HW2.out.other, HW.out.blk, ns_len]; have := plB_len l t c.block; omega
          clear HM HF HR HT HQ
          refine WH.tk 0 ?_; simp only [setL]
          refine WH.tk 1 ?_; simp only [setL]
          refine WH.tv 2 rfl (fun w' hSw => exec_load_cell _ _ rfl _ rfl (.int .i64 c.block) (hSw.cell 1) _ (Tryz.underlying3) rfl) ?_; simp only [setL]
          refine WH.tk 3 ?_; simp only [setL]
          refine WH.tk 4 ?_; simp only [setL]
          refine WH.tv 5 rfl (fun w' hSw => exec_load_cell _ _ rfl _ rfl (.int .i64 c.block) (hSw.cell 1) _ (Tryz.underlying3) rfl) ?_; simp only [setL]
          refine WH.tk 7 ?_; simp only [setL]
          refine WH.readBuild 6 8 _ _ rfl rfl (S2 (.inr c.block)) _ _ _ rfl Tryz.underlying59 (.int .i64 0) 8 Tryz.infoInt (t : Int) rfl rfl (by kernel_rfl) (by kernel_rfl) (by kernel_rfl) rfl rfl (fun _ => rfl) rfl (by decide) (fun _ => rfl) hSn (fun w1 h => hSn.ext h.1) (by rw [← HMM2.out c.block]; exact exec_lookV _ _ _ rfl _ _ Tryz.underlying3 Tryz.underlying163 Tryz.intsZeroG rfl HMS.out c.block rfl Hwb.out) (fun u w1 h => by rw [← HMM2.out c.block]; exact exec_lookV _ _ _ rfl _ _ Tryz.underlying3 Tryz.underlying163 Tryz.intsZeroG rfl (HMS.out.ext h.1) c.block rfl Hwb.out) ?_
          apply Stop.go
          intro wB HgB HbB
          refine WH.only 9 _ rfl (by kernel_rfl) rfl (fun K hK => ?_)
          refine ow_append_int _ _ _ _ rfl Tryz.underlying59 (.int .i64 0) 8 Tryz.infoInt rfl (gM + 1) (S2 (.inr c.block)) (X2 (.inr c.block)) rfl ((HFS.out.ext HgB.out.1).own _) (t : Int) _ rfl _ HbB.out (Nat.le_trans HMS.out.lt HgB.out.1.size) hl1 hl2 ?_
          apply Stop.go
          intro v' w6 Hv' Ha' Hl'
          have HM6 := Lib.hid ((HMS.out.ext HgB.out.1).below Ha'.out.below (Nat.lt_succ_self _))
          have HR6 := Lib.hid (Hl'.out.blk (HRS.out.ext HgB.out.1) (HFS.out.no (Or.inl (by have := HgR.out; omega)) _))
          have HF6 := Lib.hid ((HFS.out.ext HgB.out.1).put Hl'.out Hv'.out)
          have HT6 := Lib.hid ((HTS.out.trans (Turns.of_below (fun r => r = gR ∨ r = gM) S2 HgB.out.1)).trans (Turns.of_lies _ Hl'.out))
          have hSn := Hl'.out.blk (hSn.ext HgB.out.1) (HNq.out _); refine hK _ _ hSn ?_; clear hK; clear K; simp only [setL]
          refine WH.only 10 _ rfl (by kernel_rfl) rfl (fun K hK => ?_)
          refine ow_mapV_store _ _ _ _ rfl _ _ Tryz.underlying3 Tryz.underlying163 rfl HM6.out (by unfold maxLen; omega) c.block rfl Hwb.out v' rfl ?_
          apply Stop.go
          intro w7 Hm7 Hg7
          have hSn := (Hg7.out.block gc hSn.lt (by intro e; injection e with e; have := Hgc.out; omega)).trans hSn; refine hK _ _ hSn ?_; clear hK; clear K; simp only [setL]
          refine WH.done (by kernel_rfl) ?_
          have HF7 := Lib.hid (HF6.out.hi (HiS.of_grown Hg7.out (Nat.lt_succ_self _)))
          have HR7 := Lib.hid (show Blk w7 gR 59 (vc n fun k => updF S2 (Sum.inr c.block) v' (Sum.inl k)) from by
            rw [vc_congr (fun k _ => updF_other S2 v' (show (Sum.inl k : Nat ⊕ Int) ≠ Sum.inr c.block by simp))]
            exact (Hg7.out.block gR HR6.out.lt (by intro e; injection e with e; have := HgR.out; omega)).trans HR6.out)
          have HT7 := Lib.hid (HT6.out.trans (Turns.of_grown _ Hg7.out (show (fun r => r = gR ∨ r = gM) gM from Or.inr rfl)))
          have HMM7 := Lib.hid (HMM2.out.upd c.block v')
          have HH7 := Lib.hid (show ∀ b, plB l (t + 1) b ≠ [] → (updM m c.block (some v') b).isSome = true from fun b hb => by
            unfold updM
            by_cases e : b = c.block
            · rw [if_pos e]; rfl
            · rw [if_neg e]
              exact HHas.out b (by rw [← (Hp0.out b).2 (fun e2 => e e2.symm)]; exact hb))
          go_wp2_with fail
          go_roundw
          case rel => exact ⟨t + 1, N + 1, _, _, _, by omega, by go_num, by omega, HF7.out, HR7.out, Hm7.out, HMM7.out, HW3.out, HT7.out, HH7.out⟩
          case measure => simp [intOf]; omega
    · have d0 : decide ((t : Int) < n) = false := by simpa using hlt
      have htn : n = t := by omega
      subst htn
      have hS0 : ∀ k, k < l.length → (m (cgA l k).block).isSome = true := fun k hk => HHas.out _ (by
        intro e
        have : k ∈ plB l n (cgA l k).block := plB_mem.2 ⟨by have := Hl.out; omega, rfl⟩
        rw [e] at this
        cases this)
      have HS0 := Lib.hid hS0
      clear hS0
      generalize hw9 : wr = w9 at *
      clear hw9
      have HNI := Lib.hid (HF.out.no (r := w9.heap.size) (Or.inr (Nat.le_refl _)))
      have HgI : Hid (gM < w9.heap.size) := Lib.hid HM.out.lt
      go_wp2_with (refine wpList_rangeV rfl _ _ rfl _ _ Tryz.underlying3 Tryz.underlying163 rfl HM.out ?_)
      apply Stop.go
      intro w10 cnt0 HI Hb10
      have HF10 := Lib.hid (HF.out.ext Hb10.out)
      have HR10 := Lib.hid (HR.out.ext Hb10.out)
      have HT10 := Lib.hid ((HT.out.trans (Turns.of_below (fun r => r = gR ∨ r = gM) S Hb10.out)).mono (G' := fun r => r = gR ∨ gM ≤ r) (fun r _ h => h.imp id (fun e => Nat.le_of_eq e.symm)))
      clear HF HR HT HM Hb10 HBw
      generalize w9.heap.size = gI at *
      go_wp2_with fail
      go_loopw [] (fun wr => ∃ (S3 : Nat ⊕ Int → Value) (X3 : Nat ⊕ Int → List Int) (left : Int → Bool) (cnt : Nat), MapR wr Tryz.prog 3 gM gI N m left cnt ∧ Fam wr (gM + 1) 3 S3 X3 ∧ Blk wr gR 59 (vc n fun k => S3 (.inl k)) ∧ (∀ b, S3 (.inr b) = S (.inr b)) ∧ W3 l left X X3 ∧ Turns (fun r => r = gR ∨ gM ≤ r) w2 wr (fun _ : Nat ⊕ Int => nilS) S3 ∧ NoB S3 gI) (fun wr => wr.rangeLeft gM gI)
      case atStart => exact ⟨S, X, _, cnt0, HI.out, HF10.out, HR10.out, fun _ => rfl, W3.start HW.out HS0.out, HT10.out, HNI.out⟩
      case round =>
        obtain ⟨S3, X3, left, cnt, hI, hF, hR, hS, hW3, hT, hNI⟩ := hrel
        have HI3 := Lib.hid hI
        have HF3 := Lib.hid hF
        have HR3 := Lib.hid hR
        have HS3 := Lib.hid hS
        have HW3 := Lib.hid hW3
        have HT3 := Lib.hid hT
        have HN3 := Lib.hid hNI
        clear hI hF hR hS hW3 hT hNI
        obtain ⟨wc, hwc⟩ : ∃ x, x = wr := ⟨_, rfl⟩
        subst hwc
        go_wp2_with (refine wpList_nextV rfl _ rfl _ Tryz.underlying3 rfl HI3.out ?_ ?_)
        · apply Stop.go
          intro hl0
          have HY := Lib.hid (show ∀ k, k < l.length → ∀ y, y ∈ X3 (.inl k) ↔ (NdB l k y ∨ MtB l (plB l l.length (cgA l k).block) k y) from fun k hk y => by
            rw [HW3.out.on k hk (hl0 _) y, HW.out.row k (by have := Hl.out; omega) y])
          have HYl := Lib.hid (show ∀ k, (X3 (.inl k)).length ≤ 65536 from fun k => by have := HW3.out.len k; omega)
          clear hl0 HI3 HN3 HW3 HS3 HW HS0 HHas HMM
          go_wp2_with fail
          go_loopw [74] (fun i wr => ∃ (t : Nat) (S5 : Nat ⊕ Int → Value) (X5 : Nat ⊕ Int → List Int), t ≤ n ∧ i = .int .i64 t ∧ Fam wr (gM + 1) 3 S5 X5 ∧ Blk wr gR 59 (vc n fun k => S5 (.inl k)) ∧ (∀ i, X5 (.inl i) = if i < t then sortI (X3 (.inl i)) else X3 (.inl i)) ∧ Turns (fun r => r = gR ∨ gM ≤ r) w2 wr (fun _ : Nat ⊕ Int => nilS) S5) (fun i _ => n - (intOf i).toNat)
          case atStart => exact ⟨0, S3, X3, Nat.zero_le _, rfl, HF3.out, HR3.out, fun i => by rw [if_neg (Nat.not_lt_zero i)], HT3.out⟩
          case round =>
            obtain ⟨t, S5, X5, ht, rfl, hF, hR, hX, hT⟩ := hrel
            have HF5 := Lib.hid hF
            have HR5 := Lib.hid hR
            have HX5 := Lib.hid hX
            have HT5 := Lib.hid hT
            clear hF hR hX hT
            by_cases hlt2 : t < n
            · have d3 : decide ((t : Int) < n) = true := by simpa using hlt2
              have z3 : (t : Int) < n := by omega
              have k2 : wr.cell? ⟨gR, t, none⟩ = some (S5 (.inl t)) := by rw [HR5.out.cell, vc_get _ hlt2]
              have hXt : X5 (.inl t) = X3 (.inl t) := by rw [HX5.out, if_neg (Nat.lt_irrefl t)]
              have hlX := HYl.out t
              have ho := Lib.hid (HF5.out.own (.inl t))
              rw [hXt] at ho
              go_wp2_with fail
              refine (sortOwn_any (gM + 1) (S5 (.inl t)) (X3 (.inl t)) (by omega) _ ho.out).mono ?_; rintro e w5 ⟨rfl, ho5, hl5⟩
              have Ho5 := Lib.hid ho5
              have HR6 := Lib.hid (hl5.blk HR5.out (HF5.out.no (Or.inl (by have := HgR.out; omega)) _))
              have HF6 := Lib.hid (HF5.out.put hl5 ho5)
              have HT6 := Lib.hid (HT5.out.trans (Turns.of_self _ hl5))
              rw [updF_self] at HF6
              clear ho5 hl5 k2 HF5 HR5 HT5 ho
              go_wp2_with fail
              refine (compactOwn_any (gM + 1) (S5 (.inl t)) _ (by rw [List.length_mergeSort]; omega) _ Ho5.out).mono ?_; rintro e w6 ⟨v', rfl, ho6, hl6⟩
              have HR7 := Lib.hid (hl6.blk HR6.out (HF6.out.no (Or.inl (by have := HgR.out; omega)) _))
              have HF7 := Lib.hid (HF6.out.put hl6 ho6)
              have HT7 := Lib.hid (HT6.out.trans (Turns.of_lies _ hl6))
              obtain ⟨Av, nv, cv, hve⟩ : ∃ A n c, v' = Value.slice A n c := by
                obtain ⟨A, c, e, _⟩ := ho6.ints
                exact ⟨_, _, _, e⟩
              clear ho6 hl6 HF6 HR6 HT6 Ho5
              subst hve
              go_wp2_with (refine wpList_store_cell rfl _ _ _ rfl Tryz.intsSzG gR t rfl _ rfl rfl rfl _ _ HR7.out (by rw [vc_size]; exact hlt2) ?_)
              apply Stop.go; intro w8 Ho8 Hb8
              rw [vc_set, vc_congr (fun k _ => updF_inl S5 t _ k)] at Hb8
              have HF8 := Lib.hid (HF7.out.hi (HiS.of_only Ho8.out (by have := HgR.out; omega)))
              have HT8 := Lib.hid (HT7.out.trans (Turns.of_only _ Ho8.out (show (fun r => r = gR ∨ gM ≤ r) gR from Or.inl rfl)))
              go_wp2_with fail
              go_roundw
              case rel => exact ⟨t + 1, _, _, by omega, by go_num, HF8.out, Hb8.out, fun i => by
                by_cases e : i = t
                · subst e
                  rw [updF_same, if_pos (Nat.lt_succ_self _)]
                  rfl
                · rw [updF_other _ _ (by simpa using e), updF_other _ _ (by simpa using e), HX5.out]
                  by_cases h : i < t
                  · rw [if_pos h, if_pos (by omega)]
                  · rw [if_neg h, if_neg (by omega)], HT8.out⟩
              case measure => simp [intOf]; omega
            · have d3 : decide ((t : Int) < n) = false := by simpa using hlt2
              have htn : n = t := by omega
              subst htn
              have HFin := Lib.hid (rows_done HMay.out HY.out)
              go_wp2_with fail
              go_ret
              refine ⟨gR, n, fun k => S5 (.inl k), fun i => (sortI (X3 (.inl i))).map Int.toNat, by rw [Hl.out]; rfl, by rw [Hl.out]; exact Nat.le_refl _, by unfold maxLen; omega, HFin.out.1, Nat.le_of_eq Hsz.out, by rw [Hl.out]; exact HR5.out, fun i hi => ?_, Hw2.out.trans (HT5.out.below (fun r h => by have := HgR.out; have := Hsz.out; omega) (fun i k e => by cases e) Hw2.out.size)⟩
              have h1 := HF5.out.own (.inl i)
              rw [HX5.out, if_pos (by have := Hl.out; omega), ← HFin.out.2 i hi] at h1
              exact h1.low (by have := HgR.out; have := Hsz.out; omega)
        · apply Stop.go
          intro k w11 cnt1 hlk HI4 hcnt Hg11 hsz11 hen
          have hmk : (m k).getD nilS = S3 (.inr k) := by rw [HS3.out k]; exact HMM.out k
          rw [hmk] at hen ⊢
          have HF11 := Lib.hid (HF3.out.grownNo HN3.out Hg11.out)
          have HR11 := Lib.hid (show Blk w11 gR 59 (vc n fun k => S3 (.inl k)) from (Hg11.out.block gR HR3.out.lt (by intro e; injection e with e; have := HgR.out; have := HgI.out; omega)).trans HR3.out)
          have HT11 := Lib.hid (HT3.out.trans (Turns.of_grown S3 Hg11.out (show (fun r => r = gR ∨ gM ≤ r) gI from Or.inr (Nat.le_of_lt HgI.out))))
          have HBw := Lib.hid (Hw2.out.trans (HT11.out.below (B := w.heap.size) (fun r h => by have := HgR.out; have := Hsz.out; omega) (fun i k e => by cases e) Hw2.out.size))
          have HXk := Lib.hid (show X3 (.inr k) = ns (plB l l.length k) by rw [HW3.out.other, HW.out.blk, Hl.out])
          have HYl := Lib.hid (show ∀ k, (X3 (.inl k)).length ≤ 65536 from fun k => by have := HW3.out.len k; omega)
          have Hz11 := Lib.hid HI4.out.map.lt
          have Hz12 := Lib.hid HI4.out.lt
          clear hmk
          go_wp2_with fail
          refine (addm_any w gR n (gM + 1) S3 X3 (by have := HgR.out; omega) A cap l Hl.out hm HMay.out Hr.out k (plB l l.length k) (fun a ha => by have := (plB_mem.1 ha).1; have := Hl.out; omega) (plB_rise l l.length k) _ HF11.out HR11.out HBw.out (Nat.le_of_eq Hsz.out) Hz11.out HXk.out HYl.out).mono ?_; rintro e w12 ⟨rfl, S4, X4, hF4, hR4, hS4, hM4, hT4⟩
          have q1 := hT4.keep gM Hz11.out (by intro e; have := HgR.out; have := Hz11.out; omega) (HF11.out.no (Or.inl (Nat.lt_succ_self _)))
          have q2 := hT4.keep gI Hz12.out (by intro e; have := HgR.out; have := HgI.out; have := Hz12.out; omega) HN3.out
          have HI12 := Lib.hid (HI4.out.same q1.1 q2.1)
          have HX := Lib.hid (And.intro hF4 (And.intro hR4 (And.intro (fun b => (hS4 b).trans (HS3.out b)) (And.intro (W3.next HW.out.len HW3.out hlk hM4) (And.intro (HT11.out.trans (hT4.mono (G' := fun r => r = gR ∨ gM ≤ r) (fun r hr h => h.imp id (fun e => by omega)))) q2.2)))))
          clear q1 q2 hF4 hR4 hS4 hM4 hT4 hen
          go_wp2_with fail
          go_roundw
          case rel => exact ⟨S4, X4, _, cnt1, HI12.out, HX.out.1, HX.out.2.1, HX.out.2.2.1, HX.out.2.2.2.1, HX.out.2.2.2.2.1, HX.out.2.2.2.2.2⟩
          case measure => rw [HI12.out.left_eq, HI3.out.left_eq]; exact hcnt

end Go.Proofs.YtpmbpklbiocclaaGreat
