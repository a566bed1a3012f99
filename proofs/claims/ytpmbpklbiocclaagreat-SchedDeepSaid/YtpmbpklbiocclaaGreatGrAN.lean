/-
  Texts of this claim joined: SimB, SimC, SimD.
-/
import Derived.Test.YtpmbpklbiocclaaGreatGrAD
import Derived.Test.YtpmbpklbiocclaaGreatCa13

/-
  The program's cache is the document's: what holds between them; a block is known, a change is made, a block is written. Plain.
-/
namespace Go.Proofs.YtpmbpklbiocclaaGreat
open Go.RowKit

structure Sim (S : CS) (x : DC) (W : Int → List Int) : Prop where
  ok : x.Ok
  last : S.last = (x.last : Int)
  kn : ∀ k, S.kn k = x.kn k
  lf : ∀ i, S.lf i = hasId x.list i
  live : ∀ i, S.live i = true ↔ 1 ≤ i ∧ i ≤ (x.last : Int)
  en0 : 0 ≤ S.ended
  en1 : S.ended ≤ S.last
  en2 : ∀ c ∈ x.list, S.ended < c.id
  en3 : S.ended < S.last → hasId x.list (S.ended + 1) = true
  bl : S.dev.bl = x.base
  fuse : S.dev.fuse = x.fuse
  off : S.dev.off = x.off
  wr : S.dev.wr = x.wrote
  base : ∀ k, S.kn k = true → S.base k = x.bd k
  view : ∀ k, S.kn k = true → S.view k = viewC (x.bd k) x.list k
  dirty : ∀ k, S.kn k = true → S.dirty k = ((ofC x.list k).length : Int)
  dep : Dep x.list S.cg W
  lat : ∀ k, S.kn k = true → LatOk x.list W k (S.lat k) ∧ (S.lat k).length = 256 ∧ ∀ t, 0 ≤ (S.lat k).getD t 0 ∧ (S.lat k).getD t 0 ≤ S.last
  waits : ∀ j ∈ idsC x.list, S.waits j = (wN (idsC x.list) (depW W) j : Int)
  beh : ∀ i ∈ idsC x.list, S.beh i = bN (idsC x.list) (depW W) i
  free : ∀ k, S.kn k = true → (S.free k).Nodup ∧ ∀ j, j ∈ S.free k ↔ j ∈ idsC x.list ∧ (S.cg j).block = k ∧ wN (idsC x.list) (depW W) j = 0
  behL : ∀ i, S.live i = true → (S.beh i).length ≤ x.last ∧ ∀ j ∈ S.beh i, j ≤ (x.last : Int)
section
variable {S S' : CS} {x : DC} {W : Int → List Int}
theorem Sim.rng (h : Sim S x W) {i : Int} (hi : i ∈ idsC x.list) : 1 ≤ i ∧ i ≤ (x.last : Int) := by
  obtain ⟨c, hc, rfl⟩ := idsC_mem.1 hi
  have h1 := (may_right h.ok.may c hc).2
  have h2 := h.ok.ids c hc
  omega
theorem Sim.nd (h : Sim S x W) : (idsC x.list).Nodup := (idsC_rise h.ok.may).nodup
theorem Sim.len (h : Sim S x W) : (idsC x.list).length ≤ x.last := by
  have := h.ok.wrote
  unfold idsC
  rw [List.length_map]
  omega
theorem Sim.has (h : Sim S x W) (i : Int) : S.lf i = true ↔ i ∈ idsC x.list := by rw [h.lf, idsC_has]
theorem Sim.gr (h : Sim S x W) (hl : x.last ≤ 100000) : Gr S (idsC x.list) (depW W) where
  nd := h.nd
  lv i hi := (h.live i).2 (h.rng hi)
  idd i hi := by
    obtain ⟨c, hc, rfl⟩ := idsC_mem.1 hi
    rw [h.dep.cg c hc]
  kn i hi := by
    obtain ⟨c, hc, rfl⟩ := idsC_mem.1 hi
    rw [h.dep.cg c hc, h.kn]
    exact h.ok.knw c hc
  beh := h.beh
  waits := h.waits
  lf := h.has
  fre := h.free
  len := Nat.le_trans h.len hl
  rng i hi := by have := h.rng hi; omega
theorem getD_mem {l : List Int} {y : Int} (h : y ∈ l) : ∃ t, t < l.length ∧ l.getD t 0 = y := by
  obtain ⟨t, ht, e⟩ := List.getElem_of_mem h
  exact ⟨t, ht, by rw [List.getD_eq_getElem?_getD, List.getElem?_eq_getElem ht]; exact e⟩
theorem Sim.bd (h : Sim S x W) (hl : x.last ≤ 100000) : S.Bd where
  ll i hi := (h.live i).2 (h.rng ((h.has i).1 hi))
  bl i hi := by
    obtain ⟨h1, h2⟩ := h.behL i hi
    refine ⟨by omega, fun hh => ?_⟩
    have := h2 _ hh
    rw [h.last] at this
    omega
  fl k hk := by
    obtain ⟨h1, h2⟩ := h.free k hk
    refine ⟨Nat.le_trans (nodup_len h1 fun j hj => ((h2 j).1 hj).1) (Nat.le_trans h.len hl), fun hh => ?_⟩
    have := (h.rng ((h2 _).1 hh).1).2
    rw [h.last] at this
    omega
  lt k hk y hy := by
    obtain ⟨t, _, e⟩ := getD_mem hy
    have := (h.lat k hk).2.2 t
    have := h.last
    omega
  dr k hk := by
    have h1 := h.dirty k hk
    have h2 : (ofC x.list k).length ≤ x.list.length := List.length_filter_le _ _
    have h3 := h.ok.wrote
    omega
  nw := by
    cases e : S.live (S.last + 1)
    · rfl
    · have := ((h.live _).1 e).2
      have := h.last
      omega
  la := by have := h.last; omega
theorem Sim.knE (h : Sim S x W) (no : Int) : S.knE no = x.knownE no := by
  unfold CS.knE DC.knownE Dev.readE
  rw [h.kn, h.off]
  have e : S.dev.has no = x.has no := by unfold Dev.has DC.has; rw [h.bl, h.ok.kl]
  rw [e]
theorem Sim.putE (h : Sim S x W) (no : Int) (p : Pt) (needs : List Int) : S.putE no p needs = x.putE ⟨0, no, p, needs⟩ := by
  unfold CS.putE CS.putBad DC.putE
  rw [h.knE]
  have e : (!needs.all fun y => madeB S.last y) = x.bad needs := by
    unfold DC.bad madeB
    rw [h.last, Bool.eq_iff_iff, Bool.not_eq_true', ← Bool.not_eq_true, List.all_eq_true, List.any_eq_true]
    constructor
    · intro hh
      refine Classical.byContradiction fun hn => hh fun y hy => ?_
      rw [Bool.and_eq_true, decide_eq_true_eq, decide_eq_true_eq]
      refine Classical.byContradiction fun hn2 => hn ⟨y, hy, ?_⟩
      rw [Bool.or_eq_true, decide_eq_true_eq, decide_eq_true_eq]
      omega
    · rintro ⟨y, hy, hb⟩ hh
      have := hh y hy
      rw [Bool.and_eq_true, decide_eq_true_eq, decide_eq_true_eq] at this
      rw [Bool.or_eq_true, decide_eq_true_eq, decide_eq_true_eq] at hb
      omega
  rw [e]
  cases p.right
  · simp
  · cases x.bad needs <;> simp
theorem DC.known_fields (x : DC) (no : Int) : (x.known no).list = x.list ∧ (x.known no).base = x.base ∧ (x.known no).last = x.last ∧ (x.known no).fuse = x.fuse ∧ (x.known no).off = x.off ∧ (x.known no).wrote = x.wrote := by
  unfold DC.known
  split <;> exact ⟨rfl, rfl, rfl, rfl, rfl, rfl⟩
theorem DC.known_bd (x : DC) (no k : Int) : (x.known no).bd k = x.bd k := by unfold DC.bd; rw [(x.known_fields no).2.1]
theorem DC.known_kn {x : DC} {no : Int} (hE : x.knownE no = 0) (k : Int) : (x.known no).kn k = if k = no then true else x.kn k := by
  have hh := DC.has_iff.1 (DC.knownE_has hE)
  unfold DC.known
  rw [if_pos hE]
  by_cases hk : k = no
  · subst hk
    rw [if_pos rfl]
    unfold DC.kn DC.has
    simp only [List.length_set]
    rw [decide_eq_true hh.1, decide_eq_true hh.2, List.getD_eq_getElem?_getD, List.getElem?_set_self (by omega)]
    rfl
  · rw [if_neg hk]
    unfold DC.kn DC.has
    simp only [List.length_set]
    by_cases h0 : 0 ≤ k
    · rw [List.getD_eq_getElem?_getD, List.getElem?_set_ne (by omega), ← List.getD_eq_getElem?_getD]
    · rw [decide_eq_false h0]
      rfl
theorem zlat_get (t : Nat) : zlat.getD t 0 = 0 := by
  unfold zlat
  rw [List.getD_eq_getElem?_getD]
  by_cases h : t < 256
  · rw [List.getElem?_replicate_of_lt h]; rfl
  · rw [List.getElem?_eq_none (by rw [List.length_replicate]; omega)]; rfl
theorem Dev.read_fields (d : Dev) (no : Int) : (d.read no).bl = d.bl ∧ (d.read no).fuse = d.fuse ∧ (d.read no).off = d.off ∧ (d.read no).wr = d.wr ∧ (d.read no).rd ≤ d.rd + 1 := by
  unfold Dev.read
  split
  · exact ⟨rfl, rfl, rfl, rfl, by omega⟩
  · split <;> exact ⟨rfl, rfl, rfl, rfl, by simp⟩
theorem Sim.known (h : Sim S x W) {no : Int} (hE : x.knownE no = 0) : Sim (S.known no) (x.known no) W ∧ (S.known no).dev.rd ≤ S.dev.rd + 1 := by
  obtain ⟨f1, f2, f3, f4, f5, f6⟩ := x.known_fields no
  unfold CS.known
  by_cases hk : S.kn no = true
  · rw [if_pos hk]
    refine ⟨⟨DC.known_ok h.ok no, by rw [f3]; exact h.last, fun k => ?_, by rw [f1]; exact h.lf, by rw [f3]; exact h.live, h.en0, h.en1, by rw [f1]; exact h.en2, by rw [f1]; exact h.en3, by rw [f2]; exact h.bl, by rw [f4]; exact h.fuse, by rw [f5]; exact h.off, by rw [f6]; exact h.wr, fun k q => by rw [x.known_bd]; exact h.base k q, fun k q => by rw [x.known_bd, f1]; exact h.view k q, by rw [f1]; exact h.dirty, by rw [f1]; exact h.dep, by rw [f1]; exact h.lat, by rw [f1]; exact h.waits, by rw [f1]; exact h.beh, by rw [f1]; exact h.free, by rw [f3]; exact h.behL⟩, by omega⟩
    rw [DC.known_kn hE]
    by_cases e : k = no
    · rw [if_pos e, e, hk]
    · rw [if_neg e]; exact h.kn k
  · rw [if_neg hk]
    have hxk : x.kn no = false := by rw [← h.kn]; simpa using hk
    have hno : ∀ c ∈ x.list, c.block ≠ no := fun c hc e => by
      have := h.ok.knw c hc
      rw [e, hxk] at this
      cases this
    obtain ⟨d1, d2, d3, d4, d5⟩ := S.dev.read_fields no
    have hh := DC.has_iff.1 (DC.knownE_has hE)
    have hoff : x.off = false := by
      unfold DC.knownE at hE
      rw [hxk] at hE
      cases e : x.off
      · rfl
      · rw [e] at hE; simp at hE
    have hrb : S.dev.readB no = x.bd no := by
      unfold Dev.readB DC.bd
      rw [h.off, hoff, if_pos hh.1]
      have : S.dev.has no = true := Dev.has_iff.2 ⟨hh.1, by rw [h.bl, ← h.ok.kl]; exact hh.2⟩
      rw [this, h.bl]
      rfl
    have hlast : 0 ≤ S.last := by rw [h.last]; omega
    refine ⟨⟨DC.known_ok h.ok no, by rw [f3]; exact h.last, fun k => ?_, by rw [f1]; exact h.lf, by rw [f3]; exact h.live, h.en0, h.en1, by rw [f1]; exact h.en2, by rw [f1]; exact h.en3, by rw [f2]; exact d1.trans h.bl, by rw [f4]; exact d2.trans h.fuse, by rw [f5]; exact d3.trans h.off, by rw [f6]; exact d4.trans h.wr, fun k q => ?_, fun k q => ?_, fun k q => ?_, by rw [f1]; exact h.dep, fun k q => ?_, by rw [f1]; exact h.waits, by rw [f1]; exact h.beh, fun k q => ?_, by rw [f3]; exact h.behL⟩, d5⟩
    · rw [DC.known_kn hE]
      show updF S.kn no true k = _
      by_cases e : k = no
      · rw [e, updF_same, if_pos rfl]
      · rw [updF_other _ _ e, if_neg e]; exact h.kn k
    all_goals
      have q' : updF S.kn no true k = true := q
    · show updF S.base no (S.dev.readB no) k = _
      rw [x.known_bd]
      by_cases e : k = no
      · rw [e, updF_same]; exact hrb
      · rw [updF_other _ _ e] at q' ⊢; exact h.base k q'
    · show updF S.view no (S.dev.readB no) k = _
      rw [x.known_bd, f1]
      by_cases e : k = no
      · rw [e, updF_same, viewC_none hno]; exact hrb
      · rw [updF_other _ _ e] at q' ⊢; exact h.view k q'
    · show updF S.dirty no 0 k = _
      rw [f1]
      by_cases e : k = no
      · rw [e, updF_same, ofC_none hno]; rfl
      · rw [updF_other _ _ e] at q' ⊢; exact h.dirty k q'
    · show LatOk (x.known no).list W k (updF S.lat no zlat k) ∧ (updF S.lat no zlat k).length = 256 ∧ ∀ t, 0 ≤ (updF S.lat no zlat k).getD t 0 ∧ (updF S.lat no zlat k).getD t 0 ≤ S.last
      rw [f1]
      by_cases e : k = no
      · rw [e, updF_same]
        refine ⟨⟨fun t _ c hc hb _ => absurd hb (hno c hc), fun t _ hx => ?_⟩, zlat_len, fun t => by rw [zlat_get]; exact ⟨Int.le_refl _, hlast⟩⟩
        rw [zlat_get] at hx
        have := h.rng hx
        omega
      · rw [updF_other _ _ e] at q' ⊢; exact h.lat k q'
    · show (updF S.free no [] k).Nodup ∧ ∀ j, j ∈ updF S.free no [] k ↔ _
      rw [f1]
      by_cases e : k = no
      · rw [e, updF_same]
        refine ⟨List.nodup_nil, fun j => ⟨fun hj => (by cases hj), fun hj => ?_⟩⟩
        obtain ⟨c, hc, hcj, hcg⟩ := h.dep.blk hj.1
        have h2 : (S.cg j).block = no := hj.2.1
        rw [hcg] at h2
        exact absurd h2 (hno c hc)
      · rw [updF_other _ _ e] at q' ⊢; exact h.free k q'
theorem Sim.needs (h : Sim S x W) (needs : List Int) : stillL S.lf needs = x.needsOf needs := by
  obtain ⟨h1, h2⟩ := stillL_spec S.lf needs
  refine h1.uniq (x.needsOf_rise needs) fun y => ?_
  rw [h2, DC.needsOf_mem, h.lf]
  constructor
  · rintro ⟨a, b⟩
    have := h.rng (idsC_has.2 b)
    exact ⟨⟨by omega, by omega⟩, a, b⟩
  · rintro ⟨_, a, b⟩; exact ⟨a, b⟩
theorem drop_take_mem {l : List Int} {lo n : Nat} (hl : lo + n ≤ l.length) {y : Int} : y ∈ (l.drop lo).take n ↔ ∃ t, lo ≤ t ∧ t < lo + n ∧ l.getD t 0 = y := by
  constructor
  · intro h
    obtain ⟨k, hk, e⟩ := List.getElem_of_mem h
    rw [List.length_take, List.length_drop] at hk
    rw [List.getElem_take, List.getElem_drop] at e
    exact ⟨lo + k, by omega, by omega, by rw [List.getD_eq_getElem?_getD, List.getElem?_eq_getElem (by omega)]; exact e⟩
  · rintro ⟨t, h1, h2, e⟩
    rw [List.getD_eq_getElem?_getD, List.getElem?_eq_getElem (by omega)] at e
    refine List.mem_take_iff_getElem.2 ⟨t - lo, by rw [List.length_drop]; omega, ?_⟩
    rw [List.getElem_drop]
    simp only [show lo + (t - lo) = t by omega]
    exact e
end

end Go.Proofs.YtpmbpklbiocclaaGreat

/-
  The program's cache is the document's: a change is made. Plain.
-/
namespace Go.Proofs.YtpmbpklbiocclaaGreat
open Go.RowKit

section
variable {S : CS} {x : DC} {W : Int → List Int}
theorem DC.put_known {x : DC} {s : StC} (h : x.putE s = 0) : (x.known s.no).putE s = 0 ∧ (x.known s.no).put s = x.put s := by
  obtain ⟨h1, h2, h3⟩ := DC.putE_ok h
  obtain ⟨f1, f2, f3, f4, f5, f6⟩ := x.known_fields s.no
  have hk := (DC.known_kn h3 s.no).trans (if_pos rfl)
  have hb : (x.known s.no).bad s.needs = false := by unfold DC.bad at h2 ⊢; rw [f3]; exact h2
  have hE : (x.known s.no).putE s = 0 := by
    unfold DC.putE DC.knownE
    rw [h1, hb, hk]
    rfl
  refine ⟨hE, ?_⟩
  have hd : ∀ n, (x.known s.no).done n = x.done n := fun n => by unfold DC.done; rw [f1, f3]
  have hn : (x.known s.no).needsOf s.needs = x.needsOf s.needs := by
    unfold DC.needsOf
    rw [f3]
    exact List.filter_congr fun n _ => by rw [hd]
  have hkn : (x.known s.no).knows = x.knows.set s.no.toNat true := by unfold DC.known; rw [if_pos h3]
  unfold DC.put
  rw [if_pos h, if_pos hE, hn, hkn, f1, f3, List.set_set]
  unfold DC.known
  rw [if_pos h3]
theorem latS_getD (l : List Int) (lo n : Nat) (y : Int) (t : Nat) (ht : t < l.length) : (latS l lo n y).getD t 0 = if lo ≤ t ∧ t < lo + n then y else l.getD t 0 := by
  rw [List.getD_eq_getElem?_getD, List.getD_eq_getElem?_getD, latS_get, List.getElem?_eq_getElem ht]
  rfl
theorem latS_out (l : List Int) (lo n : Nat) (y : Int) (t : Nat) (ht : ¬ t < l.length) : (latS l lo n y).getD t 0 = 0 := by
  rw [List.getD_eq_getElem?_getD, latS_get, List.getElem?_eq_none (by omega)]
  rfl
theorem Sim.put (h : Sim S x W) {no : Int} {p : Pt} {needs : List Int} (hE : x.putE ⟨0, no, p, needs⟩ = 0) (hk : S.kn no = true) : ∃ W', Sim (S.put no p needs) (x.put ⟨0, no, p, needs⟩) W' := by
  obtain ⟨q1, q2, q3⟩ := DC.putE_ok hE
  have q1 : p.right = true := q1
  have q3 : x.knownE no = 0 := q3
  obtain ⟨n, hn⟩ : ∃ n : Int, n = S.last + 1 := ⟨_, rfl⟩
  have hnx : n = (x.last : Int) + 1 := by rw [hn, h.last]
  obtain ⟨c, hc⟩ : ∃ c : Cg, c = ⟨n, no, p, x.needsOf needs⟩ := ⟨_, rfl⟩
  have hcid : c.id = n := by rw [hc]
  have hcb : c.block = no := by rw [hc]
  have hcp : c.p = p := by rw [hc]
  have hcn : c.needs = x.needsOf needs := by rw [hc]
  have hmade : S.made no p needs = c := by unfold CS.made; rw [h.needs, hc, hn]
  obtain ⟨A, hA⟩ : ∃ A, A = stillL S.lf (c.needs ++ ((S.lat no).drop p.lo).take p.data.length) := ⟨_, rfl⟩
  have hput : S.put no p needs = (({ S with last := n } : CS).chg n c 0).add no n A p := by
    unfold CS.put
    rw [hmade, ← hn]
    unfold CS.ahead
    rw [hA, hcp]
  have hx : x.put ⟨0, no, p, needs⟩ = { x with knows := x.knows.set no.toNat true, last := x.last + 1, list := x.list ++ [c] } := by
    unfold DC.put
    rw [if_pos hE, hc, hnx]
  obtain ⟨l1, l2, l3⟩ := h.lat no hk
  have hb := Pt.right_iff.1 q1
  have hlo : p.lo + p.data.length ≤ (S.lat no).length := by rw [l2]; unfold Pt.lo; omega
  obtain ⟨s1, s2⟩ := stillL_spec S.lf (c.needs ++ ((S.lat no).drop p.lo).take p.data.length)
  rw [← hA] at s1 s2
  have hAi : ∀ i, i ∈ A ↔ i ∈ idsC x.list ∧ (i ∈ c.needs ∨ ∃ t, c.p.has t = true ∧ (S.lat no).getD t 0 = i) := fun i => by
    rw [s2, h.has, List.mem_append, drop_take_mem hlo, hcp]
    constructor
    · rintro ⟨g1 | ⟨t, t1, t2, t3⟩, g2⟩
      · exact ⟨g2, Or.inl g1⟩
      · exact ⟨g2, Or.inr ⟨t, Pt.has_iff.2 ⟨q1, t1, t2⟩, t3⟩⟩
    · rintro ⟨g2, g1 | ⟨t, t1, t2⟩⟩
      · exact ⟨Or.inl g1, g2⟩
      · obtain ⟨_, t3, t4⟩ := Pt.has_iff.1 t1
        exact ⟨Or.inr ⟨t, t3, t4, t2⟩, g2⟩
  have hAs : ∀ i ∈ A, i ∈ idsC x.list := fun i hi => ((hAi i).1 hi).1
  have hlt : ∀ i ∈ idsC x.list, i < n := fun i hi => by have := (h.rng hi).2; omega
  have hltc : ∀ d ∈ x.list, d.id < c.id := fun d hd => by rw [hcid]; exact hlt _ (idsC_mem.2 ⟨d, hd, rfl⟩)
  have hWl : ∀ j ∈ idsC x.list, ∀ i ∈ W j, i < j := fun j hj i hi => by
    obtain ⟨d, hd, rfl⟩ := idsC_mem.1 hj
    exact h.dep.lt d hd i hi
  have hids : idsC (x.list ++ [c]) = idsC x.list ++ [n] := by unfold idsC; rw [List.map_append, List.map_singleton, hcid]
  have hlc : ∀ k, S.kn k = true → ∀ t, (S.lat k).getD t 0 < c.id := fun k hk t => by
    have := ((h.lat k hk).2.2 t).2
    rw [hcid]; omega
  have hokp := DC.put_ok h.ok ⟨0, no, p, needs⟩
  have hdep := h.dep.more hltc (by rw [hcb]; exact l1) hAi
  rw [hcid] at hdep
  refine ⟨updF W n A, ?_⟩
  rw [hput]
  rw [hx] at hokp ⊢
  have hnA : ∀ i ∈ idsC x.list, i ≠ n := fun i hi e => by have := hlt i hi; omega
  have hwn : wN (idsC x.list ++ [n]) (depW (updF W n A)) n = A.length := wN_new h.nd hlt hAs s1.nodup
  have hkn2 : ∀ k, S.kn k = DC.kn { x with knows := x.knows.set no.toNat true, last := x.last + 1, list := x.list ++ [c] } k := fun k => by
    have h1 := DC.known_kn q3 k
    have h2 : (x.known no).kn k = DC.kn { x with knows := x.knows.set no.toNat true, last := x.last + 1, list := x.list ++ [c] } k := by
      unfold DC.known
      rw [if_pos q3]
      rfl
    rw [← h2, h1]
    by_cases e : k = no
    · rw [if_pos e, e, hk]
    · rw [if_neg e]; exact h.kn k
  have hnlf : hasId (x.list ++ [c]) n = true := hasId_iff.2 ⟨c, by simp, hcid⟩
  refine ⟨hokp, by show n = _; rw [hnx]; rfl, hkn2, fun i => ?_, fun i => ?_, h.en0, by show S.ended ≤ n; have := h.en1; omega, fun d hd => ?_, fun he => ?_, h.bl, h.fuse, h.off, h.wr, h.base, fun k hkk => ?_, fun k hkk => ?_, hdep, fun k hkk => ?_, fun j hj => ?_, fun i hi => ?_, fun k hkk => ?_, fun i hi => ?_⟩
  · -- lf
    show updF S.lf n true i = hasId (x.list ++ [c]) i
    by_cases e : i = n
    · rw [e, updF_same, hnlf]
    · rw [updF_other _ _ e, h.lf, Bool.eq_iff_iff, hasId_iff, hasId_iff]
      constructor
      · rintro ⟨d, hd, rfl⟩; exact ⟨d, by simp [hd], rfl⟩
      · rintro ⟨d, hd, rfl⟩
        rcases List.mem_append.1 hd with hd | hd
        · exact ⟨d, hd, rfl⟩
        · rw [List.mem_singleton] at hd
          subst hd
          exact absurd hcid e
  · -- live
    show updF S.live n true i = true ↔ 1 ≤ i ∧ i ≤ ((x.last + 1 : Nat) : Int)
    by_cases e : i = n
    · rw [e, updF_same]
      exact ⟨fun _ => by omega, fun _ => rfl⟩
    · rw [updF_other _ _ e, h.live]
      omega
  · -- en2
    rcases List.mem_append.1 hd with hd | hd
    · exact h.en2 d hd
    · rw [List.mem_singleton] at hd
      subst hd
      have := h.en1
      show S.ended < d.id
      omega
  · -- en3
    show hasId (x.list ++ [c]) (S.ended + 1) = true
    by_cases e : S.ended < S.last
    · obtain ⟨d, hd, e2⟩ := hasId_iff.1 (h.en3 e)
      exact hasId_iff.2 ⟨d, by simp [hd], e2⟩
    · have := h.en1
      rw [show S.ended + 1 = n by omega]
      exact hnlf
  · -- view
    show updF S.view no (layP (S.view no) p) k = viewC (DC.bd x k) (x.list ++ [c]) k
    rw [viewC_snoc _ h.ok.may hokp.may, hcb, hcp]
    by_cases e : k = no
    · rw [e, updF_same, if_pos rfl, h.view no hk]
    · rw [updF_other _ _ e, if_neg (Ne.symm e)]
      exact h.view k hkk
  · -- dirty
    show updF S.dirty no (S.dirty no + 1) k = ((ofC (x.list ++ [c]) k).length : Int)
    rw [ofC_snoc, hcb]
    by_cases e : k = no
    · rw [e, updF_same, if_pos rfl, h.dirty no hk, List.length_append]
      rfl
    · rw [updF_other _ _ e, if_neg (Ne.symm e)]
      exact h.dirty k hkk
  · -- lat
    show LatOk (x.list ++ [c]) (updF W n A) k (updF S.lat no (latS (S.lat no) p.lo p.data.length n) k) ∧ (updF S.lat no (latS (S.lat no) p.lo p.data.length n) k).length = 256 ∧ ∀ t, 0 ≤ (updF S.lat no (latS (S.lat no) p.lo p.data.length n) k).getD t 0 ∧ (updF S.lat no (latS (S.lat no) p.lo p.data.length n) k).getD t 0 ≤ n
    have hl0 : 0 ≤ n := by omega
    by_cases e : k = no
    · rw [e, updF_same]
      refine ⟨?_, by rw [latS_len]; exact l2, fun t => ?_⟩
      · have h1 := LatOk.more_same (c := c) (A := A) (W := W) (l := x.list) (lat := S.lat no) (by rw [hcb]; exact l1) hltc (hlc no hk) hAi (lat' := latS (S.lat no) p.lo p.data.length n) (fun t ht => by
          rw [latS_getD _ _ _ _ _ (by rw [l2]; exact ht), hcid, hcp]
          by_cases hp : p.lo ≤ t ∧ t < p.lo + p.data.length
          · rw [if_pos hp, if_pos (Pt.has_iff.2 ⟨q1, hp⟩)]
          · rw [if_neg hp, if_neg fun hh => hp (Pt.has_iff.1 hh).2])
        rw [hcid, hcb] at h1
        exact h1
      · by_cases ht : t < (S.lat no).length
        · rw [latS_getD _ _ _ _ _ ht]
          have := l3 t
          have := h.last
          split <;> omega
        · rw [latS_out _ _ _ _ _ ht]; omega
    · rw [updF_other _ _ e]
      obtain ⟨k1, k2, k3⟩ := h.lat k hkk
      have h1 := LatOk.more_other (c := c) (A := A) k1 (by rw [hcb]; exact e) hltc (hlc k hkk)
      rw [hcid] at h1
      exact ⟨h1, k2, fun t => by have := k3 t; have := h.last; omega⟩
  · -- waits
    show updF (updF S.waits n 0) n (A.length : Int) j = _
    have hj : j ∈ idsC (x.list ++ [c]) := hj
    show _ = (wN (idsC (x.list ++ [c])) (depW (updF W n A)) j : Int)
    rw [hids] at hj ⊢
    rcases List.mem_append.1 hj with hj | hj
    · rw [updF_other _ _ (hnA j hj), updF_other _ _ (hnA j hj), wN_more hlt hWl hj]
      exact h.waits j hj
    · rw [List.mem_singleton] at hj
      subst hj
      rw [updF_same, hwn]
  · -- beh
    show addB (updF S.beh n []) n A i = bN (idsC (x.list ++ [c])) (depW (updF W n A)) i
    have hi : i ∈ idsC (x.list ++ [c]) := hi
    rw [hids] at hi ⊢
    rcases List.mem_append.1 hi with hi | hi
    · rw [bN_more hlt hWl hAs hi]
      unfold addB
      rw [updF_other _ _ (hnA i hi), h.beh i hi]
    · rw [List.mem_singleton] at hi
      subst hi
      rw [bN_new hlt hWl hAs, addB_not fun hh => hnA _ (hAs _ hh) rfl, updF_same]
  · -- free
    show ((if A = [] then updF S.free no (S.free no ++ [n]) else S.free) k).Nodup ∧ ∀ j, j ∈ (if A = [] then updF S.free no (S.free no ++ [n]) else S.free) k ↔ j ∈ idsC (x.list ++ [c]) ∧ (updF S.cg n c j).block = k ∧ wN (idsC (x.list ++ [c])) (depW (updF W n A)) j = 0
    rw [hids]
    obtain ⟨g1, g2⟩ := h.free k hkk
    have hold : ∀ j, j ≠ n → ((j ∈ idsC x.list ++ [n] ∧ (updF S.cg n c j).block = k ∧ wN (idsC x.list ++ [n]) (depW (updF W n A)) j = 0) ↔ j ∈ S.free k) := fun j e => by
      rw [g2, List.mem_append, List.mem_singleton, updF_other _ _ e]
      constructor
      · rintro ⟨a | a, b, d⟩
        · rw [wN_more hlt hWl a] at d; exact ⟨a, b, d⟩
        · exact absurd a e
      · rintro ⟨a, b, d⟩
        rw [← wN_more hlt hWl a] at d
        exact ⟨Or.inl a, b, d⟩
    have hnf : n ∉ S.free k := fun hh => hnA n ((g2 n).1 hh).1 rfl
    by_cases hA0 : A = []
    · rw [if_pos hA0]
      by_cases e : k = no
      · subst e
        rw [updF_same]
        refine ⟨List.nodup_append.2 ⟨g1, by simp, fun a ha b hb e => ?_⟩, fun j => ?_⟩
        · rw [List.mem_singleton] at hb
          subst hb; subst e
          exact hnf ha
        · by_cases ej : j = n
          · rw [ej, hwn, hA0, updF_same]
            exact ⟨fun _ => ⟨by simp, hcb, rfl⟩, fun _ => by simp⟩
          · rw [hold j ej, List.mem_append, List.mem_singleton]
            exact ⟨fun hh => hh.resolve_right ej, Or.inl⟩
      · rw [updF_other _ _ e]
        refine ⟨g1, fun j => ?_⟩
        by_cases ej : j = n
        · rw [ej, updF_same, hcb]
          exact ⟨fun hh => absurd hh hnf, fun hh => absurd hh.2.1.symm e⟩
        · rw [hold j ej]
    · rw [if_neg hA0]
      refine ⟨g1, fun j => ?_⟩
      by_cases ej : j = n
      · rw [ej, hwn]
        exact ⟨fun hh => absurd hh hnf, fun hh => absurd (List.eq_nil_of_length_eq_zero hh.2.2) hA0⟩
      · rw [hold j ej]
  · -- behL
    have hi : updF S.live n true i = true := hi
    show (addB (updF S.beh n []) n A i).length ≤ x.last + 1 ∧ ∀ j ∈ addB (updF S.beh n []) n A i, j ≤ ((x.last + 1 : Nat) : Int)
    have hbase : (updF S.beh n [] i).length ≤ x.last ∧ ∀ j ∈ updF S.beh n [] i, j ≤ (x.last : Int) := by
      by_cases e : i = n
      · rw [e, updF_same]
        exact ⟨Nat.zero_le _, fun j hj => (by cases hj)⟩
      · rw [updF_other _ _ e] at hi ⊢
        exact h.behL i hi
    unfold addB
    split
    · refine ⟨by rw [List.length_append, List.length_singleton]; omega, fun j hj => ?_⟩
      rcases List.mem_append.1 hj with hj | hj
      · have := hbase.2 j hj; omega
      · rw [List.mem_singleton] at hj; omega
    · exact ⟨by omega, fun j hj => by have := hbase.2 j hj; omega⟩
end

end Go.Proofs.YtpmbpklbiocclaaGreat

/-
  The program's cache is the document's: a block is written. Plain.
-/
namespace Go.Proofs.YtpmbpklbiocclaaGreat
open Go.RowKit

section
variable {S S' : CS} {x : DC} {W : Int → List Int} {no : Int} {L : List Int}
theorem Sim.has_dev (h : Sim S x W) (hk : S.kn no = true) : S.dev.has no = true ∧ 0 ≤ no ∧ no < (x.base.length : Int) := by
  have h1 := h.kn no
  rw [hk] at h1
  have h2 : x.has no = true := by
    have := h1.symm
    unfold DC.kn at this
    rw [Bool.and_eq_true] at this
    exact this.1
  have h3 := DC.has_iff.1 h2
  have h4 := h.ok.kl
  refine ⟨Dev.has_iff.2 ⟨h3.1, by rw [h.bl]; omega⟩, h3.1, by omega⟩
theorem Sim.free_ready (h : Sim S x W) (hk : S.kn no = true) (hK : Kahn (idsC x.list) (depW W) (fun j => (S.cg j).block) no L) : S.free no ≠ [] ↔ readyC x.list no ≠ [] := by
  have hr := h.dep.ready h.ok.may hK
  obtain ⟨_, f2⟩ := h.free no hk
  constructor
  · intro hf he
    cases hfr : S.free no with
    | nil => exact hf hfr
    | cons j t =>
      obtain ⟨g1, g2, g3⟩ := (f2 j).1 (by rw [hfr]; simp)
      have h1 : j ∈ L := hK.cl j g1 g2 fun i hi hd => by
        rw [wN_zero.1 g3 i hi] at hd
        cases hd
      have h2 := (hr j).1 h1
      rw [he] at h2
      cases h2
  · intro hne he
    cases hrd : readyC x.list no with
    | nil => exact hne hrd
    | cons j t =>
      have h1 : j ∈ L := (hr j).2 (by rw [hrd]; simp)
      cases hL : L with
      | nil => rw [hL] at h1; cases h1
      | cons a r =>
        have hlen : 0 < L.length := by rw [hL]; simp
        have ha : L[0] = a := by simp [hL]
        have hm := hK.mem a (by rw [hL]; simp)
        have h2 : a ∈ S.free no := (f2 a).2 ⟨hm.1, hm.2, wN_zero.2 fun i hi => by
          cases hd : depW W i a
          · rfl
          · have := hK.ord 0 hlen i hi (by rw [ha]; exact hd)
            simp at this⟩
        rw [he] at h2
        cases h2
theorem Sim.not_known (h : Sim S x W) (hk : S.kn no = false) : readyC x.list no = [] := by
  refine Classical.byContradiction fun hne => ?_
  obtain ⟨c, hc, hb⟩ := ready_block h.ok.may hne
  have := h.ok.knw c hc
  rw [hb, ← h.kn, hk] at this
  cases this
theorem Sim.writeE (h : Sim S x W) (hk : S.kn no = true) : S.dev.writeE no = if x.stuck then 12 else 0 := by
  have h1 := (h.has_dev hk).1
  unfold Dev.writeE DC.stuck
  rw [h1, h.off, h.fuse]
  cases x.off
  · by_cases hf : x.fuse = 0
    · simp [hf]
    · simp [hf]
  · simp
theorem bd_set {x : DC} {no : Int} (h : 0 ≤ no ∧ no < (x.base.length : Int)) (y : DC) (Z : List UInt8) (hy : y.base = x.base.set no.toNat Z) (k : Int) : y.bd k = if k = no then Z else x.bd k := by
  unfold DC.bd
  rw [hy]
  by_cases e : k = no
  · subst e
    rw [if_pos rfl, if_pos h.1, List.getD_eq_getElem?_getD, List.getElem?_set_self (by omega)]
    rfl
  · rw [if_neg e]
    split
    · rw [List.getD_eq_getElem?_getD, List.getElem?_set_ne (by omega), ← List.getD_eq_getElem?_getD]
    · rfl
theorem Sim.flush (h : Sim S x W) (hk : S.kn no = true) (hf : S.free no ≠ []) (hK : Kahn (idsC x.list) (depW W) (fun j => (S.cg j).block) no L) (hw : S.dev.writeE no = 0) (hE : Ended S (idsC x.list) (depW W) no L S') :
    Sim S' (x.flush no) W ∧ x.flushE no = 0 := by
  have hr := h.dep.ready h.ok.may hK
  have hne := (h.free_ready hk hK).1 hf
  have hdv := h.has_dev hk
  have hst : x.stuck = false := by
    have := h.writeE hk
    rw [hw] at this
    cases hs : x.stuck
    · rfl
    · rw [hs] at this; simp at this
  have hB : (x.bd no).length = 256 := by
    unfold DC.bd
    rw [if_pos hdv.2.1, List.getD_eq_getElem?_getD, List.getElem?_eq_getElem (by omega)]
    exact h.ok.bks _ (List.getElem_mem _)
  have himg : S.img no L = imageC (x.bd no) x.list no := by
    unfold CS.img
    rw [h.base no hk]
    exact h.dep.image h.ok.may hK hB
  have hbd0 : x.base.getD no.toNat (zeros 256) = x.bd no := by unfold DC.bd; rw [if_pos hdv.2.1]
  have hx : x.flush no = { x with fuse := if 0 < x.fuse then x.fuse - 1 else x.fuse, base := x.base.set no.toNat (imageC (x.bd no) x.list no), list := leftC x.list no, wrote := x.wrote + 1 } := by
    unfold DC.flush
    rw [if_neg hne, hst, hbd0]
    rfl
  have hbd : ∀ k, (x.flush no).bd k = if k = no then imageC (x.bd no) x.list no else x.bd k := fun k => bd_set hdv.2 _ _ (congrArg DC.base hx) k
  have hoff : x.off = false ∧ x.fuse ≠ 0 := by
    unfold DC.stuck at hst
    rw [Bool.or_eq_false_iff, decide_eq_false_iff_not] at hst
    exact hst
  have hdev : S'.dev = { S.dev with bl := S.dev.bl.set no.toNat (S.img no L), fuse := if 0 < S.dev.fuse then S.dev.fuse - 1 else S.dev.fuse, wr := S.dev.wr + 1 } := by
    rw [hE.dev]
    unfold Dev.write
    rw [h.off, hoff.1, hdv.1, h.fuse]
    rw [if_neg (by simp), if_pos rfl, if_neg hoff.2]
    simp only [h.off.trans hoff.1]
  have hli := idsC_left hr
  have hlm := leftC_mem hr
  have hlt : ∀ i, i ∈ idsC (leftC x.list no) ↔ i ∈ idsC x.list ∧ i ∉ L := idsC_fewer hlm
  have hnd' : (idsC (leftC x.list no)).Nodup := (idsC_rise (leftC_may no h.ok.may)).nodup
  have hKs : ∀ y ∈ L, y ∈ idsC x.list := fun y hy => (hK.mem y hy).1
  obtain ⟨Fr, hei, hfree⟩ := hE.free
  have hwt : ∀ j ∈ idsC x.list, S'.waits j = (wN (idsC (leftC x.list no)) (depW W) j : Int) := fun j hj => by
    rw [hei.w j hj, mcN_end (Nat.le_refl _), wN_fewer h.nd hnd' hK.nd hKs hlt j]
    omega
  have hlfT : ∀ i, lfT S.lf L i = hasId (leftC x.list no) i := fun i => by
    have h1 : hasId (leftC x.list no) i = true ↔ hasId x.list i = true ∧ i ∉ L := by rw [← idsC_has, ← idsC_has]; exact hlt i
    unfold lfT
    rw [h.lf, Bool.eq_iff_iff, h1, Bool.and_eq_true, Bool.not_eq_true', ← Bool.not_eq_true, List.contains_iff_mem]
  have hok := DC.flush_ok h.ok no
  refine ⟨?_, by unfold DC.flushE; rw [if_neg hne, hst]; rfl⟩
  have hkn' : ∀ k, S'.kn k = S.kn k := fun k => by rw [hE.kn]
  have hlast : S'.last = S.last := hE.last
  have e1 : (x.flush no).list = leftC x.list no := by rw [hx]
  have e2 : (x.flush no).last = x.last := by rw [hx]
  refine ⟨hok, by rw [hlast, e2]; exact h.last, fun k => ?_, fun i => ?_, fun i => ?_, by have := hE.en0; have := h.en0; omega, by rw [hlast]; exact hE.en1, fun c hc => ?_, fun he => ?_, ?_, ?_, ?_, ?_, fun k hkk => ?_, fun k hkk => ?_, fun k hkk => ?_, ?_, fun k hkk => ?_, fun j hj => ?_, fun i hi => ?_, fun k hkk => ?_, fun i hi => ?_⟩
  · rw [hkn', h.kn, hx]; rfl
  · rw [hE.lf, e1, hlfT]
  · rw [hE.live, e2]; exact h.live i
  · rw [e1] at hc
    refine Classical.byContradiction fun hn => ?_
    have h1 := h.en2 c ((hlm c).1 hc).1
    have h2 := hE.en2 c.id h1 (by omega)
    rw [hlfT, ← Bool.not_eq_true] at h2
    exact h2 (hasId_iff.2 ⟨c, hc, rfl⟩)
  · rw [e1, ← hlfT]
    rw [hlast] at he
    exact hE.en3 he
  · rw [hdev, hx, himg, h.bl]
  · rw [hdev, hx, h.fuse]
  · rw [hdev, hx]; exact h.off
  · rw [hdev, hx, h.wr]
  · rw [hkn'] at hkk
    rw [hE.base, hbd, himg]
    by_cases e : k = no
    · rw [e, updF_same, if_pos rfl]
    · rw [updF_other _ _ e, if_neg e]; exact h.base k hkk
  · rw [hkn'] at hkk
    rw [hE.view, hbd, e1, h.view k hkk]
    by_cases e : k = no
    · rw [e, if_pos rfl, view_keeps hB]
    · rw [if_neg e, view_other _ _ e]
  · rw [hkn'] at hkk
    rw [hE.dirty, e1]
    by_cases e : k = no
    · rw [e, updF_same, h.dirty no hk, ← ofC_count h.ok.may hK.nd hr]
      omega
    · rw [updF_other _ _ e, ofC_other h.ok.may e]; exact h.dirty k hkk
  · rw [hE.cg, e1]
    exact h.dep.fewer hK.closed hlm
  · rw [hkn'] at hkk
    rw [hE.lat, e1, hlast]
    obtain ⟨k1, k2, k3⟩ := h.lat k hkk
    exact ⟨k1.fewer hK.closed hlm, k2, k3⟩
  · rw [e1] at hj ⊢
    exact hwt j ((hlt j).1 hj).1
  · rw [e1] at hi ⊢
    rw [hE.beh, h.beh i ((hlt i).1 hi).1]
    exact (bN_fewer hli hK.closed ((hlt i).1 hi).1 ((hlt i).1 hi).2).symm
  · rw [hkn'] at hkk
    rw [hfree, e1, hE.cg]
    by_cases e : k = no
    · subst e
      rw [updF_same]
      refine ⟨List.nodup_nil, fun j => ⟨fun hj => (by cases hj), fun hj => ?_⟩⟩
      obtain ⟨j1, j2, j3⟩ := hj
      obtain ⟨j4, j5⟩ := (hlt j).1 j1
      exfalso
      refine j5 (hK.cl j j4 j2 fun i hi hd => ?_)
      refine Classical.byContradiction fun hn => ?_
      have := wN_zero.1 j3 i ((hlt i).2 ⟨hi, hn⟩)
      rw [hd] at this
      cases this
    · rw [updF_other _ _ e]
      obtain ⟨f1, f2⟩ := hei.f k hkk
      refine ⟨f1, fun j => ?_⟩
      rw [f2]
      constructor
      · rintro ⟨j1, j2, j3⟩
        have hjL : j ∉ L := fun hh => e (by rw [← j2]; exact (hK.mem j hh).2)
        rw [hwt j j1] at j3
        exact ⟨(hlt j).2 ⟨j1, hjL⟩, j2, by omega⟩
      · rintro ⟨j1, j2, j3⟩
        have j4 := ((hlt j).1 j1).1
        refine ⟨j4, j2, ?_⟩
        rw [hwt j j4, j3]
        rfl
  · rw [hE.live] at hi
    rw [hE.beh, e2]
    exact h.behL i hi
theorem Sim.flush_not (h : Sim S x W) (hk : S.kn no = true) (hf : S.free no ≠ []) (hK : Kahn (idsC x.list) (depW W) (fun j => (S.cg j).block) no L) (hw : S.dev.writeE no ≠ 0) (Z : List UInt8) :
    Sim { S with dev := S.dev.write no Z } (x.flush no) W ∧ x.flushE no = S.dev.writeE no := by
  have hne := (h.free_ready hk hK).1 hf
  have hdv := h.has_dev hk
  have hst : x.stuck = true := by
    have := h.writeE hk
    cases hs : x.stuck
    · rw [hs] at this; exact absurd this hw
    · rfl
  have hx : x.flush no = { x with off := true } := by
    unfold DC.flush
    rw [if_neg hne, hst]
    rfl
  have hd : S.dev.write no Z = { S.dev with off := true } := by
    unfold Dev.write
    unfold DC.stuck at hst
    rw [hdv.1, h.off, h.fuse]
    cases ho : x.off
    · rw [ho] at hst
      have : x.fuse = 0 := by simpa using hst
      rw [if_neg (by simp), if_pos rfl, if_pos this]
      simp only [h.fuse]
    · rw [if_pos rfl]
      have := h.off
      rw [ho] at this
      cases hdd : S.dev
      rw [hdd] at this
      simp only at this
      rw [this]
  rw [hx, hd]
  refine ⟨⟨⟨h.ok.may, h.ok.ids, h.ok.blk, h.ok.knw, h.ok.bks, h.ok.kl, h.ok.fuse, h.ok.wrote, h.ok.nlen⟩, h.last, h.kn, h.lf, h.live, h.en0, h.en1, h.en2, h.en3, h.bl, h.fuse, rfl, h.wr, h.base, h.view, h.dirty, h.dep, h.lat, h.waits, h.beh, h.free, h.behL⟩, ?_⟩
  rw [h.writeE hk, hst]
  unfold DC.flushE
  rw [if_neg hne, hst]
theorem Sim.flush_none (h : Sim S x W) (hn : S.kn no = false ∨ (S.kn no = true ∧ S.free no = [])) (hK : S.kn no = true → ∃ L, Kahn (idsC x.list) (depW W) (fun j => (S.cg j).block) no L) : x.flush no = x ∧ x.flushE no = 0 := by
  have he : readyC x.list no = [] := by
    rcases hn with hk | ⟨hk, hf⟩
    · exact h.not_known hk
    · obtain ⟨L, hL⟩ := hK hk
      refine Classical.byContradiction fun hne => ?_
      exact (h.free_ready hk hL).2 hne hf
  unfold DC.flush DC.flushE
  rw [if_pos he, if_pos he]
  exact ⟨rfl, rfl⟩
end

end Go.Proofs.YtpmbpklbiocclaaGreat
