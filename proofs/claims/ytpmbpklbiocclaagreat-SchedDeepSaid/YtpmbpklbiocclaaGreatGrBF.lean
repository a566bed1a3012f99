/-
  Texts of this claim joined: Law12y, Law13s.
-/
import Derived.Test.YtpmbpklbiocclaaGreatGrBE
import Derived.Test.YtpmbpklbiocclaaGreatGrBA
import Derived.Test.YtpmbpklbiocclaaGreatRef12e
import Derived.Test.YtpmbpklbiocclaaGreatGrBD
import Derived.Test.YtpmbpklbiocclaaGreatGrAV
import Derived.Test.YtpmbpklbiocclaaGreatGrAW

/-
  What the walk of CacheSteps wants: the document's cache beside the program's.
-/
namespace Go.Proofs.YtpmbpklbiocclaaGreat
open Go.RowKit

theorem DC.uptoGo_fuse : ∀ n {x : DC} (id : Int), x.fuse < 9223372036854775808 → (DC.uptoGo n x id).1.fuse < 9223372036854775808 := by
  intro n
  induction n with
  | zero => intro x id h; exact h
  | succ n ih =>
    intro x id h
    unfold DC.uptoGo
    split
    · exact h
    · split
      · split
        · exact ih _ (DC.flush_fuse _ h)
        · exact DC.flush_fuse _ h
      · exact h
theorem DC.go_fuse {x : DC} {s : StC} (h : x.fuse < 9223372036854775808) (hs : s.no < 9223372036854775808) : (x.go s).1.fuse < 9223372036854775808 := by
  unfold DC.go
  split
  · show (x.put s).fuse < _
    unfold DC.put
    split <;> exact h
  · split
    · exact DC.flush_fuse _ h
    · split
      · exact DC.uptoGo_fuse _ _ h
      · split
        · exact DC.uptoGo_fuse _ _ h
        · split
          · show (if s.no < 0 then (-1 : Int) else s.no) < _
            split
            · decide
            · exact hs
          · split
            · show (-1 : Int) < _
              decide
            · exact h
section
variable {w w' : World} {ro ro' : Nat → Option Rl} {c b g : Nat} {x : DC} {T : Nat}
theorem RdL.keepP {α : Type} {D : Rds α} {p : Nat → Prop} {A : Option Addr} {N : Nat} {l : List α} (h : RdL (RdP D p) w A N l) (hk : ∀ q, q < w.heap.size → p q → w'.heap[q]? = w.heap[q]?) (ha : 0 < l.length → ∀ ad, A = some ad → p ad.block) : RdL (RdP D p) w' A N l := by
  obtain ⟨rows, h1, h2, h3, h4⟩ := h
  refine ⟨rows, h1, fun k hk' i hi => ?_, h3, fun k hk1 hk2 => (RdP D p).stable (h4 k hk1 hk2) fun q hq => hk q ((RdP D p).there (h4 k hk1 hk2) q hq) ((h4 k hk1 hk2).2 q hq)⟩
  obtain ⟨ad, x, e, hx, hc⟩ := h2 k hk' i hi
  refine ⟨ad, x, e, hx, ?_⟩
  have hlt := block_lt_of_cell hc
  rw [block_of_add] at hlt
  rw [World.cell?_of_block (w := w) (w' := w') (by rw [block_of_add]; exact hk _ hlt (ha (by omega) ad e))]
  exact hc
theorem RdL.keepT {A : Option Addr} {l : List Bool} {p : Nat → Prop} (h : RdL RdT w A 1 l) (hk : ∀ q, q < w.heap.size → p q → w'.heap[q]? = w.heap[q]?) (ha : 0 < l.length → ∀ ad, A = some ad → p ad.block) : RdL RdT w' A 1 l := by
  obtain ⟨rows, h1, h2, h3, h4⟩ := h
  refine ⟨rows, h1, fun k hk' i hi => ?_, h3, h4⟩
  obtain ⟨ad, x, e, hx, hc⟩ := h2 k hk' i hi
  refine ⟨ad, x, e, hx, ?_⟩
  have hlt := block_lt_of_cell hc
  rw [block_of_add] at hlt
  rw [World.cell?_of_block (w := w) (w' := w') (by rw [block_of_add]; exact hk _ hlt (ha (by omega) ad e))]
  exact hc
theorem DCQ.tr {p p' : Nat → Prop} {Ab : Option Addr} {nb cb : Nat} {Al : Option Addr} {nl cl : Nat} {Ak : Option Addr} {nk ck : Nat} (h : DCQ p w x Ab nb cb Al nl cl Ak nk ck) (t : Tr ro ro' w w') (h1 : ∀ q, p q → ro q = none) (h2 : ∀ q, p q → ro' q = none → p' q) : DCQ p' w' x Ab nb cb Al nl cl Ak nk ck := by
  have hk : ∀ q, q < w.heap.size → p q → w'.heap[q]? = w.heap[q]? := fun q hq hp => (t.keep q hq (h1 q hp)).2
  have hn : ∀ q, q < w.heap.size → p q → (p q ∧ p' q) := fun q hq hp => ⟨hp, h2 q hp (t.keep q hq (h1 q hp)).1⟩
  have hb0 : 0 < x.base.length → ∀ ad, Ab = some ad → (p ad.block ∧ p' ad.block) := fun hl ad e => hn _ (h.v.base.ablk (by decide) hl ad e) (h.b0 hl ad e)
  have hl0 : 0 < x.list.length → ∀ ad, Al = some ad → (p ad.block ∧ p' ad.block) := fun hl ad e => hn _ (h.v.list.ablk (by decide) hl ad e) (h.l0 hl ad e)
  have hk0 : 0 < x.knows.length → ∀ ad, Ak = some ad → (p ad.block ∧ p' ad.block) := fun hl ad e => hn _ (h.v.knows.ablk (by decide) hl ad e) (h.k0 hl ad e)
  have hb := ((h.bp.monoP hn).keepP (w' := w') (fun q hq hp => hk q hq hp.1) hb0).monoP (p' := p') (fun q _ hp => hp.2)
  have hl := ((h.lp.monoP hn).keepP (w' := w') (fun q hq hp => hk q hq hp.1) hl0).monoP (p' := p') (fun q _ hp => hp.2)
  have hkn := h.v.knows.keepT (p := p) hk h.k0
  exact ⟨⟨h.v.hnb, h.v.hcb, h.v.hmb, hb.ofP, h.v.hnl, h.v.hcl, h.v.hml, hl.ofP, h.v.hnk, h.v.hck, h.v.hmk, hkn, h.v.need⟩, hb, hl, fun q ad e => (hb0 q ad e).2, fun q ad e => (hl0 q ad e).2, fun q ad e => (hk0 q ad e).2⟩
end
section
variable {P : Program} {a : Act} {w : World}
end
theorem RK.row {w : World} {g : Nat} {L : List (List UInt8)} (h : RK w (some ⟨g, 0, none⟩) L) (hL : Bks L) {k : Nat} (hk : k < L.length) : RB w (some ⟨g, k * 256, none⟩) L[k] := fun i hi => by
  have h256 : L[k].length = 256 := hL _ (List.getElem_mem hk)
  obtain ⟨ad, x, e, hx, hc⟩ := h k hk i (by omega)
  injection e with e
  subst e
  rw [addr_add0] at hc
  rw [List.getElem?_eq_getElem hi] at hx
  injection hx with hx
  refine ⟨_, rfl, ?_⟩
  have e2 : (⟨g, k * 256, none⟩ : Addr).add i = ⟨g, k * 256 + i, none⟩ := by unfold Addr.add; split <;> simp_all
  rw [e2, hc, hx]
theorem needs_low {w : World} {s : Cg} {Ad : Option Addr} {nd cd : Nat} {An : Option Addr} {nn cn : Nat} (h : CV w s Ad nd cd An nn cn) (hn : 0 < nn) : ∀ ad, An = some ad → ad.block < w.heap.size := fun ad e => by
  obtain ⟨ad', e', hc⟩ := h.read 0 (by rw [ivals_len, h.len]; exact hn)
  rw [e] at e'
  injection e' with e'
  subst e'
  have := block_lt_of_cell hc
  rwa [block_of_add] at this
theorem bytes_low {w : World} {s : Cg} {Ad : Option Addr} {nd cd : Nat} {An : Option Addr} {nn cn : Nat} (h : CV w s Ad nd cd An nn cn) (hn : 0 < nd) : ∀ ad, Ad = some ad → ad.block < w.heap.size := fun ad e => by
  subst e
  exact h.p.lt (by rw [h.p.len]; exact hn)

end Go.Proofs.YtpmbpklbiocclaaGreat

/-
  The contract of the law's Same (stage 13).
-/
namespace Go.Proofs.YtpmbpklbiocclaaGreat
open Go.RowKit


end Go.Proofs.YtpmbpklbiocclaaGreat
