/-
  Texts of this claim joined: Ca11, R09a, Lw9a, Cg10, Cg11.
-/
import Derived.Test.YtpmbpklbiocclaaGreatCa10
import Derived.Deep.LoopGhost
import Derived.Test.YtpmbpklbiocclaaGreatGrAG
import Derived.BigQuiet
import Derived.Deep.QuietTactic
import Derived.Test.YtpmbpklbiocclaaGreatGrAH
import Derived.Test.YtpmbpklbiocclaaGreatGrAJ

/-
  The program's: end (a block's changes that were written are left no more; who waited for them waits for fewer).
-/
namespace Go.Proofs.YtpmbpklbiocclaaGreat
open Go.RowKit

def mcN (ids : List Int) (dep : Int → Int → Bool) (L : List Int) (p k : Nat) (j : Int) : Nat := mN dep (L.take p) j + (if j ∈ kPart ids dep L p k then 1 else 0)
section
variable {ids : List Int} {dep : Int → Int → Bool} {L : List Int} {p k : Nat}
theorem mcN_zero (j : Int) : mcN ids dep L 0 0 j = 0 := by
  unfold mcN
  rw [kPart_zero, if_neg (by simp)]
  rfl
theorem mcN_next (hp : p < L.length) {i : Int} (he : L[p] = i) (hk : k = (bN ids dep i).length) {j : Int} (hj : j ∈ ids) : mcN ids dep L (p + 1) 0 j = mcN ids dep L p k j := by
  subst he
  unfold mcN
  rw [take_snoc hp, mN_snoc, kPart_zero, kPart_at hp, hk, List.take_length, if_neg (c := j ∈ []) (by simp)]
  by_cases hd : dep L[p] j = true
  · rw [if_pos (bN_mem.2 ⟨hj, hd⟩), if_pos hd]
  · rw [if_neg (fun hh => hd (bN_mem.1 hh).2), if_neg hd]
theorem mcN_step (hi : ids.Nodup) (hp : p < L.length) {i : Int} (he : L[p] = i) (hk : k < (bN ids dep i).length) {j : Int} (hj : (bN ids dep i)[k] = j) (x : Int) : mcN ids dep L p (k + 1) x = mcN ids dep L p k x + (if x = j then 1 else 0) := by
  subst he; subst hj
  have hno := nodup_take_not (bN_nodup (dep := dep) hi L[p]) hk
  unfold mcN
  rw [kPart_at hp, kPart_at hp, take_snoc hk]
  by_cases hx : x = (bN ids dep L[p])[k]
  · rw [if_pos hx, hx, if_neg hno, if_pos (List.mem_append.2 (Or.inr (List.mem_singleton.2 rfl)))]
  · rw [if_neg hx]
    by_cases h1 : x ∈ (bN ids dep L[p]).take k
    · rw [if_pos h1, if_pos (List.mem_append.2 (Or.inl h1))]
    · rw [if_neg h1, if_neg (fun h => (List.mem_append.1 h).elim h1 fun h => hx (List.mem_singleton.1 h))]
theorem mcN_low (hi : ids.Nodup) (hn : L.Nodup) (hs : ∀ x ∈ L, x ∈ ids) (hp : p < L.length) {i : Int} (he : L[p] = i) (hk : k < (bN ids dep i).length) {j : Int} (hj : (bN ids dep i)[k] = j) : mcN ids dep L p k j < wN ids dep j := by
  subst he; subst hj
  have hno := nodup_take_not (bN_nodup (dep := dep) hi L[p]) hk
  have hm := bN_mem.1 (List.getElem_mem hk)
  have h2 := mN_le (ids := ids) (dep := dep) (nodup_take hn (p + 1)) (fun x hx => hs x (List.mem_of_mem_take hx)) (bN ids dep L[p])[k]
  rw [take_snoc hp, mN_snoc, if_pos hm.2] at h2
  unfold mcN
  rw [kPart_at hp, if_neg hno]
  omega
theorem mcN_end (hp : L.length ≤ p) (j : Int) : mcN ids dep L p k j = mN dep L j := by
  unfold mcN
  have e : kPart ids dep L p k = [] := by unfold kPart; rw [List.getElem?_eq_none hp]
  rw [e, if_neg (by simp), List.take_of_length_le hp]
  rfl
end
structure EI (S : CS) (ids : List Int) (dep : Int → Int → Bool) (L : List Int) (p k : Nat) (Wt : Int → Int) (Fr : Int → List Int) : Prop where
  w : ∀ j ∈ ids, Wt j = (wN ids dep j : Int) - (mcN ids dep L p k j : Int)
  f : ∀ c, S.kn c = true → (Fr c).Nodup ∧ ∀ j, j ∈ Fr c ↔ j ∈ ids ∧ (S.cg j).block = c ∧ Wt j = 0
section
variable {S : CS} {ids : List Int} {dep : Int → Int → Bool} {L : List Int} {p k : Nat} {Wt : Int → Int} {Fr : Int → List Int}
theorem EI.start (h : Gr S ids dep) : EI S ids dep L 0 0 S.waits S.free where
  w j hj := by rw [h.waits j hj, mcN_zero]; simp
  f c hc := by
    obtain ⟨h1, h2⟩ := h.fre c hc
    refine ⟨h1, fun j => ?_⟩
    rw [h2]
    constructor
    · rintro ⟨a, b, c⟩; exact ⟨a, b, by rw [h.waits j a, c]; rfl⟩
    · rintro ⟨a, b, c⟩; exact ⟨a, b, by rw [h.waits j a] at c; omega⟩
theorem EI.next (h : EI S ids dep L p k Wt Fr) (hp : p < L.length) {i : Int} (he : L[p] = i) (hk : k = (bN ids dep i).length) : EI S ids dep L (p + 1) 0 Wt Fr where
  w j hj := by rw [mcN_next hp he hk hj]; exact h.w j hj
  f := h.f
theorem EI.zero (h : EI S ids dep L p k Wt Fr) (hi : ids.Nodup) (hp : p < L.length) {i : Int} (he : L[p] = i) (hk : k < (bN ids dep i).length) {j : Int} (hj : (bN ids dep i)[k] = j) (hw : Wt j - 1 = 0) (hkn : S.kn (S.cg j).block = true) :
    EI S ids dep L p (k + 1) (updF Wt j 0) (updF Fr (S.cg j).block (Fr (S.cg j).block ++ [j])) := by
  have hjm := (bN_mem.1 (show j ∈ bN ids dep i from hj ▸ List.getElem_mem hk)).1
  have hnot : j ∉ Fr (S.cg j).block := fun hh => by have := (((h.f _ hkn).2 j).1 hh).2.2; omega
  refine ⟨fun x hx => ?_, fun c hc => ?_⟩
  · have h1 := h.w x hx
    rw [mcN_step hi hp he hk hj]
    by_cases e : x = j
    · subst e
      rw [updF_same, if_pos rfl]; omega
    · rw [updF_other _ _ e, if_neg e]; omega
  · by_cases ec : c = (S.cg j).block
    · subst ec
      rw [updF_same]
      obtain ⟨h1, h2⟩ := h.f _ hc
      refine ⟨List.nodup_append.2 ⟨h1, by simp, fun a ha b hb e => ?_⟩, fun x => ?_⟩
      · rw [List.mem_singleton] at hb; subst hb; subst e; exact hnot ha
      · rw [List.mem_append, List.mem_singleton, h2]
        by_cases e : x = j
        · subst e
          rw [updF_same]
          exact ⟨fun _ => ⟨hjm, rfl, rfl⟩, fun _ => Or.inr rfl⟩
        · rw [updF_other _ _ e]
          simp [e]
    · rw [updF_other _ _ ec]
      obtain ⟨h1, h2⟩ := h.f _ hc
      refine ⟨h1, fun x => ?_⟩
      rw [h2]
      by_cases e : x = j
      · subst e
        constructor
        · rintro ⟨_, hh, _⟩; exact absurd hh.symm ec
        · rintro ⟨_, hh, _⟩; exact absurd hh.symm ec
      · rw [updF_other _ _ e]
theorem EI.step (h : EI S ids dep L p k Wt Fr) (hi : ids.Nodup) (hp : p < L.length) {i : Int} (he : L[p] = i) (hk : k < (bN ids dep i).length) {j : Int} (hj : (bN ids dep i)[k] = j) {x : Int} (hx : Wt j - 1 = x) (hw : x ≠ 0) (hw2 : 1 ≤ Wt j) :
    EI S ids dep L p (k + 1) (updF Wt j x) Fr := by
  refine ⟨fun y hy => ?_, fun c hc => ?_⟩
  · have h1 := h.w y hy
    rw [mcN_step hi hp he hk hj]
    by_cases e : y = j
    · subst e
      rw [updF_same, if_pos rfl]; omega
    · rw [updF_other _ _ e, if_neg e]; omega
  · obtain ⟨h1, h2⟩ := h.f _ hc
    refine ⟨h1, fun y => ?_⟩
    rw [h2]
    by_cases e : y = j
    · subst e
      rw [updF_same]
      constructor
      · rintro ⟨_, _, hh⟩; omega
      · rintro ⟨_, _, hh⟩; exact absurd hh hw
    · rw [updF_other _ _ e]
end
def lfT (f : Int → Bool) (l : List Int) : Int → Bool := fun i => f i && !l.contains i
theorem lfT_nil (f : Int → Bool) : lfT f [] = f := by funext i; unfold lfT; simp
theorem lfT_step (f : Int → Bool) {l : List Int} {p : Nat} (hp : p < l.length) {i : Int} (hi : l[p] = i) : updF (lfT f (l.take p)) i false = lfT f (l.take (p + 1)) := by
  subst hi
  funext j
  rw [take_snoc hp]
  unfold updF lfT
  by_cases e : j = l[p]
  · rw [if_pos e, e, List.contains_iff_mem.2 (List.mem_append.2 (Or.inr (List.mem_singleton.2 rfl)))]
    simp
  · rw [if_neg e]
    have h : (l.take p ++ [l[p]]).contains j = (l.take p).contains j := by
      rw [Bool.eq_iff_iff, List.contains_iff_mem, List.contains_iff_mem, List.mem_append, List.mem_singleton]
      exact ⟨fun h => h.resolve_right e, Or.inl⟩
    rw [h]

end Go.Proofs.YtpmbpklbiocclaaGreat

/-
  Contracts of the document's answer 09, on what came in: Much, Rise, May, In, Place.
-/
namespace Go.Proofs.YtpmbpklbiocclaaGreat
open Go.RowKit


set_option maxHeartbeats 800000 in
theorem rin9_any (A : Option Addr) (n cap : Nat) (l : List Int) (hn : l.length = n) (hm : n ≤ maxLen) (x : Int) (w : World) (hr : RC w A (ivals l)) :
    Calls Tryz.prog 84 #[.slice A n cap, .int .i64 x] w fun e w' => e = .returned (.bool (l.contains x)) ∧ w = w' := by
  unfold maxLen at hm
  have Hn := Lib.hid hn
  have Hr := Lib.hid hr
  obtain ⟨b, hb⟩ : ∃ b, l.contains x = b := ⟨_, rfl⟩
  rw [hb]
  have Hb := Lib.hid hb
  clear hn hr hb
  go_enter Tryz.func84, Tryz.ntmps84
  go_wp2_with fail
  go_loop [5] (fun i => ∃ k : Nat, k ≤ n ∧ i = .int .i64 k ∧ ∀ j (h : j < l.length), j < k → l[j] ≠ x) (fun i => n - (intOf i).toNat)
  case atStart => exact ⟨0, Nat.zero_le _, rfl, fun j _ h => absurd h (Nat.not_lt_zero _)⟩
  case round =>
    obtain ⟨k, hk, rfl, hno⟩ := hrel
    have Hno := Lib.hid hno
    clear hno
    by_cases hlt : k < n
    · have d1 : decide ((k : Int) < n) = true := by simpa using hlt
      have hkl : k < l.length := by rw [Hn.out]; exact hlt
      obtain ⟨ad, rfl, hc⟩ := Hr.out.int k hkl
      by_cases g1 : l[k] = x
      · have Ha := Lib.hid (show l.contains x = true by rw [← g1]; simp)
        have e1 : (l[k] == x) = true := by simpa using g1
        clear g1
        go_wp2_with fail
        go_ret
        rw [← Hb.out, Ha.out]
        exact ⟨rfl, rfl⟩
      · have e1 : (l[k] == x) = false := by simpa using g1
        have Ha := Lib.hid g1
        clear g1
        go_wp2_with fail
        refine ⟨⟨k + 1, by omega, by go_num, fun j hj hjk => ?_⟩, by simp [intOf]; omega⟩
        by_cases h : j = k
        · subst h
          exact Ha.out
        · exact Hno.out j hj (by omega)
    · have d1 : decide ((k : Int) < n) = false := by simpa using hlt
      have Ha := Lib.hid (show l.contains x = false by
        rw [Bool.eq_false_iff]
        intro h
        obtain ⟨j, hj, e⟩ := List.getElem_of_mem (List.contains_iff_mem.1 h)
        exact Hno.out j hj (by have := Hn.out; omega) e)
      go_wp2_with fail
      go_ret
      rw [← Hb.out, Ha.out]
      exact ⟨rfl, rfl⟩

def RetPlace (l : List Cg) (x : Int) (w : World) (e : Ending) (w' : World) : Prop := w = w' ∧ ((∃ k : Nat, ∃ h : k < l.length, e = .returned (.int .i64 k) ∧ l[k].id = x ∧ ∀ j (h : j < l.length), j < k → l[j].id ≠ x) ∨ (e = .returned (.int .i64 (-1)) ∧ ∀ c ∈ l, c.id ≠ x))
set_option maxHeartbeats 800000 in
theorem rplace_any (A : Option Addr) (n cap : Nat) (l : List Cg) (hn : l.length = n) (hm : n ≤ maxLen) (x : Int) (w : World) (hr : RdL RdC w A 5 l) :
    Calls Tryz.prog 109 #[.slice A n cap, .int .i64 x] w (RetPlace l x w) := by
  unfold maxLen at hm
  have Hn := Lib.hid hn
  have Hr := Lib.hid hr
  clear hn hr
  go_enter Tryz.func109, Tryz.ntmps109
  go_wp2_with fail
  go_loop [5] (fun i => ∃ k : Nat, k ≤ n ∧ i = .int .i64 k ∧ ∀ j (h : j < l.length), j < k → l[j].id ≠ x) (fun i => n - (intOf i).toNat)
  case atStart => exact ⟨0, Nat.zero_le _, rfl, fun j _ h => absurd h (Nat.not_lt_zero _)⟩
  case round =>
    obtain ⟨k, hk, rfl, hno⟩ := hrel
    have Hno := Lib.hid hno
    clear hno
    by_cases hlt : k < n
    · have d1 : decide ((k : Int) < n) = true := by simpa using hlt
      have hkl : k < l.length := by rw [Hn.out]; exact hlt
      obtain ⟨ad, Ad, nd, cd, An, nn, cn, rfl, hcv, h0, h1, h2, h3, h4⟩ := Hr.out.cg hkl
      clear h1 h2 h3 h4 hcv
      by_cases g1 : l[k].id = x
      · have Ha := Lib.hid g1
        have e1 : (l[k].id == x) = true := by simpa using g1
        clear g1
        go_wp2_with fail
        go_ret
        exact ⟨rfl, Or.inl ⟨k, hkl, rfl, Ha.out, Hno.out⟩⟩
      · have e1 : (l[k].id == x) = false := by simpa using g1
        have Ha := Lib.hid g1
        clear g1
        go_wp2_with fail
        refine ⟨⟨k + 1, by omega, by go_num, fun j hj hjk => ?_⟩, by simp [intOf]; omega⟩
        by_cases h : j = k
        · subst h
          exact Ha.out
        · exact Hno.out j hj (by omega)
    · have d1 : decide ((k : Int) < n) = false := by simpa using hlt
      go_wp2_with fail
      go_ret
      exact ⟨rfl, Or.inr ⟨rfl, fun c hc => by
        obtain ⟨j, hj, rfl⟩ := List.getElem_of_mem hc
        exact Hno.out j hj (by have := Hn.out; omega)⟩⟩

end Go.Proofs.YtpmbpklbiocclaaGreat

/-
  The contract of the law's To.
-/
namespace Go.Proofs.YtpmbpklbiocclaaGreat
open Go.RowKit

theorem OwnL.lt {α : Type} {D : Rds α} {w : World} {B : Nat} {e : TypeId} {N : Nat} {v : Value} {l : List α} (h : OwnL D w B e N v l) : ∀ k, v.ownBlock = some k → B ≤ k ∧ k < w.heap.size := by
  obtain ⟨rows, h1, _⟩ := h
  exact h1.lt
theorem far5 {i b a : Int} {A A' : Option Addr} {n c n' c' g : Nat} (hg : g ∈ blocksOf (#[Value.int .i64 i, .int .i64 b, .int .i64 a, .slice A n c, .slice A' n' c'] : Array Value).toList) (h1 : (A.map (·.block)) ≠ some g) (h2 : (A'.map (·.block)) ≠ some g) : False := by
  obtain ⟨x, hx, hlx⟩ := mem_blocksOf.1 hg
  simp only [List.mem_cons, List.mem_nil_iff, or_false] at hx
  rcases hx with rfl | rfl | rfl | rfl | rfl
  · cases hlx
  · cases hlx
  · cases hlx
  · cases A with
    | none => cases hlx
    | some ad =>
      rw [leads_slice] at hlx
      split at hlx
      · cases hlx
      · exact h1 hlx
  · cases A' with
    | none => cases hlx
    | some ad =>
      rw [leads_slice] at hlx
      split at hlx
      · cases hlx
      · exact h2 hlx



end Go.Proofs.YtpmbpklbiocclaaGreat

/-
  Contracts of package ready's Find, Of.
-/
namespace Go.Proofs.YtpmbpklbiocclaaGreat
open Go.RowKit

section
variable {P : Program} {ops : Array Oper} {rest : List Oper} {o : Oper} {a : Act} {w : World} {Q : Exit → Act → World → Prop}
theorem bodyPost_struct_tmp {R : Ending → World → Prop} {fn : Func} {p q : Tmp} {t : TypeId} (hf : fn.results = #[ResultVar.cell p t, ResultVar.tmp q]) (g : Nat) (hp : a.tmps.getD p undef = .pointer (some ⟨g, 0, none⟩)) (t' : TypeId) (cs : Array Value) (hg : Blk w g t' cs)
    (d : TypeDesc) (hu : P.underlying t = some d) (hd1 : (match d with | .struct _ | .array _ _ => true | _ => false) = true) (hi : (P.info? t).map (·.size) = some cs.size) (hd : a.defers = []) (v : Value) (hq : a.tmps.getD q undef = v) (hR : Stop (R (.returned (.tuple #[.agg cs, v])) w)) : bodyPost P fn R .ret a w := by
  refine bodyPost_ret (v := .tuple #[.agg cs, v]) ?_ hd hR
  have hp' : a.tmps[p]?.getD undef = .pointer (some ⟨g, 0, none⟩) := by simpa using hp
  have hq' : a.tmps[q]?.getD undef = v := by simpa using hq
  simp [results, hf, hp', hq', asAddr, run_loadVar_row w g t' t cs (0, 0) _ hg hu hd1 hi]
end



end Go.Proofs.YtpmbpklbiocclaaGreat

/-
  The contract of package ready's Without.
-/
namespace Go.Proofs.YtpmbpklbiocclaaGreat
open Go.RowKit

theorem withoutC_on {l : List Cg} {ids : List Int} {k : Nat} (hk : k < l.length) (h : ids.contains l[k].id = true) : withoutC (l.take (k + 1)) ids = withoutC (l.take k) ids := by
  unfold withoutC
  rw [List.take_succ_eq_append_getElem hk, List.filter_append]
  rw [show List.filter (fun c : Cg => !ids.contains c.id) [l[k]] = [] by rw [List.filter_cons, if_neg (by rw [h]; decide)]; rfl]
  simp
theorem withoutC_off {l : List Cg} {ids : List Int} {k : Nat} (hk : k < l.length) (h : ids.contains l[k].id = false) : withoutC (l.take (k + 1)) ids = withoutC (l.take k) ids ++ [l[k]] := by
  unfold withoutC
  rw [List.take_succ_eq_append_getElem hk, List.filter_append]
  rw [show List.filter (fun c : Cg => !ids.contains c.id) [l[k]] = [l[k]] by rw [List.filter_cons, if_pos (by rw [h]; rfl)]; rfl]
theorem withoutC_lenk (l : List Cg) (ids : List Int) (k : Nat) : (withoutC (l.take k) ids).length ≤ k := by
  unfold withoutC
  exact Nat.le_trans (List.length_filter_le _ _) (by rw [List.length_take]; omega)
theorem OwnL.only {α : Type} {D : Rds α} {w w' : World} {B : Nat} {e : TypeId} {N : Nat} {v : Value} {l : List α} (h : OwnL D w B e N v l) {g : Nat} (ho : Only w w' g) (hg : v.ownBlock ≠ some g) (hl : ∀ rows, OwnN w B e N v rows → (∀ k (h : k < rows.length) (h' : k < l.length), D.R w rows[k] l[k]) → ∀ r ∈ rows, g ∉ blocksOf r) : OwnL D w' B e N v l := by
  obtain ⟨rows, h1, h2, h3, h4⟩ := h
  have hr := hl rows h1 h3
  refine ⟨rows, ⟨h1.1, h1.2.1, ?_⟩, h2, fun k hk hk' => D.stable (h3 k hk hk') fun q hq => ho.block _ (fun e => hr _ (List.getElem_mem hk) (by rw [← e]; exact hq)), h4⟩
  rcases h1.2.2 with h | ⟨q, cap, cur, hv, hb, hq, h⟩
  · exact Or.inl h
  · exact Or.inr ⟨q, cap, cur, hv, hb, Blk.only hq ho (fun e => hg (by rw [hv, e]; rfl)), h⟩
theorem OwnL.low {α : Type} {D : Rds α} {w : World} {B B' : Nat} {e : TypeId} {N : Nat} {v : Value} {l : List α} (h : OwnL D w B e N v l) (hb : B' ≤ B) : OwnL D w B' e N v l := by
  obtain ⟨rows, h1, h2, h3, h4⟩ := h
  refine ⟨rows, ⟨h1.1, h1.2.1, ?_⟩, h2, h3, h4⟩
  rcases h1.2.2 with h | ⟨q, cap, cur, hv, hq, h⟩
  · exact Or.inl h
  · exact Or.inr ⟨q, cap, cur, hv, Nat.le_trans hb hq, h⟩

def RdHi (B : Nat) : Rds Cg where
  R := fun w r c => RdC.R w r c ∧ ∀ g ∈ blocksOf r, B ≤ g
  stable := fun h hs => ⟨RdC.stable h.1 hs, h.2⟩
  there := fun h g hg => RdC.there h.1 g hg
theorem RdL.plainHi {w : World} {B : Nat} {A : Option Addr} {l : List Cg} (h : RdL (RdHi B) w A 5 l) : RdL RdC w A 5 l := by
  obtain ⟨rows, h1, h2, h3, h4⟩ := h
  exact ⟨rows, h1, h2, h3, fun k hk hk' => (h4 k hk hk').1⟩
theorem OwnL.plainHi {w : World} {B B' : Nat} {e : TypeId} {v : Value} {l : List Cg} (h : OwnL (RdHi B) w B' e 5 v l) : OwnL RdC w B' e 5 v l := by
  obtain ⟨rows, h1, h2, h3, h4⟩ := h
  exact ⟨rows, h1, h2, fun k hk hk' => (h3 k hk hk').1, h4⟩
theorem OwnL.hiMono {w : World} {B C B' : Nat} {e : TypeId} {v : Value} {l : List Cg} (h : OwnL (RdHi B) w C e 5 v l) (hb : B' ≤ B) : OwnL (RdHi B') w C e 5 v l := by
  obtain ⟨rows, h1, h2, h3, h4⟩ := h
  exact ⟨rows, h1, h2, fun k hk hk' => ⟨(h3 k hk hk').1, fun g hg => Nat.le_trans hb ((h3 k hk hk').2 g hg)⟩, h4⟩
def RetCH (w : World) (l : List Cg) (e : Ending) (w' : World) : Prop := ∃ A n c, e = .returned (.slice A n c) ∧ l.length = n ∧ n ≤ c ∧ c ≤ maxLen ∧ OwnL (RdHi w.heap.size) w' w.heap.size 88 5 (.slice A n c) l ∧ Below w.heap.size w w'
theorem RetCH.plain {w : World} {l : List Cg} {e : Ending} {w' : World} (h : RetCH w l e w') : RetC w l e w' := by
  obtain ⟨A, n, c, h1, h2, h3, h4, h5, h6⟩ := h
  obtain ⟨A', c', k1, _, _, k4⟩ := h5.read
  injection k1 with k1
  subst k1
  exact ⟨A, n, c, h1, h2, h3, h4, k4.plainHi, h6⟩
theorem OwnL.retCH {w w' : World} {B : Nat} {v : Value} {l : List Cg} (h : OwnL (RdHi w.heap.size) w' B 88 5 v l) (hB : w.heap.size ≤ B) (hb : Below w.heap.size w w') : RetCH w l (.returned v) w' := by
  obtain ⟨A, c, rfl, h1, h2, _⟩ := h.read
  exact ⟨A, _, c, rfl, rfl, h1, h2, h.low hB, hb⟩

set_option maxRecDepth 100000 in
set_option maxHeartbeats 8000000 in
theorem pwithoutH_any (A : Option Addr) (n cap : Nat) (l : List Cg) (hn : l.length = n) (hm : n ≤ 4096) (hD : ∀ c ∈ l, c.p.data.length ≤ 4096 ∧ c.needs.length ≤ 4096) (Ai : Option Addr) (ni ci : Nat) (ids : List Int) (hni : ids.length = ni) (hmi : ni ≤ 4096) (hnb : ∀ z ∈ ids, -9223372036854775808 ≤ z ∧ z < 9223372036854775808) (w : World) (hr : RdL RdC w A 5 l) (hri : RC w Ai (ivals ids)) :
    Calls Tryz.prog 42 #[.slice A n cap, .slice Ai ni ci] w (RetCH w (withoutC l ids)) := by
  have Hn := Lib.hid hn
  have Hr := Lib.hid hr
  have HDD := Lib.hid hD
  have Hni := Lib.hid hni
  have Hri := Lib.hid hri
  have Hnb := Lib.hid hnb
  clear hn hr hD hni hri hnb
  go_enter Tryz.func42, Tryz.ntmps42
  go_wp2_with (refine wpList_make_set rfl _ rfl 3 ?_)
  apply Stop.go; intro w1 Hg1 Hm1
  generalize hgm : w.heap.size = gm at Hm1 ⊢
  have HZ := Lib.hid hgm
  clear hgm
  go_wp2_with fail
  go_loopw [16] (fun i wr => ∃ j : Nat, j ≤ ni ∧ i = .int .i64 j ∧ SetI wr Tryz.prog 3 gm j (fun x => (ids.take j).contains x) ∧ Only w1 wr gm) (fun i _ => ni - (intOf i).toNat)
  case atStart => exact ⟨0, Nat.zero_le _, rfl, Hm1.out, Only.refl _ _⟩
  case round =>
    obtain ⟨j, hj, rfl, hs, ho⟩ := hrel
    have Hs := Lib.hid hs
    have Ho := Lib.hid ho
    have Hbw := Lib.hid (bonly Hg1.out.1 ho (Nat.le_of_eq HZ.out))
    clear hs ho
    by_cases hlt : j < ni
    · have d0 : decide ((j : Int) < ni) = true := by simpa using hlt
      have hjl : j < ids.length := by rw [Hni.out]; exact hlt
      obtain ⟨ai, rfl, hc⟩ := (Hri.out.below Hbw.out).int j hjl
      have Hx := Lib.hid (Hnb.out _ (List.getElem_mem hjl))
      have HT := Lib.hid (show ids.take (j + 1) = ids.take j ++ [ids[j]] from List.take_succ_eq_append_getElem hjl)
      generalize ids[j] = x at *
      have hjm : j < maxLen := by unfold maxLen; omega
      go_wp2_with (refine wpList_set_store rfl _ _ _ _ rfl _ _ Tryz.underlying3 Tryz.underlying139 rfl Hs.out hjm x rfl (wf_int Hx.out.1 Hx.out.2) rfl ?_)
      apply Stop.go; intro w2 Hm2 Ho2
      go_wp2_with fail
      go_roundw
      case rel => exact ⟨j + 1, by omega, by go_num, Hm2.out.congr (fun k => by
        rw [HT.out]
        unfold addM
        by_cases hk : k = x
        · rw [if_pos hk, hk]; simp
        · rw [if_neg hk]; simp [hk]), Ho.out.trans Ho2.out⟩
      case measure => simp [intOf]; omega
    · have d0 : decide ((j : Int) < ni) = false := by simpa using hlt
      have Hs1 := Lib.hid (show SetI wr Tryz.prog 3 gm ni (fun x => ids.contains x) from by
        have h := Hs.out
        rw [show j = ni by omega] at h
        rw [List.take_of_length_le (by rw [Hni.out]; exact Nat.le_refl _)] at h
        exact h)
      have Zr := Lib.hid (show gm < wr.heap.size by have := Ho.out.size; have := Hg1.out.2; have := HZ.out; omega)
      clear Hs Ho Hg1 Hm1
      generalize hw9 : wr = w9 at *
      clear hw9
      generalize hB : w9.heap.size = B at *
      have HB := Lib.hid hB
      clear hB
      go_wp2_with fail
      go_loopw [8, 26] (fun v i wr => ∃ k : Nat, k ≤ n ∧ i = .int .i64 k ∧ OwnL (RdHi w.heap.size) wr B 88 5 v (withoutC (l.take k) ids) ∧ SetI wr Tryz.prog 3 gm ni (fun x => ids.contains x) ∧ Below w.heap.size w wr ∧ B ≤ wr.heap.size) (fun _ i _ => n - (intOf i).toNat)
      case atStart => exact ⟨0, Nat.zero_le _, rfl, OwnL.nil_ _ _ _ _ _, Hs1.out, Hbw.out, Nat.le_of_eq HB.out.symm⟩
      case round =>
        obtain ⟨k, hk, rfl, hu, hs, hbw, hz⟩ := hrel
        have Hu := Lib.hid hu
        have Hs := Lib.hid hs
        have Hbw := Lib.hid hbw
        have Hz := Lib.hid hz
        clear hu hs hbw hz
        by_cases hlt : k < n
        · have d1 : decide ((k : Int) < n) = true := by simpa using hlt
          have hkl : k < l.length := by rw [Hn.out]; exact hlt
          have z1 : (k : Int) < n := by omega
          have Hon := Lib.hid (withoutC_on (ids := ids) hkl)
          have Hoff := Lib.hid (withoutC_off (ids := ids) hkl)
          have Hlk := Lib.hid (withoutC_lenk l ids k)
          have hd := HDD.out l[k] (List.getElem_mem hkl)
          obtain ⟨ad, Ad, nd, cd, An, nn, cn, rfl, hcv, h0, h1, h2, h3, h4⟩ := (Hr.out.below Hbw.out).cg hkl
          rw [hcv.p.len, hcv.len] at hd
          have C0 := Lib.hid h0
          have C1 := Lib.hid h1
          have C2 := Lib.hid h2
          have C3 := Lib.hid h3
          have C4 := Lib.hid h4
          have Hcv := Lib.hid hcv
          have Hd := Lib.hid hd
          clear h0 h1 h2 h3 h4 hcv hd
          generalize l[k] = c at *
          generalize withoutC (l.take k) ids = L at *
          clear hkl
          obtain ⟨b, hb⟩ : ∃ b, ids.contains c.id = b := ⟨_, rfl⟩
          rw [hb] at Hon Hoff
          have HBB := Lib.hid hb
          clear hb
          have Hwf := Lib.hid (wf_int Hcv.out.lo0 Hcv.out.hi0)
          go_wp2_with (first | refine wpList_load_five rfl _ _ rfl (ad.add (k * 5)) rfl _ _ _ _ _ C0.out C1.out C2.out C3.out C4.out _ Tryz.underlying88 Tryz.chgSize ?_ | refine wpList_alloc_row rfl _ rfl _ Tryz.chgZero ?_); apply Stop.go; intro w3 Hg3 Hb3; go_wp2_with (refine wpList_store_arr rfl _ _ _ rfl _ #[.int .i64 c.id, .int .i64 c.block, .int .i64 c.p.at_, .slice Ad nd cd, .slice An nn cn] rfl rfl _ _ Hb3.out Tryz.chgSize rfl (by simp [Value.oneCell']) ?_); apply Stop.go; intro w4 Ho4 Hb4; have D4 := Lib.hid (bonly Hg3.out.1 Ho4.out (Nat.le_refl _))
          have c0 : w4.cell? ⟨wr.heap.size, 0, none⟩ = some (.int .i64 c.id) := Hb4.out.five.1
          have Hs4 := Lib.hid (Hs.out.ext D4.out)
          go_wp2_with (first | refine wpList_set_look rfl _ _ _ rfl _ _ Tryz.underlying3 Tryz.underlying139 Tryz.unitZero rfl Hs4.out c.id rfl Hwf.out b HBB.out ?_ | refine wpList_alloc_row rfl _ rfl _ Tryz.unitZero ?_)
          apply Stop.go; intro w5 Hg5 Hb5
          go_wp2_with (refine wpList_store_arr rfl _ _ _ rfl _ #[] rfl rfl _ _ Hb5.out Tryz.unitSize rfl (by simp) ?_)
          apply Stop.go; intro w6 Ho6 Hb6
          have D6 := Lib.hid (bt D4.out (bonly Hg5.out.1 Ho6.out (Nat.le_refl _)))
          have Hx6 := Lib.hid ((Hb4.out.ext Hg5.out.1).only Ho6.out (Nat.ne_of_lt Hb4.out.lt))
          clear c0 Hb5 Hb6 Hg5 Ho6 Hb4 Ho4 Hb3 Hg3 D4 Hs4
          cases b
          · have HX := Lib.hid (Hoff.out rfl)
            go_wp2_with (refine wpList_load_blk rfl _ _ rfl _ rfl _ _ Hx6.out _ Tryz.underlying88 rfl Tryz.chgSize ?_)
            refine (copied_any c Ad nd cd An nn cn Hd.out.1 Hd.out.2 _ (Hcv.out.below D6.out)).mono ?_; rintro e w7 ⟨Ad7, nd7, cd7, An7, nn7, cn7, rfl, hcv7, f7, g7, hb7⟩
            have Hcv7 := Lib.hid hcv7
            have Hf7 := Lib.hid (And.intro f7 g7)
            have D7 := Lib.hid (bt D6.out hb7)
            clear hcv7 f7 g7 hb7
            go_wp2_with (refine wpList_build_row rfl _ _ _ rfl Tryz.underlying46 5 72 _ Tryz.chgInfo (by decide) (by decide) #[.int .i64 c.id, .int .i64 c.block, .int .i64 c.p.at_, .slice Ad7 nd7 cd7, .slice An7 nn7 cn7] rfl rfl ?_)
            apply Stop.go; intro w8 Hg8 Hb8
            have D8 := Lib.hid (bt D7.out Hg8.out.1)
            have Hu8 := Lib.hid (Hu.out.ext D8.out)
            have Hs8 := Lib.hid (Hs.out.ext D8.out)
            have HcZ := Lib.hid (Hcv7.out.below Hg8.out.1)
            have Hz8 := Lib.hid (Nat.le_trans Hz.out D8.out.size)
            have HhiZ := Lib.hid (fun q (hq : q ∈ blocksOf [.int .i64 c.id, .int .i64 c.block, .int .i64 c.p.at_, .slice Ad7 nd7 cd7, .slice An7 nn7 cn7]) => show w.heap.size ≤ q from Nat.le_of_not_lt fun hlt => far5 hq (fun e2 => by
              have h1 := Hbw.out.size
              have h3 := D6.out.size
              cases hA : Ad7 with
              | none => rw [hA] at e2; cases e2
              | some a => rw [hA] at e2; have h2 := Hf7.out.1 a hA; injection e2 with e2; have e3 : a.block = q := e2; omega) (fun e2 => by
              have h1 := Hbw.out.size
              have h3 := D6.out.size
              cases hA : An7 with
              | none => rw [hA] at e2; cases e2
              | some a => rw [hA] at e2; have h2 := Hf7.out.2 a hA; injection e2 with e2; have e3 : a.block = q := e2; omega))
            have hl1 : L.length + 1 ≤ 140737488355328 := by have := Hlk.out; omega
            have hl2 : (L.length + 1) * 72 ≤ 140737488355328 := by have := Hlk.out; omega
            go_wp2_with (at_builtin; refine wpList_append_L (RdHi w.heap.size) rfl _ _ _ _ rfl Tryz.underlying46 5 72 _ Tryz.chgInfo rfl (by decide) B _ L rfl Hu8.out _ _ rfl Hb8.out rfl (by simp [Value.oneCell']) c ⟨HcZ.out.rd, HhiZ.out⟩ (fun q hq e => far5 hq (fun e2 => by
              have h1 := (Hu.out.lt q e).2
              have h3 := D6.out.size
              cases hA : Ad7 with
              | none => rw [hA] at e2; cases e2
              | some a => rw [hA] at e2; have h2 := Hf7.out.1 a hA; injection e2 with e2; have e3 : a.block = q := e2; omega) (fun e2 => by
              have h1 := (Hu.out.lt q e).2
              have h3 := D6.out.size
              cases hA : An7 with
              | none => rw [hA] at e2; cases e2
              | some a => rw [hA] at e2; have h2 := Hf7.out.2 a hA; injection e2 with e2; have e3 : a.block = q := e2; omega)) Hz8.out hl1 hl2 ?_)
            apply Stop.go
            intro gL capL wL HL HbL HgL HwL
            go_wp2_with fail
            go_roundw
            case rel => exact ⟨k + 1, by omega, by go_num, by rw [HX.out]; exact HL.out, Hs8.out.same (HbL.out.block gm (by have := Zr.out; have := HB.out; omega)), (bt Hbw.out D8.out).trans (HbL.out.mono (by have := Hbw.out.size; have := HB.out; have := HZ.out; have := Zr.out; omega)), Nat.le_trans Hz8.out HbL.out.size⟩
            case measure => simp [intOf]; omega
          · have HX := Lib.hid (Hon.out rfl)
            go_wp2_with fail
            go_roundw
            case rel => exact ⟨k + 1, by omega, by go_num, by rw [HX.out]; exact Hu.out.ext D6.out, Hs.out.ext D6.out, bt Hbw.out D6.out, Nat.le_trans Hz.out D6.out.size⟩
            case measure => simp [intOf]; omega
        · have d1 : decide ((k : Int) < n) = false := by simpa using hlt
          have HX := Lib.hid (show withoutC (l.take k) ids = withoutC l ids by rw [List.take_of_length_le (by rw [Hn.out]; omega)])
          rw [HX.out] at Hu
          obtain ⟨Av, cv, hv, -⟩ := Hu.out.read
          subst hv
          go_wp2_with fail
          go_ret
          exact Hu.out.retCH (by have := Zr.out; have := HB.out; have := HZ.out; omega) Hbw.out


end Go.Proofs.YtpmbpklbiocclaaGreat
