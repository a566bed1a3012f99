/-
  The contract of package graph's addMeeting.
-/
import Derived.Test.YtpmbpklbiocclaaGreatGrf1
import Derived.Test.YtpmbpklbiocclaaGreatGrBG
import Derived.Test.YtpmbpklbiocclaaGreatGrAD
import Derived.Test.YtpmbpklbiocclaaGreatGrAE
namespace Go.Proofs.YtpmbpklbiocclaaGreat
open Go.RowKit

theorem Tryz.lastZero : (Tryz.prog.info? 106).map (·.zero) = some (some (.agg (zc 256 fun _ => 0))) := by kernel_rfl
theorem Tryz.intSzG : (Tryz.prog.info? 3).map (·.size) = some 1 := by kernel_rfl
theorem Tryz.intsSzG : (Tryz.prog.info? 59).map (·.size) = some 1 := by kernel_rfl
theorem Tryz.intsZeroG : (Tryz.prog.info? 59).map (·.zero) = some (some nilS) := by kernel_rfl
def ns (P : List Nat) : List Int := P.map fun (k : Nat) => (k : Int)
theorem ns_len (P : List Nat) : (ns P).length = P.length := by simp [ns]
theorem ns_get {P : List Nat} {k : Nat} (h : k < P.length) : (ns P)[k]'(by rw [ns_len]; exact h) = (P[k] : Int) := by simp [ns]
theorem ns_snoc (P : List Nat) (a : Nat) : ns P ++ [(a : Int)] = ns (P ++ [a]) := by simp [ns]
theorem spot_of_cell {w : World} {x : Addr} {v : Value} (h : w.cell? x = some v) : x.spot = none := by
  unfold World.cell? at h
  split at h
  · split at h
    · cases h
    · rename_i hs; simpa using hs
  · cases h
theorem addr_off {x : Addr} (hs : x.spot = none) (j : Nat) : (⟨x.block, x.off + j, none⟩ : Addr) = x.add j := by
  cases x with
  | mk b o s =>
    simp only at hs
    subst hs
    unfold Addr.add
    split <;> simp_all
theorem cell_off {w : World} {x : Addr} {u v : Value} (h0 : w.cell? x = some u) {j : Nat} (h : w.cell? (x.add j) = some v) : w.cell? ⟨x.block, x.off + j, none⟩ = some v := by
  rw [addr_off (spot_of_cell h0), h]
theorem cell_off1 {w : World} {x : Addr} {u v : Value} (h0 : w.cell? x = some u) {j : Nat} (h : w.cell? (x.add (j + 1)) = some v) : w.cell? ((⟨x.block, x.off + j, none⟩ : Addr).add 1) = some v := by
  rw [addr_off (spot_of_cell h0), add_of_add, h]

theorem RdL.cgk {w : World} {A : Option Addr} {l : List Cg} (h : RdL RdC w A 5 l) {k : Nat} (hk : k < l.length) :
    ∃ ad Ad nd cd An nn cn, A = some ad ∧ CV w (cgA l k) Ad nd cd An nn cn ∧ w.cell? (ad.add (k * 5)) = some (.int .i64 (cgA l k).id) ∧ w.cell? ((ad.add (k * 5)).add 1) = some (.int .i64 (cgA l k).block) ∧ w.cell? ((ad.add (k * 5)).add 2) = some (.int .i64 (cgA l k).p.at_) ∧ w.cell? ((ad.add (k * 5)).add 3) = some (.slice Ad nd cd) ∧ w.cell? ((ad.add (k * 5)).add 4) = some (.slice An nn cn) := by
  rw [cgA_eq hk]
  exact h.cg hk
theorem cg_right {l : List Cg} (hm : mayC l = true) {k : Nat} (hk : k < l.length) : (cgA l k).p.right = true := by
  rw [cgA_eq hk]
  exact (mayN_iff.1 hm k hk).2.2.1
theorem updF_inl (S : Nat ⊕ Int → Value) (a : Nat) (v : Value) (k : Nat) : updF (fun k => S (Sum.inl k)) a v k = updF S (Sum.inl a) v (Sum.inl k) := by
  unfold updF
  by_cases h : k = a
  · subst h; rw [if_pos rfl, if_pos rfl]
  · rw [if_neg h, if_neg (by simpa using h)]
structure Met (l : List Cg) (P : List Nat) (t : Nat) (X0 X : Nat ⊕ Int → List Int) : Prop where
  other : ∀ b, X (.inr b) = X0 (.inr b)
  off : ∀ k, k ∉ P.take t → X (.inl k) = X0 (.inl k)
  on : ∀ k, k ∈ P.take t → ∀ y, y ∈ X (.inl k) ↔ y ∈ X0 (.inl k) ∨ MtB l P k y
  len : ∀ k, (X (.inl k)).length ≤ (X0 (.inl k)).length + 256
structure MetI (l : List Cg) (P : List Nat) (t a i : Nat) (X1 X : Nat ⊕ Int → List Int) : Prop where
  other : ∀ b, X (.inr b) = X1 (.inr b)
  off : ∀ k, k ≠ a → X (.inl k) = X1 (.inl k)
  on : ∀ y, y ∈ X (.inl a) ↔ y ∈ X1 (.inl a) ∨ ∃ q, (cgA l a).p.lo ≤ q ∧ q < (cgA l a).p.lo + i ∧ 0 < lastP l (P.take t) q ∧ ((lastP l (P.take t) q : Nat) : Int) = y + 1
  len : (X (.inl a)).length ≤ (X1 (.inl a)).length + i
theorem Met.start (l : List Cg) (P : List Nat) (X : Nat ⊕ Int → List Int) : Met l P 0 X X := ⟨fun _ => rfl, fun _ _ => rfl, fun k h => by simp at h, fun _ => by omega⟩
theorem MetI.start (l : List Cg) (P : List Nat) (t a : Nat) (X : Nat ⊕ Int → List Int) : MetI l P t a 0 X X :=
  ⟨fun _ => rfl, fun _ _ => rfl, fun y => ⟨Or.inl, fun h => h.elim id fun ⟨q, h1, h2, _⟩ => absurd h2 (by omega)⟩, by omega⟩
theorem MetI.skip {l : List Cg} {P : List Nat} {t a i : Nat} {X1 X : Nat ⊕ Int → List Int} (h : MetI l P t a i X1 X) (hq : lastP l (P.take t) ((cgA l a).p.lo + i) = 0) : MetI l P t a (i + 1) X1 X :=
  ⟨h.other, h.off, fun y => by
    rw [h.on y]
    constructor
    · rintro (h1 | ⟨q, h1, h2, h3⟩)
      · exact Or.inl h1
      · exact Or.inr ⟨q, h1, by omega, h3⟩
    · rintro (h1 | ⟨q, h1, h2, h3, h4⟩)
      · exact Or.inl h1
      · by_cases e : q = (cgA l a).p.lo + i
        · subst e; omega
        · exact Or.inr ⟨q, h1, by omega, h3, h4⟩, by have := h.len; omega⟩
theorem MetI.add {l : List Cg} {P : List Nat} {t a i z : Nat} {X1 X : Nat ⊕ Int → List Int} (h : MetI l P t a i X1 X) (hq : lastP l (P.take t) ((cgA l a).p.lo + i) = z + 1) : MetI l P t a (i + 1) X1 (updF X (.inl a) (X (.inl a) ++ [(z : Int)])) :=
  ⟨fun b => by rw [updF_other _ _ (by simp)]; exact h.other b, fun k hk => by rw [updF_other _ _ (by simpa using hk)]; exact h.off k hk, fun y => by
    rw [updF_same, List.mem_append, h.on y]
    constructor
    · rintro ((h1 | ⟨q, h1, h2, h3⟩) | h1)
      · exact Or.inl h1
      · exact Or.inr ⟨q, h1, by omega, h3⟩
      · have e : y = z := by simpa using h1
        exact Or.inr ⟨(cgA l a).p.lo + i, by omega, by omega, by rw [hq]; omega, by rw [hq, e]; rfl⟩
    · rintro (h1 | ⟨q, h1, h2, h3, h4⟩)
      · exact Or.inl (Or.inl h1)
      · by_cases e : q = (cgA l a).p.lo + i
        · subst e
          rw [hq] at h4
          exact Or.inr (by simp; omega)
        · exact Or.inl (Or.inr ⟨q, h1, by omega, h3, h4⟩), by rw [updF_same]; have := h.len; simp; omega⟩
theorem Met.next {l : List Cg} {P : List Nat} {t : Nat} {X0 X1 X : Nat ⊕ Int → List Int} (hp : P.Pairwise (· < ·)) (ht : t < P.length) (hr : (cgA l P[t]).p.right = true) (h : Met l P t X0 X1) (hi : MetI l P t P[t] (cgA l P[t]).p.data.length X1 X) : Met l P (t + 1) X0 X where
  other b := by rw [hi.other, h.other]
  off k hk := by
    have h1 : k ∉ P.take t := fun hh => hk (by rw [List.take_succ_eq_append_getElem ht]; exact List.mem_append.2 (Or.inl hh))
    have h2 : k ≠ P[t] := fun hh => hk (by rw [List.take_succ_eq_append_getElem ht]; exact List.mem_append.2 (Or.inr (by rw [hh]; exact List.mem_singleton.2 rfl)))
    rw [hi.off k h2, h.off k h1]
  on k hk y := by
    have hnot : P[t] ∉ P.take t := fun hh => by
      obtain ⟨j, hj, e⟩ := List.getElem_of_mem hh
      have hjt : j < t := by simp at hj; omega
      have := List.pairwise_iff_getElem.1 hp j t (by omega) ht hjt
      simp at e
      omega
    by_cases e : k = P[t]
    · subst e
      rw [hi.on y, h.off _ hnot]
      unfold MtB
      rw [take_below hp ht]
      constructor
      · rintro (h1 | ⟨q, h1, h2, h3, h4⟩)
        · exact Or.inl h1
        · exact Or.inr ⟨q, Pt.has_iff.2 ⟨hr, h1, h2⟩, h3, h4⟩
      · rintro (h1 | ⟨q, h1, h3, h4⟩)
        · exact Or.inl h1
        · obtain ⟨_, h5, h6⟩ := Pt.has_iff.1 h1
          exact Or.inr ⟨q, h5, h6, h3, h4⟩
    · rw [hi.off k e]
      refine h.on k ?_ y
      rw [List.take_succ_eq_append_getElem ht] at hk
      rcases List.mem_append.1 hk with h1 | h1
      · exact h1
      · exact absurd (by simpa using h1) e
  len k := by
    by_cases e : k = P[t]
    · subst e
      have hnot : P[t] ∉ P.take t := fun hh => by
        obtain ⟨j, hj, e⟩ := List.getElem_of_mem hh
        have hjt : j < t := by simp at hj; omega
        have := List.pairwise_iff_getElem.1 hp j t (by omega) ht hjt
        simp at e
        omega
      have h1 := hi.len
      rw [h.off _ hnot] at h1
      have := (Pt.right_iff.1 hr).2.1
      omega
    · rw [hi.off k e]; exact h.len k
def arrL (l : List Cg) (P : List Nat) (t a i : Nat) (q : Nat) : Int := if (cgA l a).p.lo ≤ q ∧ q < (cgA l a).p.lo + i then ((a + 1 : Nat) : Int) else ((lastP l (P.take t) q : Nat) : Int)
theorem arrL_zero (l : List Cg) (P : List Nat) (t a : Nat) : arrL l P t a 0 = fun q => ((lastP l (P.take t) q : Nat) : Int) := funext fun q => by unfold arrL; rw [if_neg (by omega)]
theorem zc_set {n : Nat} (z : Nat → Int) (k : Nat) (x : Int) : (zc n z).setIfInBounds k (.int .i64 x) = zc n (updF z k x) := by
  have e : ∀ y : Nat → Int, zc n y = vc n (fun k => Value.int .i64 (y k)) := fun _ => rfl
  rw [e, e, vc_set]
  congr 1
  funext j
  unfold updF
  split <;> rfl
theorem arrL_succ (l : List Cg) (P : List Nat) (t a i : Nat) : updF (arrL l P t a i) ((cgA l a).p.lo + i) ((a + 1 : Nat) : Int) = arrL l P t a (i + 1) := funext fun q => by
  unfold updF arrL
  by_cases e : q = (cgA l a).p.lo + i
  · rw [if_pos e, if_pos (by omega)]
  · rw [if_neg e]
    by_cases h : (cgA l a).p.lo ≤ q ∧ q < (cgA l a).p.lo + i
    · rw [if_pos h, if_pos (by omega)]
    · rw [if_neg h, if_neg (by omega)]
theorem arrL_all {l : List Cg} {P : List Nat} {t : Nat} (ht : t < P.length) (hr : (cgA l P[t]).p.right = true) : arrL l P t P[t] (cgA l P[t]).p.data.length = fun q => ((lastP l (P.take (t + 1)) q : Nat) : Int) := funext fun q => by
  unfold arrL
  rw [List.take_succ_eq_append_getElem ht, lastP_snoc]
  by_cases h : (cgA l P[t]).p.lo ≤ q ∧ q < (cgA l P[t]).p.lo + (cgA l P[t]).p.data.length
  · rw [if_pos h, if_pos (Pt.has_iff.2 ⟨hr, h.1, h.2⟩)]
  · rw [if_neg h, if_neg (fun hh => h (Pt.has_iff.1 hh).2)]

set_option maxRecDepth 100000 in
set_option maxHeartbeats 8000000 in
theorem addm_any (w0 : World) (gR n B : Nat) (S0 : Nat ⊕ Int → Value) (X0 : Nat ⊕ Int → List Int) (hgR : gR < B) (A : Option Addr) (cap : Nat) (l : List Cg) (hl : l.length = n) (hm : n ≤ 4096) (hmay : mayC l = true) (hr : RdL RdC w0 A 5 l) (b : Int) (P : List Nat) (hP : ∀ a ∈ P, a < n) (hp : P.Pairwise (· < ·))
    (w : World) (hF : Fam w B 3 S0 X0) (hR : Blk w gR 59 (vc n fun k => S0 (.inl k))) (h0 : Below w0.heap.size w0 w) (hB0 : w0.heap.size ≤ gR) (hB : B ≤ w.heap.size) (hX : X0 (.inr b) = ns P) (hlen : ∀ k, (X0 (.inl k)).length ≤ 65536) :
    Calls Tryz.prog 104 #[.slice (some ⟨gR, 0, none⟩) n n, .slice A n cap, S0 (.inr b)] w fun e w' => e = .returned (.tuple #[]) ∧ ∃ S X, Fam w' B 3 S X ∧ Blk w' gR 59 (vc n fun k => S (.inl k)) ∧ (∀ b, S (.inr b) = S0 (.inr b)) ∧ Met l P P.length X0 X ∧ Turns (fun r => r = gR ∨ w.heap.size ≤ r) w w' S0 S := by
  have Hl := Lib.hid hl
  have Hr := Lib.hid hr
  have HP := Lib.hid hP
  have Hp := Lib.hid hp
  have H0 := Lib.hid h0
  have HLen := Lib.hid hlen
  have HMay := Lib.hid hmay
  have HX := Lib.hid hX
  have HF0 := Lib.hid hF
  have HR0 := Lib.hid hR
  have ho := hF.own (.inr b)
  rw [hX] at ho
  have hns : (ns P).length = P.length := ns_len P
  obtain ⟨Ap, cp, hv, hpc, hpm, hpr⟩ := ho.ints
  rw [hns] at hv hpc
  have HV := Lib.hid hv
  have hPl : P.length ≤ 9223372036854775807 := by unfold maxLen at hpm; omega
  clear hl hr hP hp h0 hlen hX hF hR ho hpr hmay
  rw [hv]
  clear hv
  go_enter Tryz.func104, Tryz.ntmps104
  go_wp2_with (refine wpList_alloc_row rfl _ rfl _ Tryz.lastZero ?_)
  apply Stop.go; intro w1 Hg1 Hb1
  generalize hgl : w.heap.size = gl at Hb1 ⊢
  have Hgl := Lib.hid hgl
  clear hgl
  have HR1 := Lib.hid (HR0.out.ext Hg1.out.1)
  have HF1 := Lib.hid (HF0.out.ext Hg1.out.1)
  have HG : Hid (∀ r, (r = gR ∨ gl ≤ r) → w0.heap.size ≤ r) := Lib.hid fun r h => by have := Hgl.out; have := H0.out.size; omega
  have HT1 := Lib.hid (Turns.of_below (fun r => r = gR ∨ gl ≤ r) S0 Hg1.out.1)
  have HSB := Lib.hid (fun i k (h : (S0 i).ownBlock = some k) => (show w0.heap.size ≤ k from Nat.le_trans (by omega) (HF0.out.lt i k h).1))
  have HN1 := Lib.hid (HF0.out.no (r := gl) (Or.inr (Nat.le_of_eq Hgl.out)))
  go_wp2_with fail
  go_loopw [14] (fun i wr => ∃ (t : Nat) (S : Nat ⊕ Int → Value) (X : Nat ⊕ Int → List Int), t ≤ P.length ∧ i = .int .i64 t ∧ Fam wr B 3 S X ∧ Blk wr gR 59 (vc n fun k => S (.inl k)) ∧ Blk wr gl 106 (zc 256 fun q => ((lastP l (P.take t) q : Nat) : Int)) ∧ (∀ b, S (.inr b) = S0 (.inr b)) ∧ Met l P t X0 X ∧ Turns (fun r => r = gR ∨ gl ≤ r) w wr S0 S ∧ NoB S gl) (fun i _ => P.length - (intOf i).toNat)
  case atStart => exact ⟨0, S0, X0, Nat.zero_le _, rfl, HF1.out, HR1.out, Hb1.out, fun _ => rfl, Met.start l P X0, HT1.out, HN1.out⟩
  case round =>
    obtain ⟨t, S, X, ht, rfl, hF, hR, hL, hS, hM, hT, hN⟩ := hrel
    have HF := Lib.hid hF
    have HR := Lib.hid hR
    have HL := Lib.hid hL
    have HS := Lib.hid hS
    have HM := Lib.hid hM
    have HT := Lib.hid hT
    have HN0 := Lib.hid hN
    have HBw := Lib.hid (H0.out.trans (hT.below HG.out HSB.out H0.out.size))
    clear hF hR hL hS hM hT hN
    by_cases hlt : t < P.length
    · have d0 : decide ((t : Int) < P.length) = true := by simpa using hlt
      have hF1 := HF.out.own (.inr b)
      rw [HS.out b, HV.out, HM.out.other b, HX.out] at hF1
      obtain ⟨Ap', cp', hv', _, _, hpr⟩ := hF1.ints
      rw [hns] at hv'
      injection hv' with e1 _ e2
      subst e1
      obtain ⟨ap, rfl, c0⟩ := hpr.int t (by rw [hns]; exact hlt)
      rw [ns_get hlt] at c0
      have han := HP.out _ (List.getElem_mem hlt)
      obtain ⟨a, hPa⟩ : ∃ a, P[t] = a := ⟨_, rfl⟩
      rw [hPa] at c0 han
      have hal : a < l.length := by have := Hl.out; omega
      have z1 : (a : Int) < n := by omega
      obtain ⟨ad, Ad, nd, cd, An, nn, cn, rfl, hcv, h0, h1, h2, h3, h4⟩ := (Hr.out.below HBw.out).cgk hal
      have hright := cg_right HMay.out hal
      have C2 := Lib.hid (cell_off h0 h2)
      have C3 := Lib.hid (cell_off1 h0 h3)
      have HN := Lib.hid (fun X' => Met.next (l := l) (X0 := X0) (X1 := X) (X := X') Hp.out hlt (by rw [hPa]; exact hright) HM.out)
      have HA := Lib.hid (arrL_all (l := l) (P := P) hlt (by rw [hPa]; exact hright))
      have HZ := Lib.hid (arrL_zero l P t a)
      have HS1 := Lib.hid (fun i => arrL_succ l P t a i)
      rw [hPa] at HN HA
      have hRt := Pt.right_iff.1 hright
      have hlen0 := HM.out.len a
      have hlen1 := HLen.out a
      have HLa : Hid ((X (.inl a)).length ≤ 65536 + 256) := Lib.hid (by omega)
      rw [hcv.p.len] at hRt HN HA
      have HLo : Hid ((cgA l a).p.at_ = ((cgA l a).p.lo : Int)) := Lib.hid (by unfold Pt.lo; omega)
      have HFit : Hid ((cgA l a).p.lo + nd ≤ 256) := Lib.hid (by have := HLo.out; omega)
      clear h0 h1 h2 h3 h4 hcv hF1 hright e2 hpr hRt hlen0 hlen1
      go_wp2_with (first | refine wpList_load_pair rfl _ _ rfl ⟨(ad.add (a * 5)).block, (ad.add (a * 5)).off + 2, none⟩ rfl _ _ C2.out C3.out _ Tryz.underlying64 Tryz.patchSize ?_ | refine wpList_alloc_row rfl _ rfl _ Tryz.patchZero ?_)
      apply Stop.go; intro w2 Hg2 Hb2
      go_wp2_with (refine wpList_store_arr rfl _ _ _ rfl _ #[.int .i64 (cgA l a).p.at_, .slice Ad nd cd] rfl rfl _ _ Hb2.out Tryz.patchSize rfl (by simp [Value.oneCell']) ?_)
      apply Stop.go; intro w3 Ho3 Hb3
      have D3 := Lib.hid (bonly Hg2.out.1 Ho3.out (Nat.le_refl _))
      have HNp := Lib.hid (HF.out.no (r := wr.heap.size) (Or.inr (Nat.le_refl _)))
      have HF3 := Lib.hid (HF.out.ext D3.out)
      have HR3 := Lib.hid (HR.out.ext D3.out)
      have HL3 := Lib.hid (HL.out.ext D3.out)
      have HT3 := Lib.hid (HT.out.trans (Turns.of_below (fun r => r = gR ∨ gl ≤ r) S D3.out))
      rw [← HZ.out] at HL3
      have HgRl : Hid (gR < gl) := Lib.hid (by have := Hgl.out; omega)
      have Hglp : Hid (gl < wr.heap.size) := Lib.hid HL.out.lt
      clear HF HR HL HT D3 Hg2 Hb2 Ho3 HBw HM HZ C2 C3
      generalize wr.heap.size = gp at *
      have c1 : w3.cell? ⟨gp, 1, none⟩ = some (.slice Ad nd cd) := Hb3.out.cell 1
      go_wp2_with fail
      clear c1
      go_loopw [26] (fun i wr => ∃ (j : Nat) (S2 : Nat ⊕ Int → Value) (X2 : Nat ⊕ Int → List Int), j ≤ nd ∧ i = .int .i64 j ∧ Fam wr B 3 S2 X2 ∧ Blk wr gR 59 (vc n fun k => S2 (.inl k)) ∧ Blk wr gl 106 (zc 256 (arrL l P t a j)) ∧ Blk wr gp 64 #[.int .i64 (cgA l a).p.at_, .slice Ad nd cd] ∧ (∀ b, S2 (.inr b) = S0 (.inr b)) ∧ MetI l P t a j X X2 ∧ Turns (fun r => r = gR ∨ gl ≤ r) w wr S0 S2 ∧ NoB S2 gl ∧ NoB S2 gp) (fun i _ => nd - (intOf i).toNat)
      case atStart => exact ⟨0, S, X, Nat.zero_le _, rfl, HF3.out, HR3.out, HL3.out, Hb3.out, HS.out, MetI.start l P t a X, HT3.out, HN0.out, HNp.out⟩
      case round =>
        obtain ⟨j, S2, X2, hj, rfl, hF, hR, hL, hQ, hS, hM, hT, hN, hN2⟩ := hrel
        have HF := Lib.hid hF
        have HR := Lib.hid hR
        have HL := Lib.hid hL
        have HQ := Lib.hid hQ
        have HS2 := Lib.hid hS
        have HM := Lib.hid hM
        have HT := Lib.hid hT
        have HNg := Lib.hid hN
        have HNq := Lib.hid hN2
        clear hF hR hL hQ hS hM hT hN hN2
        by_cases hjl : j < nd
        · have d1 : decide ((j : Int) < nd) = true := by simpa using hjl
          have hnd : nd ≤ 256 := by have := HFit.out; omega
          obtain ⟨T, hTT⟩ : ∃ T, T = (cgA l a).p.lo + j := ⟨_, rfl⟩
          have hT256 : T < 256 := by have := HFit.out; omega
          have q1 : IntKind.i64.wrap ((cgA l a).p.at_ + (j : Int)) = (T : Int) := by rw [HLo.out, IntKind.wrap_i64]; omega
          have q2 : (T : Int) < 256 := by omega
          obtain ⟨v, hv⟩ : ∃ v, lastP l (P.take t) T = v := ⟨_, rfl⟩
          have e1 : arrL l P t a j T = (v : Int) := by unfold arrL; rw [if_neg (by omega), hv]
          have k1 : wr.cell? ⟨gl, T, none⟩ = some (.int .i64 (v : Int)) := by rw [HL.out.cell, zc_get _ hT256, e1]
          have k0 : wr.cell? ⟨gp, 0, none⟩ = some (.int .i64 (cgA l a).p.at_) := HQ.out.cell 0
          obtain ⟨a1, ha1⟩ : ∃ a1, a1 = a + 1 := ⟨_, rfl⟩
          have q4 : IntKind.i64.wrap ((a : Int) + 1) = (a1 : Int) := by rw [IntKind.wrap_i64]; omega
          have HT' := Lib.hid hTT
          have Ha1 := Lib.hid ha1
          have Hv := Lib.hid hv
          have Hvn : Hid (v ≤ 4096) := Lib.hid (by
            have := lastP_le l (P.take t) T n (fun x hx => HP.out x (List.mem_of_mem_take hx))
            omega)
          have Hs := Lib.hid (HS1.out j)
          rw [← hTT, ← ha1] at Hs
          clear e1 hTT ha1 hv
          rcases Nat.eq_zero_or_pos v with hv0 | hv0
          · have d2 : decide ((0 : Int) < (v : Int)) = false := by subst hv0; decide
            have d3 : decide (0 < v) = false := by subst hv0; decide
            have Hv0 := Lib.hid hv0
            clear hv0
            go_wp2_with (refine wpList_store_cell rfl _ _ _ rfl Tryz.intSzG gl T rfl (.int .i64 a1) rfl rfl rfl _ _ HL.out (by rw [zc_size]; exact hT256) ?_)
            apply Stop.go; intro w4 Ho4 Hb4
            rw [zc_set, Hs.out] at Hb4
            have HT4 := Lib.hid (HT.out.trans (Turns.of_only S2 Ho4.out (show (fun r => r = gR ∨ gl ≤ r) gl from Or.inr (Nat.le_refl _))))
            have HF4 := Lib.hid (HF.out.onlyNo HNg.out Ho4.out)
            have HR4 := Lib.hid (HR.out.only Ho4.out (Nat.ne_of_lt HgRl.out))
            have HQ4 := Lib.hid (HQ.out.only Ho4.out (Nat.ne_of_gt Hglp.out))
            have HM4 := Lib.hid (HM.out.skip (by rw [← HT'.out, Hv.out, Hv0.out]))
            go_wp2_with fail
            go_roundw
            case rel => exact ⟨j + 1, S2, X2, by omega, by go_num, HF4.out, HR4.out, Hb4.out, HQ4.out, HS2.out, HM4.out, HT4.out, HNg.out, HNq.out⟩
            case measure => simp [intOf]; omega
          · obtain ⟨z, hz⟩ : ∃ z, v = z + 1 := ⟨v - 1, by omega⟩
            have d2 : decide ((0 : Int) < (v : Int)) = true := by simpa using hv0
            have d3 : decide (0 < v) = true := by simpa using hv0
            have q3 : IntKind.i64.wrap ((v : Int) - 1) = (z : Int) := by have := Hvn.out; clear q1 q4; rw [IntKind.wrap_i64]; omega
            have Hz := Lib.hid hz
            clear hz hv0
            have k2 : wr.cell? ⟨gR, a, none⟩ = some (S2 (.inl a)) := by rw [HR.out.cell, vc_get _ han]
            have Ho2 := Lib.hid (HF.out.own (.inl a))
            have hl1 : (X2 (.inl a)).length + 1 ≤ maxLen := by have := HM.out.len; have := HLa.out; have := HFit.out; clear q1 q3 q4; unfold maxLen; omega
            have hl2 : ((X2 (.inl a)).length + 1) * 8 ≤ 140737488355328 := by have := HM.out.len; have := HLa.out; have := HFit.out; clear q1 q3 q4; omega
            have Hal := Lib.hid (Grew.alloc wr (.cells #[.int .i64 (z : Int)] 3)).1
            have Hbz := Lib.hid (show B ≤ wr.heap.size from Nat.le_trans hB HT.out.size)
            have HMA := Lib.hid (HM.out.add (z := z) (by rw [← HT'.out, Hv.out, Hz.out]))
            have HFa := Lib.hid (HF.out.ext Hal.out)
            go_wp2_with (at_builtin; refine wpList_append_int rfl _ _ _ _ rfl Tryz.underlying59 (.int .i64 0) 8 Tryz.infoInt rfl B (S2 (.inl a)) (X2 (.inl a)) rfl (Ho2.out.ext Hal.out) (z : Int) _ rfl _ (Blk.new _ _ _) (Nat.le_trans Hbz.out Hal.out.size) hl1 hl2 ?_)
            apply Stop.go
            intro v' w5 Hv' Ha' Hl'
            have HR5 := Lib.hid (Hl'.out.blk (HR.out.ext Hal.out) (HF.out.no (Or.inl hgR) _))
            have HL5 := Lib.hid (Hl'.out.blk (HL.out.ext Hal.out) (HNg.out _))
            have HQ5 := Lib.hid (Hl'.out.blk (HQ.out.ext Hal.out) (HNq.out _))
            have HF5 := Lib.hid (HFa.out.add Ha'.out Hv'.out)
            have HT5 := Lib.hid ((HT.out.trans (Turns.of_below (fun r => r = gR ∨ gl ≤ r) S2 Hal.out)).trans (Turns.of_lies _ Hl'.out))
            have HN5 := Lib.hid (HNg.out.upd Hl'.out (Nat.lt_of_lt_of_le HL.out.lt Hal.out.size))
            have HM5 := Lib.hid (HNq.out.upd Hl'.out (Nat.lt_of_lt_of_le HQ.out.lt Hal.out.size))
            obtain ⟨Av, nv, cv, hve⟩ : ∃ A n c, v' = Value.slice A n c := by
              obtain ⟨A, c, e, _⟩ := Hv'.out.ints
              exact ⟨_, _, _, e⟩
            clear Hv' Ha' Hl' Hal HFa k1 k2 HF HR HL HQ HT HNg HNq HM Ho2
            subst hve
            go_wp2_with (refine wpList_store_cell rfl _ _ _ rfl Tryz.intsSzG gR a rfl _ rfl rfl rfl _ _ HR5.out (by rw [vc_size]; exact han) ?_)
            apply Stop.go; intro w6 Ho6 Hb6
            rw [vc_set, vc_congr (fun k _ => updF_inl S2 a _ k)] at Hb6
            have HF6 := Lib.hid (HF5.out.hi (HiS.of_only Ho6.out hgR))
            have HL6 := Lib.hid (HL5.out.only Ho6.out (Nat.ne_of_gt HgRl.out))
            have HQ6 := Lib.hid (HQ5.out.only Ho6.out (by have := HgRl.out; have := Hglp.out; omega))
            have HT6 := Lib.hid (HT5.out.trans (Turns.of_only _ Ho6.out (show (fun r => r = gR ∨ gl ≤ r) gR from Or.inl rfl)))
            have HSi := Lib.hid (fun b' => (updF_other S2 (Value.slice Av nv cv) (show (Sum.inr b' : Nat ⊕ Int) ≠ Sum.inl a by simp)).trans (HS2.out b'))
            generalize updF S2 (Sum.inl a) (Value.slice Av nv cv) = S3 at *
            generalize updF X2 (Sum.inl a) (X2 (Sum.inl a) ++ [(z : Int)]) = X3 at *
            have k0 : w6.cell? ⟨gp, 0, none⟩ = some (.int .i64 (cgA l a).p.at_) := HQ6.out.cell 0
            clear HF5 HL5 HQ5 HT5 HR5 Ho6
            go_wp2_with (refine wpList_store_cell rfl _ _ _ rfl Tryz.intSzG gl T rfl (.int .i64 a1) rfl rfl rfl _ _ HL6.out (by rw [zc_size]; exact hT256) ?_)
            apply Stop.go; intro w7 Ho7 Hb7
            rw [zc_set, Hs.out] at Hb7
            have HT7 := Lib.hid (HT6.out.trans (Turns.of_only S3 Ho7.out (show (fun r => r = gR ∨ gl ≤ r) gl from Or.inr (Nat.le_refl _))))
            have HF7 := Lib.hid (HF6.out.onlyNo HN5.out Ho7.out)
            have HR7 := Lib.hid (Hb6.out.only Ho7.out (Nat.ne_of_lt HgRl.out))
            have HQ7 := Lib.hid (HQ6.out.only Ho7.out (Nat.ne_of_gt Hglp.out))
            go_wp2_with fail
            go_roundw
            case rel => exact ⟨j + 1, S3, X3, by omega, by go_num, HF7.out, HR7.out, Hb7.out, HQ7.out, HSi.out, HMA.out, HT7.out, HN5.out, HM5.out⟩
            case measure => simp [intOf]; omega
        · have d1 : decide ((j : Int) < nd) = false := by simpa using hjl
          have hjn : j = nd := by omega
          subst hjn
          rw [HA.out] at HL
          go_wp2_with fail
          go_roundw
          case rel => exact ⟨t + 1, S2, X2, by omega, by go_num, HF.out, HR.out, HL.out, HS2.out, HN.out _ HM.out, HT.out, HNg.out⟩
          case measure => simp [intOf]; omega
    · have d0 : decide ((t : Int) < P.length) = false := by simpa using hlt
      have htn : t = P.length := by omega
      subst htn
      go_wp2_with fail
      go_end0
      exact ⟨rfl, S, X, HF.out, HR.out, HS.out, HM.out, HT.out.mono (fun r _ h => h.imp id (fun h => by rw [Hgl.out]; exact h))⟩

end Go.Proofs.YtpmbpklbiocclaaGreat
