/-
  Texts of this claim joined: TreC, TreD.
-/
import Derived.Test.YtkakihbfhmiabaaGreatTreB

/-
  Layer 25: what holds of a device's tree (25.4). Plain; no program is named here.
-/
namespace Go.Proofs.YtkakihbfhmiabaaGreat
open Go.RowKit

theorem wf_small {z : Int} (h1 : 1 ≤ z) (h2 : z ≤ 128) : (Lit.int .i64 z).wf = true := WalkArith.wf_i64 ⟨by omega, by omega⟩
section
variable {l : Lay14} {T : Int → List UInt8}
theorem lisD_none {X : List Int} (h : fld X 0 ≠ 2) : lisD l T X = [] := by
  have h1 : isF l T X = false := by
    cases hi : isF l T X with
    | false => rfl
    | true => exact absurd (isF_is hi).1 h
  have h2 : entA l T X = [] := by
    unfold entA bukF
    rw [h1]
    rfl
  unfold lisD
  rw [h2]
  rfl
theorem namP_none {X : List Int} (h : fld X 0 ≠ 2) : namP l T X = [] := by
  have h1 : srtE (lisD l T X) = [] := by
    have := srtE_len (lisD_apart (l := l) (T := T) (X := X))
    rw [lisD_none h] at this ⊢
    exact List.eq_nil_of_length_eq_zero (Nat.le_zero.1 this)
  unfold namP
  rw [h1]
  rfl
theorem namP_len (X : List Int) : (namP l T X).length ≤ 224 := by
  have h1 : (namP l T X).length ≤ (srtE (lisD l T X)).length := List.length_filter_le _ _
  have h2 := srtE_len (lisD_apart (l := l) (T := T) (X := X))
  have h3 := lisD_len (l := l) (T := T) (X := X)
  omega
theorem namP_may {X : List Int} {e : En} (h : e ∈ namP l T X) : mayE e = true := lisD_may (namP_in h).1
theorem namP_apart (X : List Int) : (namP l T X).Pairwise fun a b => a.name ≠ b.name := by
  have h := srtE_rise (lisD_apart (l := l) (T := T) (X := X))
  unfold namP
  exact (h.imp fun {a b} hab => ltS_ne hab).filter _
theorem treeP_mem {n : Nd} (h : n ∈ treeP l T) : n ∈ treeW (nodP l T) 128 ∧ fld (vIno l T 1) 0 = 2 := by
  unfold treeP at h
  split at h
  · next hk => exact ⟨(srtN_perm _).mem_iff.1 h, hk⟩
  · simp at h
theorem mem_treeP {n : Nd} (h : n ∈ treeW (nodP l T) 128) (hk : fld (vIno l T 1) 0 = 2) : n ∈ treeP l T := by
  unfold treeP
  rw [if_pos hk]
  exact (srtN_perm _).mem_iff.2 h
theorem treeP_WI : WI (nodP l T) (treeW (nodP l T) 128) := WI.tree nodP_ino nodP_low 128
theorem treeP_is {n : Nd} (h : n ∈ treeP l T) : n = nodP l T n.ino := treeP_WI.is_ n (treeP_mem h).1
theorem treeP_low {n : Nd} (h : n ∈ treeP l T) : 1 ≤ n.ino ∧ n.ino ≤ 128 := treeP_WI.low n (treeP_mem h).1
theorem treeP_len : (treeP l T).length ≤ 128 := by
  unfold treeP
  split
  · rw [(srtN_perm _).length_eq]
    exact treeP_WI.len
  · simp
theorem treeP_rise : (treeP l T).Pairwise fun a b => a.ino < b.ino := by
  unfold treeP
  split
  · exact srtN_rise treeP_WI.once
  · exact List.Pairwise.nil
theorem treeP_names {n : Nd} (h : n ∈ treeP l T) {e : En} (he : e ∈ n.names) : mayE e = true ∧ isKd (fld (vIno l T e.ino) 0) = true := by
  rw [treeP_is h] at he
  exact ⟨namP_may he, (namP_in he).2⟩
theorem treeP_few {n : Nd} (h : n ∈ treeP l T) : n.names.length ≤ 224 := by
  rw [treeP_is h]
  exact namP_len _
theorem treeP_kind {n : Nd} (h : n ∈ treeP l T) : n.kind = 1 ∨ n.kind = 2 := by
  have hk : isKd n.kind = true := by
    rw [treeP_is h]
    show isKd (fld (vIno l T n.ino) 0) = true
    rcases treeP_WI.told n (treeP_mem h).1 with h1 | ⟨m, hm, e, he, h1⟩
    · rw [h1, (treeP_mem h).2]; rfl
    · rw [← h1]
      rw [treeP_WI.is_ m hm] at he
      exact (namP_in he).2
  unfold isKd at hk
  simpa using hk
theorem treeP_dir {n : Nd} (h : n ∈ treeP l T) {e : En} (he : e ∈ n.names) : n.kind = 2 := by
  by_cases hk : n.kind = 2
  · exact hk
  · rw [treeP_is h] at he hk
    have : (nodP l T n.ino).names = [] := namP_none hk
    rw [this] at he
    simp at he
/-- Each name tells a node. -/
theorem treeP_told {n : Nd} (h : n ∈ treeP l T) {e : En} (he : e ∈ n.names) : ∃ m ∈ treeP l T, m.ino = e.ino := by
  obtain ⟨h1, hk⟩ := treeP_mem h
  obtain ⟨j, hj, rfl⟩ := List.getElem_of_mem h1
  obtain ⟨m, hm, hi⟩ := Closed.tree (N := nodP l T) nodP_ino 128 j _ (by have := (treeP_WI (l := l) (T := T)).len; omega) (List.getElem?_eq_getElem hj) e he
  exact ⟨m, mem_treeP hm hk, hi⟩
/-- Each node but the root is told by a name of one. -/
theorem treeP_count {n : Nd} (h : n ∈ treeP l T) (hn : n.ino ≠ 1) : 1 ≤ cntT (treeP l T) n.ino := by
  obtain ⟨h1, hk⟩ := treeP_mem h
  rcases treeP_WI.told n h1 with h2 | ⟨m, hm, e, he, h2⟩
  · exact absurd h2 hn
  · exact cntT_pos (mem_treeP hm hk) he h2
theorem treeP_any : 0 < (treeP l T).length ↔ fld (vIno l T 1) 0 = 2 := by
  unfold treeP
  split
  · next hk =>
    rw [(srtN_perm _).length_eq]
    exact ⟨fun _ => hk, fun _ => treeW_pos 128⟩
  · next hk => exact ⟨fun h => by simp at h, fun h => absurd h hk⟩
theorem treeP_good : TG (treeP l T) := by
  refine ⟨fun n hn => ?_, fun n hn e he => ?_⟩
  · rw [treeP_is hn]
    exact namP_apart _
  · have hm := mayE_iff.1 (treeP_names hn he).1
    exact ⟨hm.1, by omega, treeP_told hn he⟩
theorem allN_le {t : List Nd} {q : Nat} (h : ∀ n ∈ t, n.names.length ≤ q) : allN t ≤ t.length * q := by
  unfold allN
  induction t with
  | nil => simp
  | cons n t ih =>
    rw [List.map_cons, List.sum_cons, List.length_cons, Nat.add_mul]
    have := ih fun m hm => h m (by simp [hm])
    have := h n (by simp)
    omega
theorem treeP_all : allN (treeP l T) ≤ 100000 := by
  have h1 := allN_le (t := treeP l T) (q := 224) fun n hn => treeP_few hn
  have h2 := treeP_len (l := l) (T := T)
  have : (treeP l T).length * 224 ≤ 128 * 224 := Nat.mul_le_mul_right _ h2
  omega
theorem treeP_wf : ∀ x ∈ treeP l T, (Lit.int .i64 x.ino).wf = true ∧ ∀ e ∈ x.names, (Lit.int .i64 e.ino).wf = true := fun x hx => by
  have h1 := treeP_low hx
  refine ⟨wf_small h1.1 (by omega), fun e he => ?_⟩
  have h2 := mayE_iff.1 (treeP_names hx he).1
  exact wf_small h2.2.1 (by omega)
theorem treeP_size : ∀ x ∈ treeP l T, ∀ e ∈ x.names, e.name.size ≤ 24 := fun _ hx _ he => (rightN_size (mayE_iff.1 (treeP_names hx he).1).1).2
end

end Go.Proofs.YtkakihbfhmiabaaGreat

/-
  Layer 25: a path parted at its strokes again. Plain; no program is named here.
-/
namespace Go.Proofs.YtkakihbfhmiabaaGreat
open Go.RowKit

/-- The bytes of a path. -/
def bytesJ (l : List ByteArray) : List UInt8 := l.flatMap fun s => 47 :: s.data.toList
theorem foldl_joinP : ∀ (l : List ByteArray) (p : ByteArray), (l.foldl joinP p).data.toList = p.data.toList ++ bytesJ l
  | [], p => by simp [bytesJ]
  | s :: l, p => by
    rw [List.foldl_cons, foldl_joinP l, joinP_list]
    simp [bytesJ]
theorem joinA_list (l : List ByteArray) : (joinA l).data.toList = bytesJ l := by
  unfold joinA
  rw [foldl_joinP]
  rfl
theorem joinA_size (l : List ByteArray) : (joinA l).size = (bytesJ l).length := by
  rw [← joinA_list]
  simp
theorem bytesJ_split {l : List ByteArray} {j : Nat} (hj : j < l.length) : bytesJ l = bytesJ (l.take j) ++ (47 :: (l[j].data.toList ++ bytesJ (l.drop (j + 1)))) := by
  conv => lhs; rw [← List.take_append_drop j l, List.drop_eq_getElem_cons hj]
  unfold bytesJ
  rw [List.flatMap_append, List.flatMap_cons]
  simp
theorem bytesJ_snoc {l : List ByteArray} {j : Nat} (hj : j < l.length) : (bytesJ (l.take (j + 1))).length = (bytesJ (l.take j)).length + 1 + l[j].size := by
  rw [List.take_succ_eq_append_getElem hj]
  unfold bytesJ
  rw [List.flatMap_append, List.length_append]
  simp
  omega
theorem bytesJ_len : ∀ l : List ByteArray, l.length ≤ (bytesJ l).length
  | [] => Nat.zero_le _
  | s :: l => by
    have := bytesJ_len l
    unfold bytesJ at this ⊢
    rw [List.flatMap_cons, List.length_append, List.length_cons, List.length_cons]
    omega
theorem bytesJ_nil {l : List ByteArray} (h : bytesJ l = []) : l = [] := by
  cases l with
  | nil => rfl
  | cons s l => simp [bytesJ] at h
/-- Under way: j names are parted, the next one begins at bg, place k is looked at. -/
structure SP (l : List ByteArray) (j bg k : Nat) : Prop where
  jl : j ≤ l.length
  bgd : bg = (bytesJ (l.take j)).length + 1
  lo : bg ≤ k
  up : j < l.length → k ≤ (bytesJ (l.take (j + 1))).length
  dn : j = l.length → k = (bytesJ l).length + 1
theorem SP.start {l : List ByteArray} (h : l ≠ []) : SP l 0 1 1 := by
  have hl : 0 < l.length := List.length_pos_iff.2 h
  refine ⟨Nat.zero_le _, rfl, Nat.le_refl _, fun _ => ?_, fun e => by omega⟩
  have := bytesJ_snoc hl
  rw [this]
  omega
theorem SP.len {l : List ByteArray} {j bg k : Nat} (h : SP l j bg k) (hk : (bytesJ l).length < k) : j = l.length ∧ k = (bytesJ l).length + 1 := by
  rcases Nat.lt_or_ge j l.length with hj | hj
  · have h1 := h.up hj
    have h2 := congrArg List.length (bytesJ_split hj)
    have h3 := bytesJ_snoc hj
    simp only [List.length_append, List.length_cons, Array.length_toList] at h2
    have h4 : l[j].data.size = l[j].size := rfl
    omega
  · have e : j = l.length := Nat.le_antisymm h.jl hj
    exact ⟨e, h.dn e⟩
theorem SP.step {l : List ByteArray} {j bg k : Nat} (h : SP l j bg k) (hr : ∀ s ∈ l, rightN s = true) {s : ByteArray} (hs : s = joinA l) (hk : k ≤ s.size) :
    (∃ nm, l[j]? = some nm ∧ s.extract bg k = nm ∧ SP l (j + 1) (k + 1) (k + 1) ∧ (k = s.size ∨ k < s.size ∧ s.data.toList[k]? = some 47)) ∨ (∃ b, k < s.size ∧ s.data.toList[k]? = some b ∧ b ≠ 47 ∧ SP l j bg (k + 1)) := by
  have hsz : s.size = (bytesJ l).length := by rw [hs, joinA_size]
  have hbs : s.data.toList = bytesJ l := by rw [hs, joinA_list]
  have hj : j < l.length := by
    rcases Nat.lt_or_ge j l.length with hj | hj
    · exact hj
    · have := h.dn (Nat.le_antisymm h.jl hj)
      omega
  have hup := h.up hj
  have hsp := bytesJ_split hj
  have hsn := bytesJ_snoc hj
  have hln := congrArg List.length hsp
  have hb := h.bgd
  have hlo := h.lo
  simp only [List.length_append, List.length_cons, Array.length_toList] at hln
  have hds : l[j].data.size = l[j].size := rfl
  generalize hJ : bytesJ (l.take j) = J at *
  generalize hR : bytesJ (l.drop (j + 1)) = R at *
  have hget : ∀ i, bg ≤ i → (bytesJ l)[i]? = (l[j].data.toList ++ R)[i - bg]? := fun i hi => by
    rw [hsp, List.getElem?_append_right (by omega)]
    have e : i - J.length = (i - bg) + 1 := by omega
    rw [e, List.getElem?_cons_succ]
  rcases Nat.lt_or_ge k (bytesJ (l.take (j + 1))).length with hlt | hge
  · right
    have hkl : k - bg < l[j].data.toList.length := by rw [Array.length_toList]; omega
    refine ⟨(l[j].data.toList)[k - bg], by omega, ?_, ?_, ⟨h.jl, by rw [hJ]; exact hb, by omega, fun _ => hlt, fun e => by omega⟩⟩
    · rw [hbs, hget k hlo, List.getElem?_append_left hkl, List.getElem?_eq_getElem hkl]
    · intro e
      have h1 := hr _ (List.getElem_mem hj)
      have h2 : (l[j].data.toList).any badB = true := List.any_eq_true.2 ⟨_, List.getElem_mem hkl, by rw [e]; rfl⟩
      rw [rightN_bad h2] at h1
      cases h1
  · left
    have hke : k = (bytesJ (l.take (j + 1))).length := by omega
    refine ⟨l[j], List.getElem?_eq_getElem hj, ?_, ⟨hj, by rw [hke], Nat.le_refl _, fun hj2 => ?_, fun e => ?_⟩, ?_⟩
    · have e1 : s = ⟨(bytesJ l).toArray⟩ := by rw [← hbs]
      rw [e1, ByteArray.extract_mk, hsp]
      have e2 : (J ++ 47 :: (l[j].data.toList ++ R)).drop bg = l[j].data.toList ++ R := by
        rw [show J ++ 47 :: (l[j].data.toList ++ R) = (J ++ [47]) ++ (l[j].data.toList ++ R) by simp, List.drop_append_of_le_length (by simp; omega), List.drop_of_length_le (by simp; omega), List.nil_append]
      rw [e2, List.take_append_of_le_length (by rw [Array.length_toList]; omega), List.take_of_length_le (by rw [Array.length_toList]; omega)]
    · have := bytesJ_snoc hj2
      rw [this]
      omega
    · have h0 : l.drop (j + 1) = [] := List.drop_of_length_le (by omega)
      rw [h0] at hR
      have : R = [] := hR.symm
      rw [this] at hln
      simp at hln
      omega
    · by_cases hl : j + 1 < l.length
      · right
        have hR2 : R = 47 :: (l[j + 1].data.toList ++ bytesJ (l.drop (j + 1 + 1))) := by
          rw [← hR, List.drop_eq_getElem_cons hl]
          unfold bytesJ
          rw [List.flatMap_cons]
          rfl
        have hRl : 0 < R.length := by rw [hR2]; simp
        refine ⟨by omega, ?_⟩
        rw [hbs, hget k hlo, List.getElem?_append_right (by rw [Array.length_toList]; omega)]
        have e : k - bg - l[j].data.toList.length = 0 := by rw [Array.length_toList]; omega
        rw [e, hR2]
        rfl
      · left
        have h0 : l.drop (j + 1) = [] := List.drop_of_length_le (by omega)
        rw [h0] at hR
        have : R = [] := hR.symm
        rw [this] at hln
        simp at hln
        omega
theorem idx_text {P : Program} {t : TypeId} (ht : P.underlying t = some .string) {s : ByteArray} {k : Nat} {b : UInt8} (h : s.data.toList[k]? = some b) (w : World) : (Instr.index t (.string s) (.int .i64 (k : Int))).run P w = .ok (.int .u8 (b.toNat : Int)) w := by
  obtain ⟨hk, e⟩ := List.getElem?_eq_some_iff.1 h
  have hk' : k < s.size := by simpa using hk
  rw [run_index_string w t s .i64 _ ht, dif_pos ⟨by omega, by omega⟩]
  have e2 : s[((k : Nat) : Int).toNat]'(by omega) = b := by
    rw [← e]
    rfl
  rw [e2]
/-- How long the paths are. -/
theorem out_size {t : List Nd} {S : Nat} (hS : ∀ x ∈ t, ∀ e ∈ x.names, e.name.size ≤ S) (hw : ∀ r k i w, (wayW t r k).ways[i]? = some w → w.2.size ≤ i * (S + 1)) (r : Nat) : ∀ k, ∀ x ∈ (wayW t r k).out, x.size ≤ k * (S + 1)
  | 0 => fun x hx => by simp [wayW] at hx
  | k + 1 => fun x hx => by
    have ih := out_size hS hw r k
    have hmul : k * (S + 1) ≤ (k + 1) * (S + 1) := Nat.mul_le_mul_right _ (Nat.le_succ k)
    have hx : x ∈ (stepY t (wayW t r k) k).out := hx
    cases hk : (wayW t r k).ways[k]? with
    | none =>
      rw [stepY_none (List.getElem?_eq_none_iff.1 hk)] at hx
      exact Nat.le_trans (ih x hx) hmul
    | some q =>
      obtain ⟨n, p⟩ := q
      rw [stepY_some hk, rowE_out] at hx
      rcases List.mem_append.1 hx with hx | hx
      · exact Nat.le_trans (ih x hx) hmul
      · obtain ⟨e, he, rfl⟩ := List.mem_map.1 hx
        have h1 := hw r k k _ hk
        have h2 : e.name.size ≤ S := by
          unfold namesAt at he
          cases hn : t[n]? with
          | none => rw [hn] at he; simp at he
          | some m => rw [hn] at he; exact hS m (List.mem_of_getElem? hn) e he
        have h3 : (joinP p e.name).size = p.size + 1 + e.name.size := by
          unfold joinP
          rw [ByteArray.size_append, ByteArray.size_append]
          rfl
        have h4 : p.size ≤ k * (S + 1) := h1
        rw [h3, Nat.add_mul]
        omega
theorem allN_next {t : List Nd} {k : Nat} {n : Nd} (h : t[k]? = some n) : allN (t.take (k + 1)) = allN (t.take k) + n.names.length := by
  obtain ⟨hk, rfl⟩ := List.getElem?_eq_some_iff.1 h
  unfold allN
  rw [List.take_succ_eq_append_getElem hk, List.map_append, List.sum_append]
  simp
theorem allN_take (t : List Nd) (k : Nat) : allN (t.take k) ≤ allN t := by
  unfold allN
  have e : (t.map fun n => n.names.length).sum = ((t.take k).map fun n => n.names.length).sum + ((t.drop k).map fun n => n.names.length).sum := by
    rw [← List.sum_append, ← List.map_append, List.take_append_drop]
  omega

end Go.Proofs.YtkakihbfhmiabaaGreat
