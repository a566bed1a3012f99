/-
  Texts of this claim joined: SchedA, RealC.
-/
import Derived.Test.YtpmbpklbiocclaaGreatGrAA
import Derived.Test.YtpmbpklbiocclaaGreatGrAX

/-
  Rounds: each makes what is left less deep by one at least. Plain; no program is named here.
-/
namespace Go.Proofs.YtpmbpklbiocclaaGreat

theorem le_maxL {l : List Nat} {x : Nat} (h : x ∈ l) : x ≤ maxL l := by
  induction l with
  | nil => simp at h
  | cons y l ih =>
    show x ≤ max y (maxL l)
    rcases List.mem_cons.1 h with rfl | h
    · omega
    · have := ih h; omega
theorem deepGo_pre : ∀ (l : List Cg) (acc : List (Cg × Nat)), ∃ t, deepGo acc l = acc ++ t ∧ t.map (·.1) = l := by
  intro l
  induction l with
  | nil => intro acc; exact ⟨[], by simp [deepGo], rfl⟩
  | cons c l ih =>
    intro acc
    unfold deepGo
    obtain ⟨t, h1, h2⟩ := ih (acc ++ [(c, maxL ((acc.filter fun d => keepsB d.1 c).map (·.2)) + 1)])
    exact ⟨(c, maxL ((acc.filter fun d => keepsB d.1 c).map (·.2)) + 1) :: t, by rw [h1]; simp, by rw [List.map_cons, h2]⟩
theorem deepGo_val : ∀ (l : List Cg) (acc u v : List (Cg × Nat)) (x : Cg × Nat), deepGo acc l = u ++ x :: v → acc.length ≤ u.length → x.2 = maxL ((u.filter fun d => keepsB d.1 x.1).map (·.2)) + 1 := by
  intro l
  induction l with
  | nil =>
    intro acc u v x h hlen
    have h1 := congrArg List.length h
    simp [deepGo] at h1
    omega
  | cons c l ih =>
    intro acc u v x h hlen
    unfold deepGo at h
    by_cases hl : acc.length = u.length
    · obtain ⟨t, h1, _⟩ := deepGo_pre l (acc ++ [(c, maxL ((acc.filter fun d => keepsB d.1 c).map (·.2)) + 1)])
      rw [h1, List.append_assoc] at h
      obtain ⟨rfl, h2⟩ := List.append_inj h hl
      rw [List.singleton_append] at h2
      injection h2 with h2 _
      rw [← h2]
    · exact ih _ u v x h (by simp; omega)
section
variable {l : List Cg}
theorem depthC_at (hm : mayC l = true) {p q : List Cg} {c : Cg} (hl : l = p ++ c :: q) : ∃ u n v, deepGo [] l = u ++ (c, n) :: v ∧ u.map (·.1) = p ∧ depthC l c.id = n := by
  obtain ⟨t, h1, h2⟩ := deepGo_pre l []
  rw [List.nil_append] at h1
  have h3 : t.map (·.1) = p ++ c :: q := by rw [h2, hl]
  obtain ⟨u, w, h4, h5, h6⟩ := List.map_eq_append_iff.1 h3
  obtain ⟨x, v, h7, h8, _⟩ := List.map_eq_cons_iff.1 h6
  subst h7; subst h8
  obtain ⟨c', n⟩ := x
  refine ⟨u, n, v, by rw [h1, h4], h5, ?_⟩
  unfold depthC
  rw [if_pos hm, h1, h4, List.find?_append]
  have hnone : u.find? (fun x => decide (x.1.id = c'.id)) = none := List.find?_eq_none.2 fun y hy => by
    have hyp : y.1 ∈ p := by rw [← h5]; exact List.mem_map.2 ⟨y, hy, rfl⟩
    have hlt : y.1.id < c'.id := ahead_lt hm hl y.1 hyp
    simp only [decide_eq_true_eq]
    omega
  rw [hnone]
  simp
theorem depthC_eq (hm : mayC l = true) {p q : List Cg} {c : Cg} (hl : l = p ++ c :: q) : depthC l c.id = maxL ((p.filter fun d => keepsB d c).map fun d => depthC l d.id) + 1 := by
  obtain ⟨u, n, v, h1, h2, h3⟩ := depthC_at hm hl
  rw [h3]
  have h4 := deepGo_val l [] u v (c, n) h1 (Nat.zero_le _)
  have h5 : ((u.filter fun d => keepsB d.1 c).map (·.2)) = (p.filter fun d => keepsB d c).map fun d => depthC l d.id := by
    have key : ∀ (s r : List (Cg × Nat)), u = s ++ r → (r.filter fun d => keepsB d.1 c).map (·.2) = ((r.map (·.1)).filter fun d => keepsB d c).map fun d => depthC l d.id := by
      intro s r
      induction r generalizing s with
      | nil => intro _; rfl
      | cons y r ih =>
        intro hu
        have h6 := ih (s ++ [y]) (by rw [hu]; simp)
        have hly : l = s.map (·.1) ++ y.1 :: (r.map (·.1) ++ c :: q) := by rw [hl, ← h2, hu]; simp
        obtain ⟨u', n', v', k1, k2, k3⟩ := depthC_at hm hly
        have k4 : u' ++ (y.1, n') :: v' = s ++ y :: (r ++ (c, n) :: v) := by rw [← k1, h1, hu]; simp
        have k5 : u'.length = s.length := by
          have := congrArg List.length k2
          simpa using this
        obtain ⟨_, k6⟩ := List.append_inj k4 k5
        injection k6 with k6 _
        have hy2 : depthC l y.1.id = y.2 := by rw [k3, ← k6]
        rw [List.map_cons, List.filter_cons, List.filter_cons]
        split
        · rw [List.map_cons, List.map_cons, h6, hy2]
        · exact h6
    have := key [] u rfl
    rw [h2] at this
    exact this
  rw [h5] at h4
  exact h4
theorem depthC_pos (hm : mayC l = true) {c : Cg} (hc : c ∈ l) : 1 ≤ depthC l c.id := by
  obtain ⟨p, q, hl⟩ := mem_split hc
  rw [depthC_eq hm hl]
  omega
end

theorem afterC_may {l : List Cg} : ∀ r : List Int, mayC l = true → mayC (afterC l r) = true := by
  intro r
  induction r generalizing l with
  | nil => intro h; exact h
  | cons b r ih => intro h; exact ih (leftC_may b h)
theorem afterC_mem {l : List Cg} : ∀ (r : List Int) {c : Cg}, c ∈ afterC l r → c ∈ l := by
  intro r
  induction r generalizing l with
  | nil => intro c h; exact h
  | cons b r ih => intro c h; exact (List.mem_filter.1 (ih h)).1
theorem afterC_waits {l : List Cg} : ∀ (r : List Int), mayC l = true → ∀ {c : Cg}, c ∈ afterC l r → ∀ y ∈ waitsC (afterC l r) c.id, y ∈ waitsC l c.id := by
  intro r
  induction r generalizing l with
  | nil => intro _ c _ y hy; exact hy
  | cons b r ih =>
    intro hm c hc y hy
    have h1 := ih (leftC_may b hm) hc y hy
    exact withoutC_waits _ hm (afterC_mem r hc) y h1
theorem free_ready {l : List Cg} {c : Cg} (hm : mayC l = true) (hc : c ∈ l) (hw : waitsC l c.id = []) : c.id ∈ readyC l c.block := by
  obtain ⟨p, q, hl⟩ := mem_split hc
  refine readyC_full hm hl rfl fun d hd hk => ?_
  exfalso
  have : d.id ∈ waitsC l c.id := by
    rw [waitsC_mid hm hl]
    exact List.mem_map.2 ⟨d, List.mem_filter.2 ⟨hd, hk⟩, rfl⟩
  rw [hw] at this
  simp at this
theorem free_done {l : List Cg} {c : Cg} : ∀ r : List Int, mayC l = true → c ∈ l → waitsC l c.id = [] → c.block ∈ r → c ∉ afterC l r := by
  intro r
  induction r generalizing l with
  | nil => intro _ _ _ h; simp at h
  | cons b r ih =>
    intro hm hc hw hb hin
    rw [afterC_cons] at hin
    have hcl := afterC_mem r hin
    have hbc : b ≠ c.block := fun e => by
      subst e
      exact leftC_done (free_ready hm hc hw) ⟨c, hcl, rfl⟩
    refine ih (leftC_may b hm) hcl ?_ ?_ hin
    · refine List.eq_nil_iff_forall_not_mem.2 fun y hy => ?_
      have := withoutC_waits _ hm hcl y hy
      rw [hw] at this
      simp at this
    · rcases List.mem_cons.1 hb with e | e
      · exact absurd e.symm hbc
      · exact e
def roundC (l : List Cg) : List Cg := afterC l (blocksC l)
def deepC (l : List Cg) : Nat := maxL (l.map fun c => depthC l c.id)
theorem round_less {l : List Cg} (hm : mayC l = true) : ∀ c ∈ roundC l, depthC (roundC l) c.id + 1 ≤ depthC l c.id := by
  have hm' : mayC (roundC l) = true := afterC_may _ hm
  have key : ∀ n : Nat, ∀ (p q : List Cg) (c : Cg), p.length ≤ n → roundC l = p ++ c :: q → depthC (roundC l) c.id + 1 ≤ depthC l c.id := by
    intro n
    induction n with
    | zero =>
      intro p q c hp hl
      have hc : c ∈ roundC l := by rw [hl]; simp
      have hp0 : p = [] := List.eq_nil_of_length_eq_zero (by omega)
      subst hp0
      rw [depthC_eq hm' hl]
      obtain ⟨p0, q0, hl0⟩ := mem_split (afterC_mem _ hc)
      rw [depthC_eq hm hl0]
      have hw : waitsC l c.id ≠ [] := fun hw => free_done _ hm (afterC_mem _ hc) hw ((blocksC_mem l _).2 ⟨c, afterC_mem _ hc, rfl⟩) hc
      rw [waitsC_mid hm hl0] at hw
      cases hf : p0.filter fun d => keepsB d c with
      | nil => rw [hf] at hw; exact absurd rfl hw
      | cons d t =>
        have hd : d ∈ p0.filter fun d => keepsB d c := by rw [hf]; simp
        have hdl : d ∈ l := by rw [hl0]; exact List.mem_append.2 (Or.inl (List.mem_filter.1 hd).1)
        have h1 := depthC_pos hm hdl
        have h2 : depthC l d.id ≤ maxL ((d :: t).map fun d => depthC l d.id) := le_maxL (List.mem_map.2 ⟨d, by simp, rfl⟩)
        show maxL [] + 1 + 1 ≤ _
        unfold maxL at *
        omega
    | succ n ih =>
      intro p q c hp hl
      have hc : c ∈ roundC l := by rw [hl]; simp
      rw [depthC_eq hm' hl]
      obtain ⟨p0, q0, hl0⟩ := mem_split (afterC_mem _ hc)
      have hw : waitsC l c.id ≠ [] := fun hw => free_done _ hm (afterC_mem _ hc) hw ((blocksC_mem l _).2 ⟨c, afterC_mem _ hc, rfl⟩) hc
      have hge : 2 ≤ depthC l c.id := by
        rw [depthC_eq hm hl0]
        rw [waitsC_mid hm hl0] at hw
        cases hf : p0.filter fun d => keepsB d c with
        | nil => rw [hf] at hw; exact absurd rfl hw
        | cons d t =>
          have hd : d ∈ p0.filter fun d => keepsB d c := by rw [hf]; simp
          have hdl : d ∈ l := by rw [hl0]; exact List.mem_append.2 (Or.inl (List.mem_filter.1 hd).1)
          have h1 := depthC_pos hm hdl
          have h2 : depthC l d.id ≤ maxL ((d :: t).map fun d => depthC l d.id) := le_maxL (List.mem_map.2 ⟨d, by simp, rfl⟩)
          omega
      have hmax : maxL ((p.filter fun d => keepsB d c).map fun d => depthC (roundC l) d.id) ≤ depthC l c.id - 2 := maxL_le fun x hx => by
        obtain ⟨d, hd, rfl⟩ := List.mem_map.1 hx
        obtain ⟨hd1, hd2⟩ := List.mem_filter.1 hd
        obtain ⟨u, v, hu⟩ := mem_split hd1
        have h1 := ih u (v ++ c :: q) d (by rw [hu] at hp; simp at hp; omega) (by rw [hl, hu]; simp)
        -- d is among those for which c waited
        have hdw : d.id ∈ waitsC (roundC l) c.id := by
          rw [waitsC_mid hm' hl]
          exact List.mem_map.2 ⟨d, hd, rfl⟩
        have hdw2 := afterC_waits _ hm hc _ hdw
        rw [waitsC_mid hm hl0] at hdw2
        obtain ⟨e, he, hee⟩ := List.mem_map.1 hdw2
        have h2 : depthC l e.id ≤ maxL ((p0.filter fun d => keepsB d c).map fun d => depthC l d.id) := le_maxL (List.mem_map.2 ⟨e, he, rfl⟩)
        rw [hee] at h2
        have h3 := depthC_eq hm hl0
        omega
      omega
  intro c hc
  obtain ⟨p, q, hl⟩ := mem_split hc
  exact key _ p q c (Nat.le_refl _) hl
theorem deepC_zero {l : List Cg} (hm : mayC l = true) (h : deepC l = 0) : l = [] := by
  cases l with
  | nil => rfl
  | cons c l =>
    have h1 := depthC_pos hm (c := c) (by simp)
    have h2 : depthC (c :: l) c.id ≤ deepC (c :: l) := le_maxL (List.mem_map.2 ⟨c, by simp, rfl⟩)
    omega
theorem deepC_round {l : List Cg} (hm : mayC l = true) : deepC (roundC l) ≤ deepC l - 1 := maxL_le fun x hx => by
  obtain ⟨c, hc, rfl⟩ := List.mem_map.1 hx
  have h1 := round_less hm c hc
  have h2 : depthC l c.id ≤ deepC l := le_maxL (List.mem_map.2 ⟨c, afterC_mem _ hc, rfl⟩)
  omega

end Go.Proofs.YtpmbpklbiocclaaGreat

/-
  Words of exact numbers: the word of digits and a place; doubled, halved, made of a whole number, with a digit more. Plain arithmetic; no program is named here.
-/
namespace Go.Proofs.YtpmbpklbiocclaaGreat
open Ieee

def fits (V : Nat) : Prop := 2 ^ (V.log2 - 52) ∣ V


theorem log2_mul_pow (m k : Nat) (h : m ≠ 0) : (m * 2 ^ k).log2 = m.log2 + k := by
  have hn : m * 2 ^ k ≠ 0 := Nat.mul_ne_zero h (Nat.ne_of_gt (Nat.two_pow_pos k))
  have h1 : m.log2 + k ≤ (m * 2 ^ k).log2 := (Nat.le_log2 hn).2 (by rw [Nat.pow_add]; exact Nat.mul_le_mul_right _ (Nat.log2_self_le h))
  have h2 : (m * 2 ^ k).log2 < m.log2 + k + 1 := (Nat.log2_lt hn).2 (by
    rw [show m.log2 + k + 1 = m.log2 + 1 + k by omega, Nat.pow_add]
    exact Nat.mul_lt_mul_of_pos_right Nat.lt_log2_self (Nat.two_pow_pos k))
  omega

theorem d_word (s : Bool) (r : Nat) : double.word s r = if s then 9223372036854775808 + r else r := by unfold Format.word; rw [d_sign]

theorem d_word_pos (r : Nat) : double.word false r = r := by rw [d_word, if_neg (by decide)]

theorem nearest_zero (s : Bool) (p : Int) : double.nearest s 0 p = double.word s 0 := by unfold Format.nearest; rw [if_pos rfl]


theorem read_pos (r : Nat) (h : r < 9218868437227405312) : double.read r = .number false (mg r) (-1074 + ((r / 4503599627370496 - 1 : Nat) : Int)) := by
  have e : r % 9223372036854775808 = r := Nat.mod_eq_of_lt (by omega)
  have h1 := read_num r (by omega) (by omega)
  rw [e, decide_eq_false (by omega)] at h1
  exact h1


end Go.Proofs.YtpmbpklbiocclaaGreat
