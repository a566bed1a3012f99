/-
  Contracts of the document's answer 09, on what came in: Much, Rise, May, In, Place.
-/
import Derived.Test.YtmcinaigkjfehaaCg2
import Derived.BigQuiet
import Derived.Deep.QuietTactic
namespace Go.Proofs.Ytmcinaigkjfehaa
open Go.RowKit

/-- More than is gone through? -/
def muchC (l : List Cg) (N : Nat) : Bool := decide (N < l.length) || l.any (fun c => decide (300 < c.p.data.length) || decide (60 < c.needs.length))
theorem muchC_no {l : List Cg} {N : Nat} (h : muchC l N = false) : l.length ≤ N ∧ ∀ c ∈ l, c.p.data.length ≤ 300 ∧ c.needs.length ≤ 60 := by
  unfold muchC at h
  rw [Bool.or_eq_false_iff] at h
  obtain ⟨h1, h2⟩ := h
  refine ⟨by simpa using h1, fun c hc => ?_⟩
  have := (List.any_eq_false.1 h2) c hc
  simp at this
  omega
set_option maxRecDepth 100000 in
set_option maxHeartbeats 1600000 in
theorem rmuchc_any (N : Nat) (hN : N ≤ 1000) (A : Option Addr) (n c : Nat) (l : List Cg) (hn : l.length = n) (hm : n ≤ maxLen) (w : World) (hr : RdL RdC w A 5 l) :
    Calls Try.prog 8 #[.slice A n c, .int .i64 (N : Int)] w fun e w' => e = .returned (.bool (muchC l N)) ∧ w = w' := by
  unfold maxLen at hm
  have Hn := Lib.hid hn
  have Hr := Lib.hid hr
  clear hn hr
  by_cases h20 : n ≤ N
  · have d0 : decide (N < n) = false := by simp; omega
    have Hd := Lib.hid (show muchC l N = l.any (fun c => decide (300 < c.p.data.length) || decide (60 < c.needs.length)) by unfold muchC; rw [decide_eq_false (by rw [Hn.out]; omega), Bool.false_or])
    go_enter Try.func8, Try.ntmps8
    go_wp2_with fail
    go_loop [5] (fun i => ∃ k : Nat, k ≤ n ∧ i = .int .i64 k ∧ ∀ j (h : j < l.length), j < k → (decide (300 < l[j].p.data.length) || decide (60 < l[j].needs.length)) = false) (fun i => n - (intOf i).toNat)
    case atStart => exact ⟨0, Nat.zero_le _, rfl, fun j _ h => absurd h (Nat.not_lt_zero _)⟩
    case round =>
      obtain ⟨k, hk, rfl, hno⟩ := hrel
      have Hno := Lib.hid hno
      clear hno
      by_cases hlt : k < n
      · have d1 : decide ((k : Int) < n) = true := by simpa using hlt
        have hkl : k < l.length := by rw [Hn.out]; exact hlt
        obtain ⟨ad, Ad, nd, cd, An, nn, cn, rfl, hcv, h0, h1, h2, h3, h4⟩ := Hr.out.cg hkl
        have c3 := cell_fld h0 h3
        have c4 := cell_fld h0 h4
        have L3 := Lib.hid hcv.p.len
        have L4 := Lib.hid hcv.len
        clear h0 h1 h2 h3 h4 hcv
        by_cases g1 : 300 < nd
        · have e1 : decide ((300 : Int) < nd) = true := by simp; omega
          have Ha := Lib.hid (show l.any (fun c => decide (300 < c.p.data.length) || decide (60 < c.needs.length)) = true from List.any_eq_true.2 ⟨l[k], List.getElem_mem hkl, by rw [L3.out, decide_eq_true g1]; rfl⟩)
          clear g1
          go_wp2_with fail
          go_ret
          rw [Hd.out, Ha.out]
          exact ⟨rfl, rfl⟩
        · have e1 : decide ((300 : Int) < nd) = false := by simp; omega
          by_cases g2 : 60 < nn
          · have e2 : decide ((60 : Int) < nn) = true := by simp; omega
            have Ha := Lib.hid (show l.any (fun c => decide (300 < c.p.data.length) || decide (60 < c.needs.length)) = true from List.any_eq_true.2 ⟨l[k], List.getElem_mem hkl, by rw [L4.out, decide_eq_true g2, Bool.or_true]⟩)
            clear g1 g2
            go_wp2_with fail
            go_ret
            rw [Hd.out, Ha.out]
            exact ⟨rfl, rfl⟩
          · have e2 : decide ((60 : Int) < nn) = false := by simp; omega
            have Ha := Lib.hid (show (decide (300 < l[k].p.data.length) || decide (60 < l[k].needs.length)) = false by rw [L3.out, L4.out, decide_eq_false g1, decide_eq_false g2]; rfl)
            clear g1 g2
            go_wp2_with fail
            refine ⟨⟨k + 1, by omega, by go_num, fun j hj hjk => ?_⟩, by simp [intOf]; omega⟩
            by_cases h : j = k
            · subst h
              exact Ha.out
            · exact Hno.out j hj (by omega)
      · have d1 : decide ((k : Int) < n) = false := by simpa using hlt
        have Ha := Lib.hid (show l.any (fun c => decide (300 < c.p.data.length) || decide (60 < c.needs.length)) = false from List.any_eq_false.2 fun p hp => by
          obtain ⟨j, hj, rfl⟩ := List.getElem_of_mem hp
          rw [Hno.out j hj (by have := Hn.out; omega)]
          simp)
        go_wp2_with fail
        go_ret
        rw [Hd.out, Ha.out]
        exact ⟨rfl, rfl⟩
  · have d0 : decide (N < n) = true := by simp; omega
    have Hd := Lib.hid (show muchC l N = true by unfold muchC; rw [decide_eq_true (by rw [Hn.out]; omega), Bool.true_or])
    go_enter Try.func8, Try.ntmps8
    go_wp2_with fail
    go_ret
    rw [Hd.out]
    exact ⟨rfl, rfl⟩

set_option maxHeartbeats 800000 in
theorem rin9_any (A : Option Addr) (n cap : Nat) (l : List Int) (hn : l.length = n) (hm : n ≤ maxLen) (x : Int) (w : World) (hr : RC w A (ivals l)) :
    Calls Try.prog 29 #[.slice A n cap, .int .i64 x] w fun e w' => e = .returned (.bool (l.contains x)) ∧ w = w' := by
  unfold maxLen at hm
  have Hn := Lib.hid hn
  have Hr := Lib.hid hr
  obtain ⟨b, hb⟩ : ∃ b, l.contains x = b := ⟨_, rfl⟩
  rw [hb]
  have Hb := Lib.hid hb
  clear hn hr hb
  go_enter Try.func29, Try.ntmps29
  go_wp2_with fail
  go_loop [5] (fun i => ∃ k : Nat, k ≤ n ∧ i = .int .i64 k ∧ ∀ j (h : j < l.length), j < k → l[j] ≠ x) (fun i => n - (intOf i).toNat)
  case atStart => exact ⟨0, Nat.zero_le _, rfl, fun j _ h => absurd h (Nat.not_lt_zero _)⟩
  case round =>
    obtain ⟨k, hk, rfl, hno⟩ := hrel
    have Hno := Lib.hid hno
    clear hno
    by_cases hlt : k < n
    · have d1 : decide ((k : Int) < n) = true := by simpa using hlt
      have hkl : k < l.length := by rw [Hn.out]; exact hlt
      obtain ⟨ad, rfl, hc⟩ := Hr.out.int k hkl
      by_cases g1 : l[k] = x
      · have Ha := Lib.hid (show l.contains x = true by rw [← g1]; simp)
        have e1 : (l[k] == x) = true := by simpa using g1
        clear g1
        go_wp2_with fail
        go_ret
        rw [← Hb.out, Ha.out]
        exact ⟨rfl, rfl⟩
      · have e1 : (l[k] == x) = false := by simpa using g1
        have Ha := Lib.hid g1
        clear g1
        go_wp2_with fail
        refine ⟨⟨k + 1, by omega, by go_num, fun j hj hjk => ?_⟩, by simp [intOf]; omega⟩
        by_cases h : j = k
        · subst h
          exact Ha.out
        · exact Hno.out j hj (by omega)
    · have d1 : decide ((k : Int) < n) = false := by simpa using hlt
      have Ha := Lib.hid (show l.contains x = false by
        rw [Bool.eq_false_iff]
        intro h
        obtain ⟨j, hj, e⟩ := List.getElem_of_mem (List.contains_iff_mem.1 h)
        exact Hno.out j hj (by have := Hn.out; omega) e)
      go_wp2_with fail
      go_ret
      rw [← Hb.out, Ha.out]
      exact ⟨rfl, rfl⟩

/-- What Place tells. -/
def RetPlace (l : List Cg) (x : Int) (w : World) (e : Ending) (w' : World) : Prop := w = w' ∧ ((∃ k : Nat, ∃ h : k < l.length, e = .returned (.int .i64 k) ∧ l[k].id = x ∧ ∀ j (h : j < l.length), j < k → l[j].id ≠ x) ∨ (e = .returned (.int .i64 (-1)) ∧ ∀ c ∈ l, c.id ≠ x))
set_option maxHeartbeats 800000 in
/-- Where it stands; -1 where it does not. -/
theorem rplace_any (A : Option Addr) (n cap : Nat) (l : List Cg) (hn : l.length = n) (hm : n ≤ maxLen) (x : Int) (w : World) (hr : RdL RdC w A 5 l) :
    Calls Try.prog 32 #[.slice A n cap, .int .i64 x] w (RetPlace l x w) := by
  unfold maxLen at hm
  have Hn := Lib.hid hn
  have Hr := Lib.hid hr
  clear hn hr
  go_enter Try.func32, Try.ntmps32
  go_wp2_with fail
  go_loop [5] (fun i => ∃ k : Nat, k ≤ n ∧ i = .int .i64 k ∧ ∀ j (h : j < l.length), j < k → l[j].id ≠ x) (fun i => n - (intOf i).toNat)
  case atStart => exact ⟨0, Nat.zero_le _, rfl, fun j _ h => absurd h (Nat.not_lt_zero _)⟩
  case round =>
    obtain ⟨k, hk, rfl, hno⟩ := hrel
    have Hno := Lib.hid hno
    clear hno
    by_cases hlt : k < n
    · have d1 : decide ((k : Int) < n) = true := by simpa using hlt
      have hkl : k < l.length := by rw [Hn.out]; exact hlt
      obtain ⟨ad, Ad, nd, cd, An, nn, cn, rfl, hcv, h0, h1, h2, h3, h4⟩ := Hr.out.cg hkl
      clear h1 h2 h3 h4 hcv
      by_cases g1 : l[k].id = x
      · have Ha := Lib.hid g1
        have e1 : (l[k].id == x) = true := by simpa using g1
        clear g1
        go_wp2_with fail
        go_ret
        exact ⟨rfl, Or.inl ⟨k, hkl, rfl, Ha.out, Hno.out⟩⟩
      · have e1 : (l[k].id == x) = false := by simpa using g1
        have Ha := Lib.hid g1
        clear g1
        go_wp2_with fail
        refine ⟨⟨k + 1, by omega, by go_num, fun j hj hjk => ?_⟩, by simp [intOf]; omega⟩
        by_cases h : j = k
        · subst h
          exact Ha.out
        · exact Hno.out j hj (by omega)
    · have d1 : decide ((k : Int) < n) = false := by simpa using hlt
      go_wp2_with fail
      go_ret
      exact ⟨rfl, Or.inr ⟨rfl, fun c hc => by
        obtain ⟨j, hj, rfl⟩ := List.getElem_of_mem hc
        exact Hno.out j hj (by have := Hn.out; omega)⟩⟩

end Go.Proofs.Ytmcinaigkjfehaa
