/-
  The contract of symMerge: two rising parts, side by side, are merged in place.
-/
import Derived.Test.YtjceaaononbliaaSort1
import Derived.Deep.DeepCutAuto
import Derived.Deep.CutRange
namespace Go.Proofs.Ytjceaaononbliaa
open Go.RowKit

/-- What is asked of the test, in every world that the sort passes through. -/
def CmpC (w0 : World) (g n : Nat) (cv : Value) (cf : Nat → Nat → Int) : Prop :=
  ∀ W, Only w0 W g → ∀ x y : Nat, x < n → y < n → Calls Try.prog 26 #[.int .i64 x, .int .i64 y, cv] W (RetQ (.int .i64 (cf x y)) W)
/-- Does the test tell that x goes ahead of y? -/
def lessB (cf : Nat → Nat → Int) (x y : Nat) : Bool := decide (cf x y < 0)

/-- int(uint(i+j) >> 1). -/
theorem half_uint (i j : Nat) (hlt : i < j) (h : i + j < 9223372036854775808) :
    ∃ s h : Nat, i ≤ h ∧ h < j ∧ h = (i + j) / 2 ∧ IntKind.i64.wrap ((i : Int) + j) = s ∧ IntKind.u64.wrap (s : Int) = s ∧ (s : Int) / 2 = h ∧ IntKind.i64.wrap (h : Int) = h := by
  refine ⟨i + j, (i + j) / 2, by omega, by omega, rfl, ?_, ?_, ?_, ?_⟩
  · rw [IntKind.wrap_i64]; omega
  · simp [IntKind.wrap, IntKind.bits, IntKind.signed]; omega
  · omega
  · rw [IntKind.wrap_i64]; omega

section
variable {w0 : World} {g : Nat} {t : TypeId} {n : Nat} {cv : Value} {cf : Nat → Nat → Int} {f : Nat → Nat}
theorem CmpC.at_ {W : World} (h : CmpC w0 g n cv cf) (hv : ∀ k, k < n → f k < n) (S : SF w0 g t n f W) {i j : Nat} (hi : i < n) (hj : j < n) (q : Nat) :
    Calls Try.prog 26 #[.int .i64 (f i : Nat), .int .i64 (f j : Nat), cv] (W.drewN q) (RetQ (.int .i64 (cf (f i) (f j))) (W.drewN q)) :=
  h _ (S.drewN q).only _ _ (hv i hi) (hv j hj)
end


set_option maxHeartbeats 4000000 in
set_option maxRecDepth 1000000 in
theorem symMerge_left (w0 : World) (g : Nat) (t : TypeId) (n cap : Nat) (cv : Value) (cf : Nat → Nat → Int) (T : Nat → Nat → Prop) (HC : CmpC w0 g n cv cf) (hT : Tells T (lessB cf)) (hn : n < 4611686018427387904)
    (f : Nat → Nat) (a m b : Nat) (ham : m = a + 1) (hmb : m < b) (hb : b ≤ n) (hv : ∀ k, k < n → f k < n) (h2 : Two T f a m b) (w : World) (S : SF w0 g t n f w) :
    Calls Try.prog 44 #[.slice (some ⟨g, 0, none⟩) n cap, .int .i64 a, .int .i64 m, .int .i64 b, .func (.func 26) #[] #[cv]] w fun e w' => e = .returned (.tuple #[]) ∧ ∃ f', Merged T f f' a b ∧ SF w0 g t n f' w' := by
  have S0 := Lib.hid S
  have HC0 := Lib.hid HC
  have H2 := Lib.hid h2
  have HV := Lib.hid hv
  have Hm := Lib.hid ham
  obtain ⟨d, hd⟩ : ∃ d : Nat, d = m - a := ⟨_, rfl⟩
  have q1 : IntKind.i64.wrap ((m : Int) - a) = d := by rw [IntKind.wrap_i64]; omega
  have q0 : ((d : Int) == 1) = true := by simp; omega
  have HB := Lib.hid (show a < m ∧ m < b ∧ b ≤ n by omega)
  have Hn := Lib.hid hn
  clear S HC h2 hv ham hmb hb hd hn
  go_enter Try.func44, Try.ntmps44
  go_wp2_with fail
  go_loopw [10, 11] (fun u v wr => ∃ i j : Nat, m ≤ i ∧ i ≤ j ∧ j ≤ b ∧ u = .int .i64 i ∧ v = .int .i64 j ∧ (i = m ∨ lessB cf (f (i - 1)) (f a) = true) ∧ (j = b ∨ lessB cf (f j) (f a) = false) ∧ SF w0 g t n f wr) (fun u v _ => (intOf v).toNat - (intOf u).toNat)
  case atStart => have := HB.out; exact ⟨m, b, Nat.le_refl _, by omega, Nat.le_refl _, rfl, rfl, Or.inl rfl, Or.inl rfl, S0.out⟩
  case round =>
    obtain ⟨i, j, h1, h2, h3, rfl, rfl, h4, h5, S1⟩ := hrel
    have HI := Lib.hid (show m ≤ i ∧ i ≤ j ∧ j ≤ b from ⟨h1, h2, h3⟩)
    have H4 := Lib.hid h4
    have H5 := Lib.hid h5
    clear h1 h2 h3 h4 h5
    by_cases hlt : i < j
    · have d0 : decide (i < j) = true := by simpa using hlt
      obtain ⟨s, h, u1, u2, -, q2, q3, q4, q5⟩ := half_uint i j hlt (by have := HB.out; have := HI.out; have := Hn.out; omega)
      obtain ⟨h', hh'⟩ : ∃ h', h' = h + 1 := ⟨_, rfl⟩
      have HH := Lib.hid (show h' = h + 1 ∧ i ≤ h ∧ h < j ∧ h < n ∧ a < n by clear q2 q3 q4 q5; have := HB.out; have := HI.out; omega)
      have q6 : IntKind.i64.wrap ((h : Int) + 1) = h' := by clear q2 q3 q4 q5; have := HH.out; have := Hn.out; rw [IntKind.wrap_i64]; omega
      have z1 : (h : Int) < n := by clear q2 q3 q4 q5; have := HH.out; omega
      have z2 : (a : Int) < n := by clear q2 q3 q4 q5; have := HH.out; omega
      clear hh'
      have x1 := HH.out
      have c1 := S1.cell (i := h) (by omega); have c2 := S1.cell (i := a) (by omega); have HO := Lib.hid (HC0.out.at_ HV.out S1 (i := h) (j := a) (by omega) (by omega)); have HS1 := Lib.hid S1; clear S1; obtain ⟨r, Hr⟩ : ∃ r, Hid (lessB cf (f h) (f a) = r) := ⟨_, Lib.hid rfl⟩; obtain ⟨cz, Hc⟩ : ∃ c, Hid (cf (f h) (f a) = c) := ⟨_, Lib.hid rfl⟩; have dc : decide (cz < 0) = r := (by rw [← Hc.out, ← Hr.out, lessB]); rw [Hc.out] at HO
      clear u1 u2 x1 hlt
      cases r
      · go_wp2_with fail
        go_quiet ((go_at_call 26; exact Calls.quiet_of (HO.out _)))
        have HS2 := Lib.hid (HS1.out.drewN nq)
        generalize World.drewN _ nq = w2 at *
        go_wp2_with fail
        go_roundw
        case rel => have := HI.out; have := HH.out; exact ⟨i, h, by omega, by omega, by omega, rfl, rfl, H4.out, Or.inr Hr.out, HS2.out⟩
        case measure => have := HH.out; simp [intOf]; omega
      · go_wp2_with fail
        go_quiet ((go_at_call 26; exact Calls.quiet_of (HO.out _)))
        have HS2 := Lib.hid (HS1.out.drewN nq)
        generalize World.drewN _ nq = w2 at *
        go_wp2_with fail
        go_roundw
        case rel => have := HI.out; have := HH.out; exact ⟨h', j, by omega, by omega, by omega, rfl, rfl, Or.inr (by rw [HH.out.1]; exact Hr.out), H5.out, HS2.out⟩
        case measure => have := HH.out; simp [intOf]; omega
    · have d0 : decide (i < j) = false := by simpa using hlt
      obtain ⟨e, he⟩ : ∃ e, i = e + 1 := ⟨i - 1, by have := HI.out; have := HB.out; omega⟩
      have q2 : IntKind.i64.wrap ((i : Int) - 1) = e := by have := HI.out; have := HB.out; have := Hn.out; rw [IntKind.wrap_i64]; omega
      have HE := Lib.hid (show i = e + 1 ∧ i = j ∧ a ≤ e ∧ e < b by have := HI.out; have := HB.out; omega)
      have HS1 := Lib.hid S1
      clear S1 hlt he
      go_wp2_with fail
      go_loopw [13] (fun u wr => ∃ k : Nat, a ≤ k ∧ k ≤ e ∧ u = .int .i64 k ∧ SF w0 g t n (upTo f a (k + 1)) wr) (fun u _ => e - (intOf u).toNat)
      case atStart => exact ⟨a, Nat.le_refl _, HE.out.2.2.1, rfl, by rw [upTo_start]; exact HS1.out⟩
      case round =>
        obtain ⟨k, h1, h2, rfl, S2⟩ := hrel
        by_cases hlt : k < e
        · have d1 : decide (k < e) = true := by simpa using hlt
          obtain ⟨k', hk'⟩ : ∃ k', k' = k + 1 := ⟨_, rfl⟩
          have x1 := HE.out
          have x2 := HB.out
          have x3 := Hn.out
          have HN := Lib.hid (upTo_next f a k h1)
          generalize upTo f a (k + 1) = f1 at *
          have q3 : IntKind.i64.wrap ((k : Int) + 1) = k' := by rw [IntKind.wrap_i64]; omega
          have hkn : k < n := by omega
          have hkn' : k' < n := by omega
          have z1 : (k : Int) < n := by omega
          have z2 : (k' : Int) < n := by omega
          have hne : k ≠ k' := by omega
          have HK := Lib.hid (show k' = k + 1 ∧ a ≤ k ∧ k < e by omega)
          have c1 := S2.cell hkn
          have c2 := S2.cell hkn'
          have c3 := S2.other hne hkn' (.int .i64 (f1 k' : Int))
          have y1 := S2.frozen k
          have y2 := S2.frozen k'
          have HS3 := Lib.hid (S2.swap k k').drew
          clear S2 x1 x2 x3 hlt hne hk' h1 h2
          go_wp2_with fail
          go_region
          clear c1 c2 c3 y1 y2
          generalize World.drew _ = w3 at *
          go_wp2_with fail
          go_roundw
          case rel =>
            have := HK.out
            refine ⟨k', by omega, by omega, rfl, ?_⟩
            rw [HK.out.1, show k + 1 + 1 = k + 2 from rfl, ← HN.out]
            have := HS3.out
            rw [HK.out.1] at this
            exact this
          case measure => have := HK.out; simp [intOf]; omega
        · have d1 : decide (k < e) = false := by simpa using hlt
          have hke : k = e := by omega
          have HM := Lib.hid (show Merged T f (upTo f a (k + 1)) a b by
            have x1 := HE.out; have x2 := HB.out; have x3 := HI.out; have x4 := Hm.out
            have hi : k + 1 = i := by omega
            have h2 := H2.out
            rw [x4] at h2
            rw [hi]
            refine h2.one_left hT (by omega) (by omega) ?_ ?_
            · have := H4.out; rw [x4] at this; exact this
            · have := H5.out; rw [← x1.2.1] at this; exact this)
          clear hlt
          go_wp2_with fail
          refine bodyPost_ret (results_none rfl _ _ _) rfl ?_
          exact ⟨rfl, _, HM.out, S2⟩

set_option maxHeartbeats 4000000 in
set_option maxRecDepth 1000000 in
theorem symMerge_right (w0 : World) (g : Nat) (t : TypeId) (n cap : Nat) (cv : Value) (cf : Nat → Nat → Int) (T : Nat → Nat → Prop) (HC : CmpC w0 g n cv cf) (hT : Tells T (lessB cf)) (hn : n < 4611686018427387904)
    (f : Nat → Nat) (a m b : Nat) (ham : a + 1 < m) (hmb : b = m + 1) (hb : b ≤ n) (hv : ∀ k, k < n → f k < n) (h2 : Two T f a m b) (w : World) (S : SF w0 g t n f w) :
    Calls Try.prog 44 #[.slice (some ⟨g, 0, none⟩) n cap, .int .i64 a, .int .i64 m, .int .i64 b, .func (.func 26) #[] #[cv]] w fun e w' => e = .returned (.tuple #[]) ∧ ∃ f', Merged T f f' a b ∧ SF w0 g t n f' w' := by
  have S0 := Lib.hid S
  have HC0 := Lib.hid HC
  have H2 := Lib.hid h2
  have HV := Lib.hid hv
  have Hm := Lib.hid hmb
  obtain ⟨d, hd⟩ : ∃ d : Nat, d = m - a := ⟨_, rfl⟩
  obtain ⟨d', hd'⟩ : ∃ d : Nat, d = b - m := ⟨_, rfl⟩
  have q1 : IntKind.i64.wrap ((m : Int) - a) = d := by rw [IntKind.wrap_i64]; omega
  have q1' : IntKind.i64.wrap ((b : Int) - m) = d' := by rw [IntKind.wrap_i64]; omega
  have q0 : ((d : Int) == 1) = false := by simp; omega
  have q0' : ((d' : Int) == 1) = true := by simp; omega
  have HB := Lib.hid (show a < m ∧ m < b ∧ b ≤ n by omega)
  have Hn := Lib.hid hn
  clear S HC h2 hv ham hmb hb hd hd' hn
  go_enter Try.func44, Try.ntmps44
  go_wp2_with fail
  go_loopw [14, 15] (fun u v wr => ∃ i j : Nat, a ≤ i ∧ i ≤ j ∧ j ≤ m ∧ u = .int .i64 i ∧ v = .int .i64 j ∧ (i = a ∨ (0 < i ∧ lessB cf (f m) (f (i - 1)) = false)) ∧ (j = m ∨ lessB cf (f m) (f j) = true) ∧ SF w0 g t n f wr) (fun u v _ => (intOf v).toNat - (intOf u).toNat)
  case atStart => have := HB.out; exact ⟨a, m, Nat.le_refl _, by omega, Nat.le_refl _, rfl, rfl, Or.inl rfl, Or.inl rfl, S0.out⟩
  case round =>
    obtain ⟨i, j, h1, h2, h3, rfl, rfl, h4, h5, S1⟩ := hrel
    have HI := Lib.hid (show a ≤ i ∧ i ≤ j ∧ j ≤ m from ⟨h1, h2, h3⟩)
    have H4 := Lib.hid h4
    have H5 := Lib.hid h5
    clear h1 h2 h3 h4 h5
    by_cases hlt : i < j
    · have d0 : decide (i < j) = true := by simpa using hlt
      obtain ⟨s, h, u1, u2, -, q2, q3, q4, q5⟩ := half_uint i j hlt (by have := HB.out; have := HI.out; have := Hn.out; omega)
      obtain ⟨h', hh'⟩ : ∃ h', h' = h + 1 := ⟨_, rfl⟩
      have HH := Lib.hid (show h' = h + 1 ∧ i ≤ h ∧ h < j ∧ h < n ∧ m < n by clear q2 q3 q4 q5; have := HB.out; have := HI.out; omega)
      have q6 : IntKind.i64.wrap ((h : Int) + 1) = h' := by clear q2 q3 q4 q5; have := HH.out; have := Hn.out; rw [IntKind.wrap_i64]; omega
      have z1 : (h : Int) < n := by clear q2 q3 q4 q5; have := HH.out; omega
      have z2 : (m : Int) < n := by clear q2 q3 q4 q5; have := HH.out; omega
      clear hh'
      have x1 := HH.out
      have c1 := S1.cell (i := m) (by omega); have c2 := S1.cell (i := h) (by omega); have HO := Lib.hid (HC0.out.at_ HV.out S1 (i := m) (j := h) (by omega) (by omega)); have HS1 := Lib.hid S1; clear S1; obtain ⟨r, Hr⟩ : ∃ r, Hid (lessB cf (f m) (f h) = r) := ⟨_, Lib.hid rfl⟩; obtain ⟨cz, Hc⟩ : ∃ c, Hid (cf (f m) (f h) = c) := ⟨_, Lib.hid rfl⟩; have dc : decide (cz < 0) = r := (by rw [← Hc.out, ← Hr.out, lessB]); rw [Hc.out] at HO
      clear u1 u2 x1 hlt
      cases r
      · go_wp2_with fail
        go_quiet ((go_at_call 26; exact Calls.quiet_of (HO.out _)))
        have HS2 := Lib.hid (HS1.out.drewN nq)
        generalize World.drewN _ nq = w2 at *
        go_wp2_with fail
        go_roundw
        case rel => have := HI.out; have := HH.out; exact ⟨h', j, by omega, by omega, by omega, rfl, rfl, Or.inr ⟨by omega, by rw [HH.out.1]; exact Hr.out⟩, H5.out, HS2.out⟩
        case measure => have := HH.out; simp [intOf]; omega
      · go_wp2_with fail
        go_quiet ((go_at_call 26; exact Calls.quiet_of (HO.out _)))
        have HS2 := Lib.hid (HS1.out.drewN nq)
        generalize World.drewN _ nq = w2 at *
        go_wp2_with fail
        go_roundw
        case rel => have := HI.out; have := HH.out; exact ⟨i, h, by omega, by omega, by omega, rfl, rfl, H4.out, Or.inr Hr.out, HS2.out⟩
        case measure => have := HH.out; simp [intOf]; omega
    · have d0 : decide (i < j) = false := by simpa using hlt
      have HE := Lib.hid (show i = j ∧ a ≤ i ∧ i ≤ m by have := HI.out; have := HB.out; omega)
      have HS1 := Lib.hid S1
      clear S1 hlt
      go_wp2_with fail
      go_loopw [17] (fun u wr => ∃ k : Nat, i ≤ k ∧ k ≤ m ∧ u = .int .i64 k ∧ SF w0 g t n (downTo f k m) wr) (fun u _ => (intOf u).toNat - i)
      case atStart => exact ⟨m, HE.out.2.2, Nat.le_refl _, rfl, by rw [downTo_start]; exact HS1.out⟩
      case round =>
        obtain ⟨k, h1, h2, rfl, S2⟩ := hrel
        by_cases hlt : i < k
        · have d1 : decide (i < k) = true := by simpa using hlt
          obtain ⟨k', hk'⟩ : ∃ k', k = k' + 1 := ⟨k - 1, by omega⟩
          have x1 := HE.out
          have x2 := HB.out
          have x3 := Hn.out
          have HN := Lib.hid (downTo_next f k' m (by omega))
          rw [← hk'] at HN
          generalize downTo f k m = f1 at *
          have q3 : IntKind.i64.wrap ((k : Int) - 1) = k' := by rw [IntKind.wrap_i64]; omega
          have hkn : k < n := by omega
          have hkn' : k' < n := by omega
          have z1 : (k : Int) < n := by omega
          have z2 : (k' : Int) < n := by omega
          have hne : k ≠ k' := by omega
          have HK := Lib.hid (show k = k' + 1 ∧ i < k ∧ k ≤ m by omega)
          have c1 := S2.cell hkn
          have c2 := S2.cell hkn'
          have c3 := S2.other hne hkn' (.int .i64 (f1 k' : Int))
          have y1 := S2.frozen k
          have y2 := S2.frozen k'
          have HS3 := Lib.hid (S2.swap k k').drew
          clear S2 x1 x2 x3 hlt hne hk' h1 h2
          go_wp2_with fail
          go_region
          clear c1 c2 c3 y1 y2
          generalize World.drew _ = w3 at *
          go_wp2_with fail
          go_roundw
          case rel =>
            have := HK.out
            refine ⟨k', by omega, by omega, rfl, ?_⟩
            rw [← HN.out]
            exact HS3.out
          case measure => have := HK.out; simp [intOf]; omega
        · have d1 : decide (i < k) = false := by simpa using hlt
          have hke : k = i := by omega
          have HM := Lib.hid (show Merged T f (downTo f k m) a b by
            have x1 := HE.out; have x4 := Hm.out
            have h2 := H2.out
            rw [x4] at h2 ⊢
            rw [hke]
            refine h2.one_right hT (by omega) (by omega) H4.out ?_
            have := H5.out; rw [← x1.1] at this; exact this)
          clear hlt
          go_wp2_with fail
          refine bodyPost_ret (results_none rfl _ _ _) rfl ?_
          exact ⟨rfl, _, HM.out, S2⟩

end Go.Proofs.Ytjceaaononbliaa
