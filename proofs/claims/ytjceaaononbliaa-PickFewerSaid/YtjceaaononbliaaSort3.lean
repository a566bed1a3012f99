/-
  The contract of symMerge, whatever the two parts are.
-/
import Derived.Test.YtjceaaononbliaaSort2
import Derived.Test.YtjceaaononbliaaSortB
namespace Go.Proofs.Ytjceaaononbliaa
open Go.RowKit


/-- Where the search begins and ends. -/
structure Span (a m b mid lo hi : Nat) : Prop where
  lh : lo ≤ hi
  al : a ≤ lo
  hm : hi ≤ m
  hd : hi ≤ mid
  nb : mid + m ≤ b + lo
  low : lo = a ∨ mid + m = b + lo
  high : hi = m ∨ hi = mid

theorem span_low {a m b mid : Nat} (ham : a ≤ m) (h : m ≤ mid) (hd : 2 * mid ≤ a + b) : Span a m b mid a m :=
  ⟨ham, Nat.le_refl _, Nat.le_refl _, h, by omega, Or.inl rfl, Or.inl rfl⟩
theorem span_high {a m b mid lo : Nat} (hmb : m ≤ b) (h : mid < m) (hd : a + b ≤ 2 * mid + 1) (hl : lo + b = mid + m) : Span a m b mid lo mid :=
  ⟨by omega, by omega, by omega, Nat.le_refl _, by omega, Or.inr (by omega), Or.inr rfl⟩

/-- Where the search has ended. -/
theorem mid_of {c : Nat → Nat → Bool} {f : Nat → Nat} {a m b mid lo hi s p e : Nat} (h : Span a m b mid lo hi) (hp : p + 1 = mid + m) (he : e + s = mid + m) (h1 : lo ≤ s) (h2 : s ≤ hi)
    (h3 : s = lo ∨ (0 < s ∧ lo < s ∧ c (f (p + 1 - s)) (f (s - 1)) = false)) (h4 : s = hi ∨ (s < hi ∧ c (f (p - s)) (f s) = true)) : Mid c f a m b s e := by
  have x1 := h.al; have x2 := h.hm; have x3 := h.hd; have x4 := h.nb
  refine ⟨by omega, by omega, by omega, by omega, ?_, ?_⟩
  · rcases h3 with h3 | ⟨h3, h3', h3''⟩
    · rcases h.low with h5 | h5
      · exact Or.inl (by omega)
      · exact Or.inr (Or.inl (by omega))
    · exact Or.inr (Or.inr ⟨h3, by omega, by rw [show e = p + 1 - s by omega]; exact h3''⟩)
  · rcases h4 with h4 | ⟨h4, h4'⟩
    · rcases h.high with h5 | h5
      · exact Or.inl (by omega)
      · exact Or.inr (Or.inl (by omega))
    · exact Or.inr (Or.inr ⟨by omega, by rw [show e - 1 = p - s by omega]; exact h4'⟩)

set_option maxHeartbeats 8000000 in
set_option maxRecDepth 1000000 in
theorem symMerge_both (w0 : World) (g : Nat) (t : TypeId) (n cap : Nat) (cv : Value) (cf : Nat → Nat → Int) (T : Nat → Nat → Prop) (HC : CmpC w0 g n cv cf) (hT : Tells T (lessB cf)) (hn : n < 4611686018427387904) (N : Nat)
    (ih : ∀ (f : Nat → Nat) (a m b : Nat), b - a ≤ N → a < m → m < b → b ≤ n → (∀ k, k < n → f k < n) → Two T f a m b → ∀ w, SF w0 g t n f w →
      Calls Try.prog 44 #[.slice (some ⟨g, 0, none⟩) n cap, .int .i64 a, .int .i64 m, .int .i64 b, .func (.func 26) #[] #[cv]] w fun e w' => e = .returned (.tuple #[]) ∧ ∃ f', Merged T f f' a b ∧ SF w0 g t n f' w')
    (f : Nat → Nat) (a m b : Nat) (hN : b - a ≤ N + 1) (ham : a + 1 < m) (hmb : m + 1 < b) (hb : b ≤ n) (hv : ∀ k, k < n → f k < n) (h2 : Two T f a m b) (w : World) (S : SF w0 g t n f w) :
    Calls Try.prog 44 #[.slice (some ⟨g, 0, none⟩) n cap, .int .i64 a, .int .i64 m, .int .i64 b, .func (.func 26) #[] #[cv]] w fun e w' => e = .returned (.tuple #[]) ∧ ∃ f', Merged T f f' a b ∧ SF w0 g t n f' w' := by
  have S0 := Lib.hid S
  have HC0 := Lib.hid HC
  have H2 := Lib.hid h2
  have HV := Lib.hid hv
  have IH := Lib.hid ih
  obtain ⟨d, hd⟩ : ∃ d : Nat, d = m - a := ⟨_, rfl⟩
  obtain ⟨d', hd'⟩ : ∃ d : Nat, d = b - m := ⟨_, rfl⟩
  have q1 : IntKind.i64.wrap ((m : Int) - a) = d := by rw [IntKind.wrap_i64]; omega
  have q1' : IntKind.i64.wrap ((b : Int) - m) = d' := by rw [IntKind.wrap_i64]; omega
  have q0 : ((d : Int) == 1) = false := by simp; omega
  have q0' : ((d' : Int) == 1) = false := by simp; omega
  have HB := Lib.hid (show a + 1 < m ∧ m + 1 < b ∧ b ≤ n ∧ b - a ≤ N + 1 from ⟨ham, hmb, hb, hN⟩)
  have Hn := Lib.hid hn
  clear S HC h2 hv ham hmb hb hd hd' hn hN ih
  obtain ⟨s0, mid, u1, u2, u3, p1, p2, p3, p4⟩ := half_uint a b (by have := HB.out; omega) (by have := HB.out; have := Hn.out; omega)
  obtain ⟨nn, hnn⟩ : ∃ nn, nn = mid + m := ⟨_, rfl⟩
  obtain ⟨p, hp⟩ : ∃ p, p + 1 = nn := ⟨nn - 1, by have := HB.out; omega⟩
  have p5 : IntKind.i64.wrap ((mid : Int) + m) = nn := by clear p1 p2 p3 p4; have := HB.out; have := Hn.out; rw [IntKind.wrap_i64]; omega
  have p6 : IntKind.i64.wrap ((nn : Int) - 1) = p := by clear p1 p2 p3 p4; have := HB.out; have := Hn.out; rw [IntKind.wrap_i64]; omega
  obtain ⟨lo, hi, way, hsp, hway⟩ : ∃ (lo hi : Nat) (way : Bool), Span a m b mid lo hi ∧ decide (mid < m) = way ∧ (way = true → IntKind.i64.wrap ((nn : Int) - b) = lo ∧ hi = mid) ∧ (way = false → lo = a ∧ hi = m) := by
    clear p1 p2 p3 p4 p5 p6
    have x := HB.out
    have y := Hn.out
    by_cases h : mid < m
    · exact ⟨nn - b, mid, true, span_high (by omega) h (by omega) (by omega), decide_eq_true h, fun _ => ⟨by rw [IntKind.wrap_i64]; omega, rfl⟩, fun h => by cases h⟩
    · exact ⟨a, m, false, span_low (by omega) (by omega) (by omega), decide_eq_false h, fun h => (by cases h), fun _ => ⟨rfl, rfl⟩⟩
  have HSP := Lib.hid hsp
  have HD := Lib.hid (show a < mid ∧ mid < b ∧ nn = mid + m ∧ p + 1 = nn by clear p1 p2 p3 p4 p5 p6; have := HB.out; omega)
  clear u1 u2 u3 hnn hp hsp
  have Hway := Lib.hid hway
  clear hway
  go_enter Try.func44, Try.ntmps44
  go_upto_region 27 with fail
  go_cut [140] from 138 to 140 (fun v wx => v = .bool way ∧ SF w0 g t n f wx)
  case first =>
    have dm := Hway.out.1
    cases way
    · go_wp2_with fail
      go_meet
      exact ⟨rfl, S0.out⟩
    · go_wp2_with fail
      go_meet
      exact ⟨rfl, S0.out⟩
  case rest =>
  obtain ⟨rfl, Sw⟩ := hcut
  have HSw := Lib.hid Sw
  clear Sw
  go_upto_if 140 with fail
  go_cut [20, 21] from 141 to 146 (fun u v wx => u = .int .i64 lo ∧ v = .int .i64 hi ∧ SF w0 g t n f wx)
  case first =>
    cases way
    · have Hlo := Lib.hid (Hway.out.2.2 rfl)
      go_wp2_with fail
      go_meet
      exact ⟨by rw [Hlo.out.1], by rw [Hlo.out.2], HSw.out⟩
    · have p7 := (Hway.out.2.1 rfl).1
      have Hhi := Lib.hid (Hway.out.2.1 rfl).2
      go_wp2_with fail
      go_meet
      exact ⟨rfl, by rw [Hhi.out], HSw.out⟩
  case rest =>
  obtain ⟨rfl, rfl, Sw⟩ := hcut
  have HSw := Lib.hid Sw
  clear Sw
  go_wp2_with fail
  clear p1 p2 p3 p4 p5 p6
  go_loopw [20, 21] (fun u v wr => ∃ s z : Nat, lo ≤ s ∧ s ≤ z ∧ z ≤ hi ∧ u = .int .i64 s ∧ v = .int .i64 z ∧ (s = lo ∨ (0 < s ∧ lo < s ∧ lessB cf (f (p + 1 - s)) (f (s - 1)) = false)) ∧ (z = hi ∨ (z < hi ∧ lessB cf (f (p - z)) (f z) = true)) ∧ SF w0 g t n f wr) (fun u v _ => (intOf v).toNat - (intOf u).toNat)
  case atStart => exact ⟨lo, hi, Nat.le_refl _, HSP.out.lh, Nat.le_refl _, rfl, rfl, Or.inl rfl, Or.inl rfl, HSw.out⟩
  case round =>
    obtain ⟨s, z, h1, h2, h3, rfl, rfl, h4, h5, S1⟩ := hrel
    have HI := Lib.hid (show lo ≤ s ∧ s ≤ z ∧ z ≤ hi from ⟨h1, h2, h3⟩)
    have H4 := Lib.hid h4
    have H5 := Lib.hid h5
    clear h1 h2 h3 h4 h5
    by_cases hlt : s < z
    · have d0 : decide (s < z) = true := by simpa using hlt
      obtain ⟨s2, h, u1, u2, -, q2, q3, q4, q5⟩ := half_uint s z hlt (by have := HB.out; have := HI.out; have := Hn.out; have := HSP.out.hm; omega)
      obtain ⟨h', hh'⟩ : ∃ h', h' = h + 1 := ⟨_, rfl⟩
      obtain ⟨k, hk⟩ : ∃ k, k + h = p := ⟨p - h, by clear q2 q3 q4 q5; have := HD.out; have := HI.out; have := HSP.out.hd; omega⟩
      have HH := Lib.hid (show h' = h + 1 ∧ s ≤ h ∧ h < z ∧ h < n ∧ k < n ∧ k + h = p by clear q2 q3 q4 q5; have := HB.out; have := HI.out; have := HD.out; have := HSP.out.hm; have := HSP.out.nb; omega)
      have q6 : IntKind.i64.wrap ((h : Int) + 1) = h' := by clear q2 q3 q4 q5; have := HH.out; have := Hn.out; rw [IntKind.wrap_i64]; omega
      have q7 : IntKind.i64.wrap ((p : Int) - h) = k := by clear q2 q3 q4 q5; have := HH.out; have := Hn.out; rw [IntKind.wrap_i64]; omega
      have z1 : (h : Int) < n := by clear q2 q3 q4 q5; have := HH.out; omega
      have z2 : (k : Int) < n := by clear q2 q3 q4 q5; have := HH.out; omega
      clear hh' hk
      have x1 := HH.out
      have c1 := S1.cell (i := k) (by omega); have c2 := S1.cell (i := h) (by omega); have HO := Lib.hid (HC0.out.at_ HV.out S1 (i := k) (j := h) (by omega) (by omega)); have HS1 := Lib.hid S1; clear S1; obtain ⟨r, Hr⟩ : ∃ r, Hid (lessB cf (f k) (f h) = r) := ⟨_, Lib.hid rfl⟩; obtain ⟨cz, Hc⟩ : ∃ c, Hid (cf (f k) (f h) = c) := ⟨_, Lib.hid rfl⟩; have dc : decide (cz < 0) = r := (by rw [← Hc.out, ← Hr.out, lessB]); rw [Hc.out] at HO
      clear u1 u2 x1 hlt
      cases r
      · go_wp2_with fail
        go_quiet ((go_at_call 26; exact Calls.quiet_of (HO.out _)))
        have HS2 := Lib.hid (HS1.out.drewN nq)
        generalize World.drewN _ nq = w2 at *
        go_wp2_with fail
        go_roundw
        case rel => have := HI.out; have := HH.out; exact ⟨h', z, by omega, by omega, by omega, rfl, rfl, Or.inr ⟨by omega, by omega, by rw [HH.out.1, show p + 1 - (h + 1) = k by omega]; exact Hr.out⟩, H5.out, HS2.out⟩
        case measure => have := HH.out; simp [intOf]; omega
      · go_wp2_with fail
        go_quiet ((go_at_call 26; exact Calls.quiet_of (HO.out _)))
        have HS2 := Lib.hid (HS1.out.drewN nq)
        generalize World.drewN _ nq = w2 at *
        go_wp2_with fail
        go_roundw
        case rel => have := HI.out; have := HH.out; exact ⟨s, h, by omega, by omega, by omega, rfl, rfl, H4.out, Or.inr ⟨by omega, by rw [show p - h = k by omega]; exact Hr.out⟩, HS2.out⟩
        case measure => have := HH.out; simp [intOf]; omega
    · have d0 : decide (s < z) = false := by simpa using hlt
      obtain ⟨e, he⟩ : ∃ e, e + s = nn := ⟨nn - s, by have := HI.out; have := HD.out; have := HSP.out.hd; omega⟩
      have q2 : IntKind.i64.wrap ((nn : Int) - s) = e := by have := HD.out; have := HI.out; have := HB.out; have := Hn.out; rw [IntKind.wrap_i64]; omega
      obtain rfl : s = z := by have := HI.out; omega
      have hM : Mid (lessB cf) f a m b s e := mid_of HSP.out (by have := HD.out; omega) (by have := HD.out; omega) HI.out.1 HI.out.2.2 H4.out H5.out
      have HM := Lib.hid hM
      have HE := Lib.hid (show a ≤ s ∧ s ≤ m ∧ m ≤ e ∧ e ≤ b ∧ s + (e - m) = mid by have := hM.as; have := hM.sm; have := hM.me; have := hM.eb; have := HD.out; omega)
      have HS1 := Lib.hid S1
      clear hlt hM he S1 H4 H5 HI
      have h3 := HM.out.halves hT H2.out
      rw [HE.out.2.2.2.2] at h3
      have H3 := Lib.hid h3
      have HI0 := Lib.hid (rot_into f (a := s) (m := m) (b := e) HE.out.2.1 HE.out.2.2.1)
      have HO0 := Lib.hid (rot_out f (a := s) (m := m) (b := e) HE.out.2.1 HE.out.2.2.1)
      have HRn := Lib.hid (fun h => rot_none f s m e h HE.out.2.1 HE.out.2.2.1)
      have HRc := Lib.hid (fun h1 h2 W S => rotate_any w0 g t n cap f s m e (.func (.func 26) #[] #[cv]) h1 h2 (by have := HB.out; have := HE.out; omega) Hn.out W S)
      clear h3
      generalize rot f s m e = f1 at *
      have HV1 : Hid (∀ k, k < n → f1 k < n) := Lib.hid fun k hk => by
        obtain ⟨j, j1, j2, e1⟩ := (HI0.out.wide HO0.out (Nat.zero_le _) (show e ≤ n by have := HB.out; have := HE.out; omega)) k (Nat.zero_le _) hk
        rw [e1]; exact HV.out j (by omega)
      have HE2 := Lib.hid (show s ≤ mid ∧ mid ≤ e by have := HE.out; omega)
      obtain ⟨b1, Hb1⟩ : ∃ x : Bool, Hid (x = decide (s < m ∧ m < e)) := ⟨_, Lib.hid rfl⟩
      obtain ⟨b2, Hb2⟩ : ∃ x : Bool, Hid (x = decide (a < s ∧ s < mid)) := ⟨_, Lib.hid rfl⟩
      obtain ⟨b3, Hb3⟩ : ∃ x : Bool, Hid (x = decide (mid < e ∧ e < b)) := ⟨_, Lib.hid rfl⟩
      go_upto_region 39 with fail
      go_cut [185] from 178 to 185 (fun v wx => v = .bool b1 ∧ SF w0 g t n f wx)
      case first => (by_cases c1 : s < m <;> by_cases c2 : m < e) <;> (have d1 : decide (s < m) = _ := (by first | exact decide_eq_true c1 | exact decide_eq_false c1); have d2 : decide (m < e) = _ := (by first | exact decide_eq_true c2 | exact decide_eq_false c2); have e0 : decide (s < m ∧ m < e) = _ := (by first | exact decide_eq_true ⟨c1, c2⟩ | exact decide_eq_false (fun h => c1 h.1) | exact decide_eq_false (fun h => c2 h.2)); have e1 := Lib.hid (Hb1.out.trans e0); clear c1 c2 e0; go_wp2_with fail; go_meet; exact ⟨by rw [e1.out], HS1.out⟩)
      case rest =>
      obtain ⟨rfl, S1⟩ := hcut
      have HS1 := Lib.hid S1
      clear S1
      go_upto_if 185 with fail
      go_cut [] from 186 to 191 (fun wx => SF w0 g t n f1 wx)
      case first =>
        cases b1
        · have c1 : ¬ (s < m ∧ m < e) := by have := Hb1.out; simpa using this
          have e0 := Lib.hid (HRn.out (by omega))
          clear c1
          go_wp2_with fail
          go_meet
          rw [e0.out]; exact HS1.out
        · have c1 : s < m ∧ m < e := by have := Hb1.out; simpa using this
          have HRd := Lib.hid (HRc.out c1.1 c1.2 _ HS1.out)
          clear c1 HRc
          go_wp2_with (go_at_call 45; refine HRd.out.mono ?_; rintro _ w2 ⟨rfl, S2⟩)
          go_meet
          exact S2
      case rest =>
      have HS1 := Lib.hid hcut
      clear hcut HRc HRn
      go_upto_region 41 with fail
      go_cut [199] from 192 to 199 (fun v wx => v = .bool b2 ∧ SF w0 g t n f1 wx)
      case first => (by_cases c1 : a < s <;> by_cases c2 : s < mid) <;> (have d1 : decide (a < s) = _ := (by first | exact decide_eq_true c1 | exact decide_eq_false c1); have d2 : decide (s < mid) = _ := (by first | exact decide_eq_true c2 | exact decide_eq_false c2); have e0 : decide (a < s ∧ s < mid) = _ := (by first | exact decide_eq_true ⟨c1, c2⟩ | exact decide_eq_false (fun h => c1 h.1) | exact decide_eq_false (fun h => c2 h.2)); have e1 := Lib.hid (Hb2.out.trans e0); clear c1 c2 e0; go_wp2_with fail; go_meet; exact ⟨by rw [e1.out], HS1.out⟩)
      case rest =>
      obtain ⟨rfl, S1⟩ := hcut
      have HS1 := Lib.hid S1
      clear S1
      go_upto_if 199 with fail
      go_cut [] from 200 to 205 (fun wx => ∃ f2, Merged T f1 f2 a mid ∧ SF w0 g t n f2 wx)
      case first =>
        cases b2
        · have c1 : ¬ (a < s ∧ s < mid) := by have := Hb2.out; simpa using this
          have e0 := Lib.hid (H3.out.1.done (by omega) HE.out.1 HE2.out.1)
          clear c1
          go_wp2_with fail
          go_meet
          exact ⟨f1, e0.out, HS1.out⟩
        · have c1 : a < s ∧ s < mid := by have := Hb2.out; simpa using this
          have HRd := Lib.hid (IH.out f1 a s mid (by have := HB.out; have := HD.out; omega) c1.1 c1.2 (by have := HB.out; have := HD.out; omega) HV1.out H3.out.1 _ HS1.out)
          clear c1
          go_wp2_with (go_at_call 44; refine HRd.out.mono ?_; rintro _ w2 ⟨rfl, S2⟩)
          go_meet
          exact S2
      case rest =>
      obtain ⟨f2, M2, S2⟩ := hcut
      have HS2 := Lib.hid S2
      have HV2 := Lib.hid (M2.below (n := n) (by have := HB.out; have := HD.out; omega) HV1.out)
      have HT2 := Lib.hid (H3.out.2.1.congr (g := f2) HE2.out.2 HE.out.2.2.2.1 (fun k k1 _ => M2.out k (Or.inr k1)))
      have HF := Lib.hid (fun f3 (M3 : Merged T f2 f3 mid b) => Merged.halves (a := a) (b := b) ⟨by have := HD.out; omega, by have := HD.out; omega⟩ (HI0.out.wide HO0.out HE.out.1 HE.out.2.2.2.1) (HO0.out.wide HE.out.1 HE.out.2.2.2.1) M2 M3 H3.out.2.2)
      clear M2 S2 HS1 H3 HI0 HO0
      go_upto_region 43 with fail
      go_cut [213] from 206 to 213 (fun v wx => v = .bool b3 ∧ SF w0 g t n f2 wx)
      case first => (by_cases c1 : mid < e <;> by_cases c2 : e < b) <;> (have d1 : decide (mid < e) = _ := (by first | exact decide_eq_true c1 | exact decide_eq_false c1); have d2 : decide (e < b) = _ := (by first | exact decide_eq_true c2 | exact decide_eq_false c2); have e0 : decide (mid < e ∧ e < b) = _ := (by first | exact decide_eq_true ⟨c1, c2⟩ | exact decide_eq_false (fun h => c1 h.1) | exact decide_eq_false (fun h => c2 h.2)); have e1 := Lib.hid (Hb3.out.trans e0); clear c1 c2 e0; go_wp2_with fail; go_meet; exact ⟨by rw [e1.out], HS2.out⟩)
      case rest =>
      obtain ⟨rfl, S2⟩ := hcut
      have HS2 := Lib.hid S2
      clear S2
      cases b3
      · have c1 : ¬ (mid < e ∧ e < b) := by have := Hb3.out; simpa using this
        have e0 := Lib.hid (HT2.out.done (by omega) HE2.out.2 HE.out.2.2.2.1)
        clear c1
        go_wp2_with fail
        go_end0
        exact ⟨rfl, f2, HF.out f2 e0.out, HS2.out⟩
      · have c1 : mid < e ∧ e < b := by have := Hb3.out; simpa using this
        have HRd := Lib.hid (IH.out f2 mid e b (by have := HB.out; have := HD.out; omega) c1.1 c1.2 HB.out.2.2.1 HV2.out HT2.out _ HS2.out)
        clear c1
        go_wp2_with (go_at_call 44; refine HRd.out.mono ?_; rintro _ w2 ⟨rfl, f3, M3, S3⟩)
        go_end0
        exact ⟨rfl, f3, HF.out f3 M3, S3⟩

theorem symMerge_any (w0 : World) (g : Nat) (t : TypeId) (n cap : Nat) (cv : Value) (cf : Nat → Nat → Int) (T : Nat → Nat → Prop) (HC : CmpC w0 g n cv cf) (hT : Tells T (lessB cf)) (hn : n < 4611686018427387904) (N : Nat) :
    ∀ (f : Nat → Nat) (a m b : Nat), b - a ≤ N → a < m → m < b → b ≤ n → (∀ k, k < n → f k < n) → Two T f a m b → ∀ w, SF w0 g t n f w →
      Calls Try.prog 44 #[.slice (some ⟨g, 0, none⟩) n cap, .int .i64 a, .int .i64 m, .int .i64 b, .func (.func 26) #[] #[cv]] w fun e w' => e = .returned (.tuple #[]) ∧ ∃ f', Merged T f f' a b ∧ SF w0 g t n f' w' := by
  induction N with
  | zero => intro f a m b h; omega
  | succ N ih =>
    intro f a m b hN ham hmb hb hv h2 w S
    by_cases h1 : m = a + 1
    · exact symMerge_left w0 g t n cap cv cf T HC hT hn f a m b h1 hmb hb hv h2 w S
    · by_cases h3 : b = m + 1
      · exact symMerge_right w0 g t n cap cv cf T HC hT hn f a m b (by omega) h3 hb hv h2 w S
      · exact symMerge_both w0 g t n cap cv cf T HC hT hn N ih f a m b hN (by omega) (by omega) hb hv h2 w S

end Go.Proofs.Ytjceaaononbliaa
