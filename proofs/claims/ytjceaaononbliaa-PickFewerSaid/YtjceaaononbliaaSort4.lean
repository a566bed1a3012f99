/-
  The contracts of insertionSort and of the stable sort.
-/
import Derived.Test.YtjceaaononbliaaSort3
namespace Go.Proofs.Ytjceaaononbliaa
open Go.RowKit

set_option maxHeartbeats 4000000 in
set_option maxRecDepth 1000000 in
theorem insertion_any (w0 : World) (g : Nat) (t : TypeId) (n cap : Nat) (cv : Value) (cf : Nat → Nat → Int) (T : Nat → Nat → Prop) (HC : CmpC w0 g n cv cf) (hT : Tells T (lessB cf)) (hn : n < 4611686018427387904)
    (f : Nat → Nat) (a b : Nat) (hab : a ≤ b) (hb : b ≤ n) (hv : ∀ k, k < n → f k < n) (hl : ∀ p q, a ≤ p → p < q → q < b → f p < f q) (w : World) (S : SF w0 g t n f w) :
    Calls Try.prog 43 #[.slice (some ⟨g, 0, none⟩) n cap, .int .i64 a, .int .i64 b, .func (.func 26) #[] #[cv]] w fun e w' => e = .returned (.tuple #[]) ∧ ∃ f', Merged T f f' a b ∧ SF w0 g t n f' w' := by
  have S0 := Lib.hid S
  have HC0 := Lib.hid HC
  have HV0 := Lib.hid hv
  have HL := Lib.hid hl
  have HB := Lib.hid (show a ≤ b ∧ b ≤ n from ⟨hab, hb⟩)
  have Hn := Lib.hid hn
  obtain ⟨a1, ha1⟩ : ∃ a1, a1 = a + 1 := ⟨_, rfl⟩
  have q1 : IntKind.i64.wrap ((a : Int) + 1) = a1 := by rw [IntKind.wrap_i64]; omega
  have HA := Lib.hid ha1
  clear S HC hv hl hab hb hn ha1
  go_enter Try.func43, Try.ntmps43
  go_wp2_with fail
  go_loopw [8] (fun u wr => ∃ (i : Nat) (f1 : Nat → Nat), a < i ∧ (i ≤ b ∨ i = a + 1) ∧ u = .int .i64 i ∧ Merged T f f1 a i ∧ SF w0 g t n f1 wr) (fun u _ => b - (intOf u).toNat)
  case atStart => exact ⟨a1, f, by have := HA.out; omega, Or.inr HA.out, rfl, Merged.none f (by have := HA.out; omega), S0.out⟩
  case round =>
    obtain ⟨i, f1, h1, h2, rfl, hM, S1⟩ := hrel
    have HM := Lib.hid hM
    have HI := Lib.hid (show a < i ∧ (i ≤ b ∨ i = a + 1) from ⟨h1, h2⟩)
    have HS0 := Lib.hid S1
    clear h1 h2 hM S1
    by_cases hlt : i < b
    · have d0 : decide (i < b) = true := by simpa using hlt
      have HV1 := Lib.hid (HM.out.below (n := n) (by have := HB.out; omega) HV0.out)
      have H2 := Lib.hid (HM.out.next (by have := HI.out; omega) hlt HL.out)
      have HIb := Lib.hid (show i < b ∧ b ≤ n ∧ a < i by have := HB.out; have := HI.out; omega)
      clear hlt
      go_wp2_with fail
      go_loopw [9] (fun u wr => ∃ j : Nat, a ≤ j ∧ j ≤ i ∧ u = .int .i64 j ∧ (j = i ∨ lessB cf (f1 i) (f1 j) = true) ∧ SF w0 g t n (downTo f1 j i) wr) (fun u _ => (intOf u).toNat)
      case atStart => exact ⟨i, by have := HIb.out; omega, Nat.le_refl _, rfl, Or.inl rfl, by rw [downTo_start]; exact HS0.out⟩
      case round =>
        obtain ⟨j, h1, h2, rfl, h3, S1⟩ := hrel
        have HJ := Lib.hid (show a ≤ j ∧ j ≤ i from ⟨h1, h2⟩)
        have H3 := Lib.hid h3
        clear h1 h2 h3
        obtain ⟨i1, hi1⟩ : ∃ i1, i1 = i + 1 := ⟨_, rfl⟩
        have q5 : IntKind.i64.wrap ((i : Int) + 1) = i1 := by have := HIb.out; have := Hn.out; rw [IntKind.wrap_i64]; omega
        have HI1 := Lib.hid hi1
        clear hi1
        by_cases hja : a < j
        · have d1 : decide (a < j) = true := by simpa using hja
          obtain ⟨k, hk⟩ : ∃ k, j = k + 1 := ⟨j - 1, by omega⟩
          have HK := Lib.hid (show j = k + 1 ∧ k < n ∧ j < n ∧ a ≤ k ∧ k < i by have := HIb.out; have := HJ.out; omega)
          have q3 : IntKind.i64.wrap ((j : Int) - 1) = k := by have := HK.out; have := Hn.out; rw [IntKind.wrap_i64]; omega
          have v1 : downTo f1 j i j = f1 i := by unfold downTo; rw [if_neg (by omega), if_pos ⟨rfl, HJ.out.2⟩]
          have v2 : downTo f1 j i k = f1 k := by unfold downTo; rw [if_neg (by omega), if_neg (by omega)]
          have z1 : (j : Int) < n := by have := HK.out; omega
          have z2 : (k : Int) < n := by have := HK.out; omega
          have c1 := S1.cell (i := j) HK.out.2.2.1
          have c2 := S1.cell (i := k) HK.out.2.1
          rw [v1] at c1
          rw [v2] at c2
          have HO := Lib.hid (fun q => HC0.out _ (S1.drewN q).only _ _ (HV1.out i (by have := HIb.out; omega)) (HV1.out k HK.out.2.1))
          have HS1 := Lib.hid S1
          have HV2 := Lib.hid v1
          have HV3 := Lib.hid v2
          clear S1 v1 v2 hk hja
          obtain ⟨r, Hr⟩ : ∃ r, Hid (lessB cf (f1 i) (f1 k) = r) := ⟨_, Lib.hid rfl⟩
          obtain ⟨cz, Hc⟩ : ∃ c, Hid (cf (f1 i) (f1 k) = c) := ⟨_, Lib.hid rfl⟩
          have dc : decide (cz < 0) = r := (by rw [← Hc.out, ← Hr.out, lessB])
          rw [Hc.out] at HO
          cases r
          · go_wp2_with fail
            go_quiet ((go_at_call 26; exact Calls.quiet_of (HO.out _)))
            have HS2 := Lib.hid (HS1.out.drewN nq)
            generalize World.drewN _ nq = w2 at *
            have HX := Lib.hid (H2.out.one_right hT (i := j) HJ.out.1 HJ.out.2 (Or.inr ⟨by have := HK.out; omega, by rw [show j - 1 = k by have := HK.out; omega]; exact Hr.out⟩) H3.out)
            go_wp2_with fail
            go_roundw
            case rel => exact ⟨i1, _, by have := HI1.out; have := HIb.out; omega, Or.inl (by have := HI1.out; have := HIb.out; omega), rfl, by rw [HI1.out]; exact HM.out.more HX.out, HS2.out⟩
            case measure => have := HI1.out; have := HIb.out; simp [intOf]; omega
          · go_wp2_with fail
            go_quiet ((go_at_call 26; exact Calls.quiet_of (HO.out _)))
            have HS2 := HS1.out.drewN nq
            generalize World.drewN _ nq = w2 at *
            have HN := Lib.hid (downTo_next f1 k i HK.out.2.2.2.2)
            rw [← HK.out.1] at HN
            clear c1 c2 HO HS1 HV2 HV3
            generalize downTo f1 j i = f2 at *
            have hne : j ≠ k := by have := HK.out; omega
            have c1 := HS2.cell HK.out.2.2.1
            have c2 := HS2.cell HK.out.2.1
            have c3 := HS2.other hne HK.out.2.1 (.int .i64 (f2 k : Int))
            have y1 := HS2.frozen j
            have y2 := HS2.frozen k
            have HS3 := Lib.hid (HS2.swap j k).drew
            clear HS2 hne
            go_wp2_with fail
            go_region
            clear c1 c2 c3 y1 y2
            generalize World.drew _ = w3 at *
            go_wp2_with fail
            go_roundw
            case rel => exact ⟨k, HK.out.2.2.2.1, by have := HK.out; omega, rfl, Or.inr Hr.out, by rw [← HN.out]; exact HS3.out⟩
            case measure => have := HK.out; simp [intOf]; omega
        · have d1 : decide (a < j) = false := by simpa using hja
          have HX := Lib.hid (H2.out.one_right hT (i := j) HJ.out.1 HJ.out.2 (Or.inl (by have := HJ.out; omega)) H3.out)
          have HS1 := Lib.hid S1
          clear S1 hja
          go_wp2_with fail
          go_quiet (fail)
          have HS2 := Lib.hid (HS1.out.drewN nq)
          generalize World.drewN _ nq = w2 at *
          go_wp2_with fail
          go_roundw
          case rel => exact ⟨i1, _, by have := HI1.out; have := HIb.out; omega, Or.inl (by have := HI1.out; have := HIb.out; omega), rfl, by rw [HI1.out]; exact HM.out.more HX.out, HS2.out⟩
          case measure => have := HI1.out; have := HIb.out; simp [intOf]; omega
    · have d0 : decide (i < b) = false := by simpa using hlt
      have HX : Hid (Merged T f f1 a b) := Lib.hid (by
        have x1 := HI.out
        have x2 := HB.out
        have x3 := HM.out
        rcases x1.2 with h | h
        · rw [show b = i by omega]; exact x3
        · subst h
          exact ⟨x3.srt.part (Nat.le_refl _) (by omega), fun k k1 k2 => by
            obtain ⟨j, j1, j2, e⟩ := x3.into k k1 (by omega)
            exact ⟨j, j1, by omega, e⟩, fun k hk => by
            by_cases hka : k < a ∨ a + 1 ≤ k
            · exact x3.out k hka
            · obtain ⟨j, j1, j2, e⟩ := x3.into k (by omega) (by omega)
              rw [e]; congr 1; omega⟩)
      clear hlt
      go_wp2_with fail
      go_end0
      exact ⟨rfl, f1, HX.out, HS0.out⟩

theorem done_all {T : Nat → Nat → Prop} {f : Nat → Nat} {n d : Nat} (h : Done T f n d) (hd : n ≤ d) : Srt T f 0 n := by
  rcases Nat.eq_zero_or_pos n with h0 | h0
  · exact Srt.none (by omega)
  · have h1 := h 0 (Nat.dvd_zero d) h0
    rw [show min (0 + d) n = n by omega] at h1
    exact h1.srt

set_option maxHeartbeats 4000000 in
set_option maxRecDepth 1000000 in
theorem stable_any (w0 : World) (g : Nat) (t : TypeId) (n cap : Nat) (cv : Value) (cf : Nat → Nat → Int) (T : Nat → Nat → Prop) (HC : CmpC w0 g n cv cf) (hT : Tells T (lessB cf)) (hn : n < 1152921504606846976)
    (w : World) (S : SF w0 g t n (fun k => k) w) :
    Calls Try.prog 38 #[.slice (some ⟨g, 0, none⟩) n cap, .int .i64 n, .func (.func 26) #[] #[cv]] w fun e w' => e = .returned (.tuple #[]) ∧ ∃ f', Srt T f' 0 n ∧ (∀ k, k < n → f' k < n) ∧ SF w0 g t n f' w' := by
  have S0 := Lib.hid S
  have Hn := Lib.hid hn
  have HIns := Lib.hid (insertion_any w0 g t n cap cv cf T HC hT (by omega))
  have HMrg := Lib.hid (symMerge_any w0 g t n cap cv cf T HC hT (by omega))
  clear S HC hT hn
  go_enter Try.func38, Try.ntmps38
  go_wp2_with fail
  go_loopw [7, 8] (fun u v wr => ∃ (a b : Nat) (f : Nat → Nat), 20 ∣ a ∧ a ≤ n ∧ b = a + 20 ∧ u = .int .i64 a ∧ v = .int .i64 b ∧ InsI T f a ∧ (∀ k, k < n → f k < n) ∧ SF w0 g t n f wr) (fun u _ _ => n - (intOf u).toNat)
  case atStart => exact ⟨0, 20, fun k => k, Nat.dvd_zero 20, Nat.zero_le _, rfl, rfl, rfl, ⟨fun s _ h => absurd h (Nat.not_lt_zero s), fun _ _ => rfl⟩, fun _ h => h, S0.out⟩
  case round =>
    obtain ⟨a, b, f, h1, h2, h3, rfl, rfl, h4, h5, h6⟩ := hrel
    have HA := Lib.hid (show 20 ∣ a ∧ a ≤ n ∧ b = a + 20 from ⟨h1, h2, h3⟩)
    have HI := Lib.hid h4
    have HV := Lib.hid h5
    have HS := Lib.hid h6
    clear h1 h2 h3 h4 h5 h6
    have HL := Lib.hid (fun (p q : Nat) (p1 : a ≤ p) (p2 : p < q) => show f p < f q by rw [HI.out.rest p p1, HI.out.rest q (by omega)]; exact p2)
    by_cases hlt : b ≤ n
    · have d0 : decide (b ≤ n) = true := by simpa using hlt
      obtain ⟨b2, hb2⟩ : ∃ b2, b2 = b + 20 := ⟨_, rfl⟩
      have q1 : IntKind.i64.wrap ((b : Int) + 20) = b2 := by have := Hn.out; rw [IntKind.wrap_i64]; omega
      have HRd := Lib.hid (HIns.out f a b (by have := HA.out; omega) hlt HV.out (fun p q p1 p2 _ => HL.out p q p1 p2) _ HS.out)
      have HB := Lib.hid (show b ≤ n ∧ b2 = b + 20 from ⟨hlt, hb2⟩)
      clear hlt hb2
      go_wp2_with (go_at_call 43; refine HRd.out.mono ?_; rintro _ w2 ⟨rfl, f2, M2, S2⟩)
      have HM2 := Lib.hid M2
      have HS2 := Lib.hid S2
      clear M2 S2
      go_roundw
      case rel =>
        have x := HA.out
        have y := HB.out
        have hm := HM2.out
        rw [x.2.2] at hm
        exact ⟨b, b2, f2, by rw [x.2.2]; exact Nat.dvd_add x.1 (Nat.dvd_refl 20), y.1, y.2, rfl, rfl, by rw [x.2.2]; exact HI.out.step x.1 hm, HM2.out.below y.1 HV.out, HS2.out⟩
      case measure => have := HA.out; have := HB.out; simp [intOf]; omega
    · have d0 : decide (b ≤ n) = false := by simpa using hlt
      have HRd := Lib.hid (HIns.out f a n HA.out.2.1 (Nat.le_refl _) HV.out (fun p q p1 p2 _ => HL.out p q p1 p2) _ HS.out)
      have HB := Lib.hid (show n < a + 20 by have := HA.out; omega)
      clear hlt
      go_wp2_with (go_at_call 43; refine HRd.out.mono ?_; rintro _ w2 ⟨rfl, f2, M2, S2⟩)
      have HD2 := Lib.hid (HI.out.end_ HA.out.1 HA.out.2.1 HB.out M2)
      have HV2 := Lib.hid (M2.below (Nat.le_refl n) HV.out)
      have HS2 := Lib.hid S2
      clear M2 S2 HRd HI HV HS HL HB d0
      go_loopw [6] (fun u wr => ∃ (d : Nat) (f : Nat → Nat), 0 < d ∧ (d = 20 ∨ d < 2 * n) ∧ u = .int .i64 d ∧ Done T f n d ∧ (∀ k, k < n → f k < n) ∧ SF w0 g t n f wr) (fun u _ => n - (intOf u).toNat)
      case atStart => exact ⟨20, f2, by decide, Or.inl rfl, rfl, HD2.out, HV2.out, HS2.out⟩
      case round =>
        clear HD2 HV2 HS2
        obtain ⟨d, f3, h1, h2, rfl, h4, h5, h6⟩ := hrel
        have HD := Lib.hid (show 0 < d ∧ (d = 20 ∨ d < 2 * n) from ⟨h1, h2⟩)
        have HI := Lib.hid h4
        have HV := Lib.hid h5
        have HS := Lib.hid h6
        clear h1 h2 h4 h5 h6
        by_cases hlt : d < n
        · have d1 : decide (d < n) = true := by simpa using hlt
          obtain ⟨e, he⟩ : ∃ e, e = 2 * d := ⟨_, rfl⟩
          have q2 : IntKind.i64.wrap (2 * (d : Int)) = e := by have := Hn.out; rw [IntKind.wrap_i64]; omega
          have q3 : IntKind.i64.wrap ((d : Int) * 2) = e := by have := Hn.out; rw [IntKind.wrap_i64]; omega
          have HE := Lib.hid (show e = 2 * d ∧ d < n from ⟨he, hlt⟩)
          clear hlt he
          go_wp2_with fail
          go_loopw [7, 8] (fun u v wr => ∃ (a b : Nat) (f : Nat → Nat), e ∣ a ∧ a ≤ n ∧ b = a + e ∧ u = .int .i64 a ∧ v = .int .i64 b ∧ MrgI T f n d a ∧ (∀ k, k < n → f k < n) ∧ SF w0 g t n f wr) (fun u _ _ => n - (intOf u).toNat)
          case atStart => exact ⟨0, e, f3, Nat.dvd_zero e, Nat.zero_le _, by omega, rfl, rfl, MrgI.start HI.out, HV.out, HS.out⟩
          case round =>
            clear HI HV HS
            obtain ⟨a2, b2, f4, h1, h2, h3, rfl, rfl, h4, h5, h6⟩ := hrel
            have HA2 := Lib.hid (show e ∣ a2 ∧ a2 ≤ n ∧ b2 = a2 + e from ⟨h1, h2, h3⟩)
            have HI := Lib.hid h4
            have HV := Lib.hid h5
            have HS := Lib.hid h6
            clear h1 h2 h3 h4 h5 h6
            obtain ⟨m, hm⟩ : ∃ m, m = a2 + d := ⟨_, rfl⟩
            have q4 : IntKind.i64.wrap ((a2 : Int) + d) = m := by have := Hn.out; have := HA2.out; have := HE.out; rw [IntKind.wrap_i64]; omega
            have HDv := Lib.hid (show 2 * d ∣ a2 by rw [← HE.out.1]; exact HA2.out.1)
            by_cases hlt : b2 ≤ n
            · have d2 : decide (b2 ≤ n) = true := by simpa using hlt
              obtain ⟨b3, hb3⟩ : ∃ b3, b3 = b2 + e := ⟨_, rfl⟩
              have q5 : IntKind.i64.wrap ((b2 : Int) + e) = b3 := by have := Hn.out; have := HE.out; rw [IntKind.wrap_i64]; omega
              have x1 := HA2.out
              have x2 := HE.out
              have x3 := HD.out
              have hp := HI.out.pair x3.1 HDv.out (by omega)
              rw [show min (a2 + 2 * d) n = b2 by omega, ← hm] at hp
              have HRd := Lib.hid (HMrg.out (b2 - a2) f4 a2 m b2 (Nat.le_refl _) (by omega) (by omega) hlt HV.out (Blo.two hp.1 hp.2) _ HS.out)
              have HB := Lib.hid (show b2 ≤ n ∧ b3 = b2 + e ∧ b2 = a2 + 2 * d ∧ 0 < d by omega)
              clear hlt hb3 hm hp x1 x2 x3
              go_wp2_with (go_at_call 44; refine HRd.out.mono ?_; rintro _ w3 ⟨rfl, f5, M5, S5⟩)
              have HM5 := Lib.hid M5
              have HS5 := Lib.hid S5
              clear M5 S5
              go_roundw
              case rel =>
                have x := HA2.out
                have y := HB.out
                have hm := HM5.out
                rw [y.2.2.1] at hm
                exact ⟨b2, b3, f5, by rw [x.2.2]; exact Nat.dvd_add x.1 (Nat.dvd_refl e), y.1, y.2.1, rfl, rfl, by rw [y.2.2.1]; exact HI.out.step y.2.2.2 HDv.out (by omega) hm, HM5.out.below y.1 HV.out, HS5.out⟩
              case measure => have := HA2.out; have := HB.out; simp [intOf]; omega
            · have d2 : decide (b2 ≤ n) = false := by simpa using hlt
              have HB := Lib.hid (show n < a2 + 2 * d ∧ 0 < d ∧ m = a2 + d ∧ 2 * d < 2 * n by have := HA2.out; have := HE.out; have := HD.out; omega)
              clear hlt hm
              by_cases hmn : m < n
              · have d3 : decide (m < n) = true := by simpa using hmn
                have x1 := HB.out
                have hp := HI.out.pair x1.2.1 HDv.out (by omega)
                rw [show min (a2 + 2 * d) n = n by omega, ← x1.2.2.1] at hp
                have HRd := Lib.hid (HMrg.out (n - a2) f4 a2 m n (Nat.le_refl _) (by omega) hmn (Nat.le_refl _) HV.out (Blo.two hp.1 hp.2) _ HS.out)
                have HmN := Lib.hid hmn
                clear hp x1 hmn
                go_wp2_with (go_at_call 44; refine HRd.out.mono ?_; rintro _ w3 ⟨rfl, f5, M5, S5⟩)
                have HM5 := Lib.hid M5
                have HS5 := Lib.hid S5
                clear M5 S5
                go_roundw
                case rel =>
                  have y := HB.out
                  refine ⟨e, f5, by have := HE.out; omega, Or.inr (by have := HE.out; omega), rfl, ?_, HM5.out.below (Nat.le_refl n) HV.out, HS5.out⟩
                  rw [HE.out.1]
                  exact HI.out.end_ y.2.1 HDv.out HA2.out.2.1 y.1 (Or.inl ⟨by have := HmN.out; omega, HM5.out⟩)
                case measure => have := HE.out; have := HD.out; simp [intOf]; omega
              · have d3 : decide (m < n) = false := by simpa using hmn
                have HmN := Lib.hid (show n ≤ a2 + d by have := HB.out; omega)
                clear hmn
                go_wp2_with fail
                go_roundw
                case rel =>
                  have y := HB.out
                  refine ⟨e, f4, by have := HE.out; omega, Or.inr (by have := HE.out; omega), rfl, ?_, HV.out, HS.out⟩
                  rw [HE.out.1]
                  exact HI.out.end_ y.2.1 HDv.out HA2.out.2.1 y.1 (Or.inr ⟨HmN.out, rfl⟩)
                case measure => have := HE.out; have := HD.out; simp [intOf]; omega
        · have d1 : decide (d < n) = false := by simpa using hlt
          have HF := Lib.hid (done_all HI.out (by omega))
          clear hlt
          go_wp2_with fail
          go_end0
          exact ⟨rfl, f3, HF.out, HV.out, HS.out⟩

theorem sortStable_any (w0 : World) (g : Nat) (t : TypeId) (n cap : Nat) (cv : Value) (cf : Nat → Nat → Int) (T : Nat → Nat → Prop) (HC : CmpC w0 g n cv cf) (hT : Tells T (lessB cf)) (hn : n < 1152921504606846976)
    (w : World) (S : SF w0 g t n (fun k => k) w) :
    Calls Try.prog 25 #[.slice (some ⟨g, 0, none⟩) n cap, .func (.func 26) #[] #[cv]] w fun e w' => e = .returned (.tuple #[]) ∧ ∃ f', Srt T f' 0 n ∧ (∀ k, k < n → f' k < n) ∧ SF w0 g t n f' w' := by
  have HRd := Lib.hid (stable_any w0 g t n cap cv cf T HC hT hn w S)
  clear S HC hT hn
  go_enter Try.func25, Try.ntmps25
  go_wp2_with (go_at_call 38; refine HRd.out.mono ?_; rintro _ w2 ⟨rfl, S2⟩)
  go_end0
  exact ⟨rfl, S2⟩

end Go.Proofs.Ytjceaaononbliaa
