/-
  The walk of NameOrder.
-/
import Derived.Test.YtfgkbjpiffaeeaaLaw03
import Derived.Test.YtfgkbjpiffaeeaaName3
import Derived.Test.YtfgkbjpiffaeeaaRef02l
namespace Go.Proofs.Ytfgkbjpiffaeeaa
open Go.RowKit

theorem RC.of_blk {w : World} {g : Nat} {t : TypeId} {cs : Array Value} (h : Blk w g t cs) (l : List Value) (hl : cs = l.toArray) : RC w (some ⟨g, 0, none⟩) l := fun k hk => ⟨_, rfl, by
  rw [addr_add0, h.cell, hl]
  simp [hk]⟩

set_option maxHeartbeats 4000000 in
theorem nameOrder_any (a b c : ByteArray) (w : World) :
    Calls Try.prog 6 #[.string a, .string b, .string c] w fun e w' => e = .returned (.bool true) ∧ Below w.heap.size w w' := by
  by_cases h1 : a.size ≤ 300
  case neg =>
    have d1 : decide ((300 : Int) < a.size) = true := by simp; omega
    go_enter Try.func6, Try.ntmps6
    go_wp2_with fail
    refine (works03_any _).mono ?_; rintro e w3 ⟨rfl, hb3⟩
    go_wp2_with fail
    go_ret
    exact ⟨rfl, hb3⟩

  have d1 : decide ((300 : Int) < a.size) = false := by simp; omega
  by_cases h2 : b.size ≤ 300
  case neg =>
    have d2 : decide ((300 : Int) < b.size) = true := by simp; omega
    go_enter Try.func6, Try.ntmps6
    go_wp2_with fail
    refine (works03_any _).mono ?_; rintro e w3 ⟨rfl, hb3⟩
    go_wp2_with fail
    go_ret
    exact ⟨rfl, hb3⟩

  have d2 : decide ((300 : Int) < b.size) = false := by simp; omega
  by_cases h3 : c.size ≤ 300
  case neg =>
    have d3 : decide ((300 : Int) < c.size) = true := by simp; omega
    go_enter Try.func6, Try.ntmps6
    go_wp2_with fail
    refine (works03_any _).mono ?_; rintro e w3 ⟨rfl, hb3⟩
    go_wp2_with fail
    go_ret
    exact ⟨rfl, hb3⟩

  have d3 : decide ((300 : Int) < c.size) = false := by simp; omega
  have Haa := Lib.hid (ltS_irrefl a)
  have hone := ltS_one a b
  have hbe := bytes_eq a b
  have htr : ltS a b = true → ltS b c = true → ltS a c = true := ltS_trans
  have hla3 : (sortS [a, b, c]).length ≤ 3 := sortS_len _
  have hla1 : 1 ≤ (sortS [a, b, c]).length := List.length_pos_iff.2 fun h => by
    have hm := (sortS_mem [a, b, c] a).2 (by simp)
    rw [h] at hm
    cases hm
  obtain ⟨la, hla⟩ : ∃ la, (sortS [a, b, c]).length = la := ⟨_, rfl⟩
  rw [hla] at hla3 hla1
  have HLa := Lib.hid hla
  obtain ⟨r1, hr1⟩ : ∃ r, ltS a b = r := ⟨_, rfl⟩
  obtain ⟨r2, hr2⟩ : ∃ r, ltS b a = r := ⟨_, rfl⟩
  obtain ⟨r3, hr3⟩ : ∃ r, ltS b c = r := ⟨_, rfl⟩
  obtain ⟨r4, hr4⟩ : ∃ r, ltS a c = r := ⟨_, rfl⟩
  obtain ⟨e, he⟩ : ∃ e, decide (a = b) = e := ⟨_, rfl⟩
  rw [hr1, hr2, he] at hone
  rw [he] at hbe
  rw [hr1, hr3, hr4] at htr
  have Hab := Lib.hid hr1
  have Hba := Lib.hid hr2
  have Hbc := Lib.hid hr3
  have Hac := Lib.hid hr4
  clear hla hr1 hr2 hr3 hr4 he
  subst hone
  have hne : ((r1 == r2) != (r1 == r2)) = false := by simp
  cases r1
  · clear htr
    go_enter Try.func6, Try.ntmps6
    go_wp2_with fail
    refine (nless_any a a _).mono ?_; rintro e wx ⟨rfl, rfl⟩
    rw [Haa.out]
    go_wp2_with fail
    refine (nless_any a b _).mono ?_; rintro e wx ⟨rfl, rfl⟩
    rw [Hab.out]
    go_wp2_with fail
    refine (nless_any b a _).mono ?_; rintro e wx ⟨rfl, rfl⟩
    rw [Hba.out]
    go_wp2_with fail
    refine (nless_any a b _).mono ?_; rintro e wx ⟨rfl, rfl⟩
    rw [Hab.out]
    go_wp2_with fail
    have Hg2 := Lib.hid (Grew.alloc w (.cells #[.string a, .string b, .string c] 9))
    have Hl2 := Lib.hid (RC.of_blk (Blk.new w 9 #[.string a, .string b, .string c]) (svals [a, b, c]) rfl)
    generalize w.alloc (.cells #[.string a, .string b, .string c] 9) = w2 at *
    refine (nsort_any _ 3 3 [a, b, c] rfl (by omega) _ Hl2.out).mono ?_; rintro e w3 ⟨u, rfl, hu, hb3⟩
    obtain ⟨Au, cu, rfl, hu1, hu2, hu3⟩ := hu.strs
    rw [HLa.out] at hu1
    rw [HLa.out]
    have Hu3 := Lib.hid hu3
    have Hb3 := Lib.hid (bt Hg2.out.1 hb3)
    clear hu hu3 hb3
    go_wp2_with fail
    go_loopw [8] (fun i wr => ∃ k : Nat, (k + 1 ≤ la ∨ k = 0) ∧ i = .int .i64 ((k : Int) + 1) ∧ ∃ m, wr = w3.drewN m) (fun i _ => la + 1 - (intOf i).toNat)
    case atStart => exact ⟨0, Or.inr rfl, rfl, 0, rfl⟩
    case round =>
      obtain ⟨k, hk, rfl, m, rfl⟩ := hrel
      by_cases hlt : k + 1 < la
      · have hkl : k + 1 < (sortS [a, b, c]).length := by rw [HLa.out]; exact hlt
        have d0 : decide ((k : Int) + 1 < la) = true := by simp; omega
        obtain ⟨ad, rfl, hc⟩ := Hu3.out.str k (by omega)
        obtain ⟨ad', e', hc'⟩ := Hu3.out.str (k + 1) hkl
        injection e' with e'
        subst e'
        have hlt2 : ltS (sortS [a, b, c])[k] (sortS [a, b, c])[k + 1] = true := List.pairwise_iff_getElem.1 (sortS_rises _) k (k + 1) (by omega) hkl (by omega)
        generalize (sortS [a, b, c])[k] = x at *
        generalize (sortS [a, b, c])[k + 1] = y at *
        have hwk : IntKind.i64.wrap (k : Int) = k := IntWalk.i64_in _ (by omega)
        have hkn : k < la := by omega
        have hp0 : 0 ≤ (k : Int) + 1 := by omega
        have hp1 : (k : Int) + 1 < la := by omega
        have hti : ((k : Int) + 1).toNat = k + 1 := by omega
        have hc2 : (w3.drewN m).cell? ⟨ad.block, ad.off + (k + 1), none⟩ = some (.string y) := by simpa [Addr.add] using hc'
        have hc1 : (w3.drewN m).cell? (ad.add k) = some (.string x) := hc
        clear hc' hc
        generalize hw0 : w3.drewN m = w0 at *
        have Hw0 := Lib.hid hw0
        clear hw0
        have HL : Hid (∀ W, Calls Try.prog 12 #[.string x, .string y] W fun e w' => e = .returned (.bool true) ∧ w' = W) := Lib.hid fun W => by
          have h := nless_any x y W
          rw [hlt2] at h
          exact h.mono fun _ _ h => ⟨h.1, h.2.symm⟩
        clear hlt2
        go_wp2_with fail
        go_quiet ((go_at_call 12; exact Calls.quiet_of_same (HL.out _)))
        go_wp2_with fail
        go_roundw
        case rel => exact ⟨k + 1, Or.inl (by omega), by go_num, m + nq, by rw [← Hw0.out, World.drewN_drewN]⟩
        case measure => simp [intOf]; omega
      · have d0 : decide ((k : Int) + 1 < la) = false := by simp; omega
        have dl1 : decide ((1 : Int) ≤ la) = true := by simp; omega
        have dl3 : decide ((la : Int) ≤ 3) = true := by simp; omega
        have D4 := Lib.hid (bdrew w3 m)
        have Hb4 := Lib.hid (bt Hb3.out D4.out)
        have Hu4 := Lib.hid (Hu3.out.below D4.out)
        generalize w3.drewN m = w4 at *
        go_wp2_with fail
        refine (nsort_any Au la cu (sortS [a, b, c]) HLa.out (by omega) _ Hu4.out).mono ?_; rintro e w5 ⟨v, rfl, hv, hb5⟩
        rw [sortS_sort] at hv
        obtain ⟨Av, cv, rfl, hv1, hv2, hv3⟩ := hv.strs
        rw [HLa.out] at hv1
        rw [HLa.out]
        have Hv5 := Lib.hid hv3
        have Hb5 := Lib.hid (bt Hb4.out hb5)
        have Hu5 := Lib.hid (Hu4.out.below hb5)
        clear hv hv3 hb5
        go_wp2_with fail
        refine (rtexts_any Av la cv (sortS [a, b, c]) HLa.out Au la cu (sortS [a, b, c]) HLa.out (by unfold maxLen; omega) (by unfold maxLen; omega) _ Hv5.out Hu5.out).mono ?_; rintro e w6 ⟨rfl, q6, rfl⟩
        rw [decide_eq_true rfl]
        have D6 := Lib.hid (bdrew w5 q6)
        have Hb6 := Lib.hid (bt Hb5.out D6.out)
        generalize w5.drewN q6 = w6 at *
        go_wp2_with fail
        refine (works03_any _).mono ?_; rintro e w7 ⟨rfl, hb7⟩
        have Hb7 := Lib.hid hb7
        clear hb7
        go_wp2_with fail
        go_ret
        exact ⟨rfl, bt Hb6.out Hb7.out⟩
  · cases r3
    · clear htr
      go_enter Try.func6, Try.ntmps6
      go_wp2_with fail
      refine (nless_any a a _).mono ?_; rintro e wx ⟨rfl, rfl⟩
      rw [Haa.out]
      go_wp2_with fail
      refine (nless_any a b _).mono ?_; rintro e wx ⟨rfl, rfl⟩
      rw [Hab.out]
      go_wp2_with fail
      refine (nless_any b a _).mono ?_; rintro e wx ⟨rfl, rfl⟩
      rw [Hba.out]
      go_wp2_with fail
      refine (nless_any a b _).mono ?_; rintro e wx ⟨rfl, rfl⟩
      rw [Hab.out]
      go_wp2_with fail
      refine (nless_any b c _).mono ?_; rintro e wx ⟨rfl, rfl⟩
      rw [Hbc.out]
      go_wp2_with fail
      have Hg2 := Lib.hid (Grew.alloc w (.cells #[.string a, .string b, .string c] 9))
      have Hl2 := Lib.hid (RC.of_blk (Blk.new w 9 #[.string a, .string b, .string c]) (svals [a, b, c]) rfl)
      generalize w.alloc (.cells #[.string a, .string b, .string c] 9) = w2 at *
      refine (nsort_any _ 3 3 [a, b, c] rfl (by omega) _ Hl2.out).mono ?_; rintro e w3 ⟨u, rfl, hu, hb3⟩
      obtain ⟨Au, cu, rfl, hu1, hu2, hu3⟩ := hu.strs
      rw [HLa.out] at hu1
      rw [HLa.out]
      have Hu3 := Lib.hid hu3
      have Hb3 := Lib.hid (bt Hg2.out.1 hb3)
      clear hu hu3 hb3
      go_wp2_with fail
      go_loopw [8] (fun i wr => ∃ k : Nat, (k + 1 ≤ la ∨ k = 0) ∧ i = .int .i64 ((k : Int) + 1) ∧ ∃ m, wr = w3.drewN m) (fun i _ => la + 1 - (intOf i).toNat)
      case atStart => exact ⟨0, Or.inr rfl, rfl, 0, rfl⟩
      case round =>
        obtain ⟨k, hk, rfl, m, rfl⟩ := hrel
        by_cases hlt : k + 1 < la
        · have hkl : k + 1 < (sortS [a, b, c]).length := by rw [HLa.out]; exact hlt
          have d0 : decide ((k : Int) + 1 < la) = true := by simp; omega
          obtain ⟨ad, rfl, hc⟩ := Hu3.out.str k (by omega)
          obtain ⟨ad', e', hc'⟩ := Hu3.out.str (k + 1) hkl
          injection e' with e'
          subst e'
          have hlt2 : ltS (sortS [a, b, c])[k] (sortS [a, b, c])[k + 1] = true := List.pairwise_iff_getElem.1 (sortS_rises _) k (k + 1) (by omega) hkl (by omega)
          generalize (sortS [a, b, c])[k] = x at *
          generalize (sortS [a, b, c])[k + 1] = y at *
          have hwk : IntKind.i64.wrap (k : Int) = k := IntWalk.i64_in _ (by omega)
          have hkn : k < la := by omega
          have hp0 : 0 ≤ (k : Int) + 1 := by omega
          have hp1 : (k : Int) + 1 < la := by omega
          have hti : ((k : Int) + 1).toNat = k + 1 := by omega
          have hc2 : (w3.drewN m).cell? ⟨ad.block, ad.off + (k + 1), none⟩ = some (.string y) := by simpa [Addr.add] using hc'
          have hc1 : (w3.drewN m).cell? (ad.add k) = some (.string x) := hc
          clear hc' hc
          generalize hw0 : w3.drewN m = w0 at *
          have Hw0 := Lib.hid hw0
          clear hw0
          have HL : Hid (∀ W, Calls Try.prog 12 #[.string x, .string y] W fun e w' => e = .returned (.bool true) ∧ w' = W) := Lib.hid fun W => by
            have h := nless_any x y W
            rw [hlt2] at h
            exact h.mono fun _ _ h => ⟨h.1, h.2.symm⟩
          clear hlt2
          go_wp2_with fail
          go_quiet ((go_at_call 12; exact Calls.quiet_of_same (HL.out _)))
          go_wp2_with fail
          go_roundw
          case rel => exact ⟨k + 1, Or.inl (by omega), by go_num, m + nq, by rw [← Hw0.out, World.drewN_drewN]⟩
          case measure => simp [intOf]; omega
        · have d0 : decide ((k : Int) + 1 < la) = false := by simp; omega
          have dl1 : decide ((1 : Int) ≤ la) = true := by simp; omega
          have dl3 : decide ((la : Int) ≤ 3) = true := by simp; omega
          have D4 := Lib.hid (bdrew w3 m)
          have Hb4 := Lib.hid (bt Hb3.out D4.out)
          have Hu4 := Lib.hid (Hu3.out.below D4.out)
          generalize w3.drewN m = w4 at *
          go_wp2_with fail
          refine (nsort_any Au la cu (sortS [a, b, c]) HLa.out (by omega) _ Hu4.out).mono ?_; rintro e w5 ⟨v, rfl, hv, hb5⟩
          rw [sortS_sort] at hv
          obtain ⟨Av, cv, rfl, hv1, hv2, hv3⟩ := hv.strs
          rw [HLa.out] at hv1
          rw [HLa.out]
          have Hv5 := Lib.hid hv3
          have Hb5 := Lib.hid (bt Hb4.out hb5)
          have Hu5 := Lib.hid (Hu4.out.below hb5)
          clear hv hv3 hb5
          go_wp2_with fail
          refine (rtexts_any Av la cv (sortS [a, b, c]) HLa.out Au la cu (sortS [a, b, c]) HLa.out (by unfold maxLen; omega) (by unfold maxLen; omega) _ Hv5.out Hu5.out).mono ?_; rintro e w6 ⟨rfl, q6, rfl⟩
          rw [decide_eq_true rfl]
          have D6 := Lib.hid (bdrew w5 q6)
          have Hb6 := Lib.hid (bt Hb5.out D6.out)
          generalize w5.drewN q6 = w6 at *
          go_wp2_with fail
          refine (works03_any _).mono ?_; rintro e w7 ⟨rfl, hb7⟩
          have Hb7 := Lib.hid hb7
          clear hb7
          go_wp2_with fail
          go_ret
          exact ⟨rfl, bt Hb6.out Hb7.out⟩
    · obtain rfl := htr rfl rfl
      clear htr
      go_enter Try.func6, Try.ntmps6
      go_wp2_with fail
      refine (nless_any a a _).mono ?_; rintro e wx ⟨rfl, rfl⟩
      rw [Haa.out]
      go_wp2_with fail
      refine (nless_any a b _).mono ?_; rintro e wx ⟨rfl, rfl⟩
      rw [Hab.out]
      go_wp2_with fail
      refine (nless_any b a _).mono ?_; rintro e wx ⟨rfl, rfl⟩
      rw [Hba.out]
      go_wp2_with fail
      refine (nless_any a b _).mono ?_; rintro e wx ⟨rfl, rfl⟩
      rw [Hab.out]
      go_wp2_with fail
      refine (nless_any b c _).mono ?_; rintro e wx ⟨rfl, rfl⟩
      rw [Hbc.out]
      go_wp2_with fail
      refine (nless_any a c _).mono ?_; rintro e wx ⟨rfl, rfl⟩
      rw [Hac.out]
      go_wp2_with fail
      have Hg2 := Lib.hid (Grew.alloc w (.cells #[.string a, .string b, .string c] 9))
      have Hl2 := Lib.hid (RC.of_blk (Blk.new w 9 #[.string a, .string b, .string c]) (svals [a, b, c]) rfl)
      generalize w.alloc (.cells #[.string a, .string b, .string c] 9) = w2 at *
      refine (nsort_any _ 3 3 [a, b, c] rfl (by omega) _ Hl2.out).mono ?_; rintro e w3 ⟨u, rfl, hu, hb3⟩
      obtain ⟨Au, cu, rfl, hu1, hu2, hu3⟩ := hu.strs
      rw [HLa.out] at hu1
      rw [HLa.out]
      have Hu3 := Lib.hid hu3
      have Hb3 := Lib.hid (bt Hg2.out.1 hb3)
      clear hu hu3 hb3
      go_wp2_with fail
      go_loopw [8] (fun i wr => ∃ k : Nat, (k + 1 ≤ la ∨ k = 0) ∧ i = .int .i64 ((k : Int) + 1) ∧ ∃ m, wr = w3.drewN m) (fun i _ => la + 1 - (intOf i).toNat)
      case atStart => exact ⟨0, Or.inr rfl, rfl, 0, rfl⟩
      case round =>
        obtain ⟨k, hk, rfl, m, rfl⟩ := hrel
        by_cases hlt : k + 1 < la
        · have hkl : k + 1 < (sortS [a, b, c]).length := by rw [HLa.out]; exact hlt
          have d0 : decide ((k : Int) + 1 < la) = true := by simp; omega
          obtain ⟨ad, rfl, hc⟩ := Hu3.out.str k (by omega)
          obtain ⟨ad', e', hc'⟩ := Hu3.out.str (k + 1) hkl
          injection e' with e'
          subst e'
          have hlt2 : ltS (sortS [a, b, c])[k] (sortS [a, b, c])[k + 1] = true := List.pairwise_iff_getElem.1 (sortS_rises _) k (k + 1) (by omega) hkl (by omega)
          generalize (sortS [a, b, c])[k] = x at *
          generalize (sortS [a, b, c])[k + 1] = y at *
          have hwk : IntKind.i64.wrap (k : Int) = k := IntWalk.i64_in _ (by omega)
          have hkn : k < la := by omega
          have hp0 : 0 ≤ (k : Int) + 1 := by omega
          have hp1 : (k : Int) + 1 < la := by omega
          have hti : ((k : Int) + 1).toNat = k + 1 := by omega
          have hc2 : (w3.drewN m).cell? ⟨ad.block, ad.off + (k + 1), none⟩ = some (.string y) := by simpa [Addr.add] using hc'
          have hc1 : (w3.drewN m).cell? (ad.add k) = some (.string x) := hc
          clear hc' hc
          generalize hw0 : w3.drewN m = w0 at *
          have Hw0 := Lib.hid hw0
          clear hw0
          have HL : Hid (∀ W, Calls Try.prog 12 #[.string x, .string y] W fun e w' => e = .returned (.bool true) ∧ w' = W) := Lib.hid fun W => by
            have h := nless_any x y W
            rw [hlt2] at h
            exact h.mono fun _ _ h => ⟨h.1, h.2.symm⟩
          clear hlt2
          go_wp2_with fail
          go_quiet ((go_at_call 12; exact Calls.quiet_of_same (HL.out _)))
          go_wp2_with fail
          go_roundw
          case rel => exact ⟨k + 1, Or.inl (by omega), by go_num, m + nq, by rw [← Hw0.out, World.drewN_drewN]⟩
          case measure => simp [intOf]; omega
        · have d0 : decide ((k : Int) + 1 < la) = false := by simp; omega
          have dl1 : decide ((1 : Int) ≤ la) = true := by simp; omega
          have dl3 : decide ((la : Int) ≤ 3) = true := by simp; omega
          have D4 := Lib.hid (bdrew w3 m)
          have Hb4 := Lib.hid (bt Hb3.out D4.out)
          have Hu4 := Lib.hid (Hu3.out.below D4.out)
          generalize w3.drewN m = w4 at *
          go_wp2_with fail
          refine (nsort_any Au la cu (sortS [a, b, c]) HLa.out (by omega) _ Hu4.out).mono ?_; rintro e w5 ⟨v, rfl, hv, hb5⟩
          rw [sortS_sort] at hv
          obtain ⟨Av, cv, rfl, hv1, hv2, hv3⟩ := hv.strs
          rw [HLa.out] at hv1
          rw [HLa.out]
          have Hv5 := Lib.hid hv3
          have Hb5 := Lib.hid (bt Hb4.out hb5)
          have Hu5 := Lib.hid (Hu4.out.below hb5)
          clear hv hv3 hb5
          go_wp2_with fail
          refine (rtexts_any Av la cv (sortS [a, b, c]) HLa.out Au la cu (sortS [a, b, c]) HLa.out (by unfold maxLen; omega) (by unfold maxLen; omega) _ Hv5.out Hu5.out).mono ?_; rintro e w6 ⟨rfl, q6, rfl⟩
          rw [decide_eq_true rfl]
          have D6 := Lib.hid (bdrew w5 q6)
          have Hb6 := Lib.hid (bt Hb5.out D6.out)
          generalize w5.drewN q6 = w6 at *
          go_wp2_with fail
          refine (works03_any _).mono ?_; rintro e w7 ⟨rfl, hb7⟩
          have Hb7 := Lib.hid hb7
          clear hb7
          go_wp2_with fail
          go_ret
          exact ⟨rfl, bt Hb6.out Hb7.out⟩

end Go.Proofs.Ytfgkbjpiffaeeaa
