/-
  Contracts of package fread: piece, Read, All.
-/
import Derived.Test.YtkakihbfhmiabaaGreatFrd1
import Derived.Test.YtkakihbfhmiabaaGreatGrAQ
import Derived.Test.YtkakihbfhmiabaaGreatGrAA
import Derived.Test.YtkakihbfhmiabaaGreatGrAS
namespace Go.Proofs.YtkakihbfhmiabaaGreat
open Go.RowKit
set_option maxRecDepth 10000

/-- Bytes of the call's own are what it hands back. -/
def RetO (w : World) (e : TypeId) (l : List UInt8) (x : Ending) (w' : World) : Prop := ∃ v, x = .returned v ∧ OwnB w' w.heap.size e v l ∧ Below w.heap.size w w'
theorem RetO.b {w w' : World} {e : TypeId} {l : List UInt8} {x : Ending} (h : RetO w e l x w') : RetB w l x w' := by
  obtain ⟨v, rfl, ho, hb⟩ := h
  obtain ⟨A, c, rfl, q1, q2, q3⟩ := ho.read
  exact ⟨A, _, c, rfl, rfl, q1, q2, q3, hb⟩
theorem OwnB.lowO {w : World} {B B' : Nat} {e : TypeId} {v : Value} {l : List UInt8} (h : OwnB w B e v l) (hb : B' ≤ B) : OwnB w B' e v l := by
  obtain ⟨hl, h | ⟨g, cap, cur, hv, hbg, h⟩⟩ := h
  · exact ⟨hl, Or.inl h⟩
  · exact ⟨hl, Or.inr ⟨g, cap, cur, hv, Nat.le_trans hb hbg, h⟩⟩

set_option maxHeartbeats 1600000 in
theorem fpiece_any (l : Lay14) (f : Value) (T : Int → List UInt8) (hT : ∀ no, (T no).length = 256) (X : List Int) (hX : X.length = 11) (k : Nat) (hk : k < 134) (pl m : Nat) (hm : 0 < m) (hp : pl + m ≤ 256) (w : World) (hf : FV w l f T) :
    Calls Tryz.prog 135 #[.agg (vval l f), .agg (icells X), .int .i64 (k : Int), .int .i64 (pl : Int), .int .i64 (m : Int)] w (RetB w (segR l T X (256 * k + pl) m)) := by
  have HXL := Lib.hid hX
  have HF := Lib.hid hf
  obtain ⟨R, HR⟩ : ∃ R, Hid (atF l T X k = R) := ⟨_, Lib.hid rfl⟩
  have HA := Lib.hid (fun (w : World) (h : FV w l f T) => show Calls Tryz.prog 156 #[.agg (vval l f), .agg (icells X), .int .i64 (k : Int)] w fun e w' => e = .returned (.int .i64 R) ∧ Below w.heap.size w w' by
    have := fat_any l f T hT X hX (k : Int) (by omega) w h
    rw [atI_nat hk, HR.out] at this
    exact this)
  have HB := Lib.hid (fun (w : World) h => vblock_any l f T hT R w h)
  have HBL := Lib.hid (vBk_len (l := l) hT R)
  have H0 := Lib.hid (fun h : R = 0 => segR_hole (l := l) (T := T) (X := X) (k := k) hp (by rw [HR.out]; exact h))
  have H1 := Lib.hid (fun h : R ≠ 0 => show segR l T X (256 * k + pl) m = ((vBk l T R).drop pl).take m by
    have := segR_block (l := l) (T := T) (X := X) (k := k) hp (by rw [HR.out]; exact h) (by rw [HR.out]; exact HBL.out)
    rw [HR.out] at this
    exact this)
  generalize segR l T X (256 * k + pl) m = Y at *
  generalize vBk l T R = b at *
  clear hX hT hf HR
  go_enter Tryz.func135, Tryz.ntmps135
  go_wp2_with (refine wpList_box_row rfl _ _ rfl _ rfl ?_)
  apply Stop.go; intro w1 Hg1 Hb1
  go_wp2_with (refine wpList_box_row rfl _ _ rfl _ rfl ?_)
  apply Stop.go; intro w2 Hg2 Hb2
  have HV2 := Lib.hid (Hb1.out.ext Hg2.out.1)
  have E2 := Lib.hid (bt Hg1.out.1 Hg2.out.1)
  have HF2 := Lib.hid (HF.out.below E2.out)
  generalize w1.heap.size = g1 at *
  clear Hg1 Hb1 Hg2 HF
  go_wp2_with (first | refine wpList_load_blk rfl _ _ rfl _ rfl _ _ HV2.out _ Tryz.underlying44 rfl Tryz.viewSize ?_ | refine wpList_load_blk rfl _ _ rfl _ rfl _ _ Hb2.out _ Tryz.underlying59 rfl (Tryz.inoFits HXL.out) ?_)
  refine (HA.out _ HF2.out).mono ?_; rintro e w3 ⟨rfl, hb3⟩
  have HV3 := Lib.hid (HV2.out.ext hb3)
  have HF3 := Lib.hid (HF2.out.below hb3)
  have E3 := Lib.hid (bt E2.out hb3)
  clear hb3 HA HV2 HF2 Hb2 E2
  by_cases hR : R = 0
  · have HY := Lib.hid (H0.out hR)
    subst hR
    clear H0 H1 HB HBL
    go_wp2_with (refine wpList_make_bytes rfl _ _ _ _ rfl Tryz.underlying26 Tryz.byteInfo _ _ _ _ m rfl rfl rfl rfl (by omega) ?_)
    apply Stop.go; intro w4 Hg4 Hb4
    go_wp2_with fail
    go_ret
    rw [HY.out]
    exact ⟨_, _, _, rfl, zeros_len m, Nat.le_refl _, by unfold maxLen; omega, RB.of_blk0 Hb4.out, bt E3.out Hg4.out.1⟩
  · have HY := Lib.hid (H1.out hR)
    have q1 : (R == 0) = false := by simpa using hR
    have HC := Lib.hid (fun w => show Calls Tryz.prog 81 #[.agg (bcells b), .int .i64 (pl : Int), .int .i64 (m : Int)] w (RetB w Y) by
      have := ncut_any b HBL.out (pl : Int) (m : Int) w
      have e : ncutL b (pl : Int) (m : Int) = (b.drop pl).take m := by unfold ncutL isPlaceB; simp; omega
      rw [e, ← HY.out] at this
      exact this)
    clear H0 H1 hR HY
    go_wp2_with (refine wpList_load_blk rfl _ _ rfl _ rfl _ _ HV3.out _ Tryz.underlying44 rfl Tryz.viewSize ?_)
    refine (HB.out _ HF3.out).mono ?_; rintro e w4 ⟨rfl, hb4⟩
    have E4 := Lib.hid (bt E3.out hb4)
    clear hb4 HV3 HF3 E3 HB
    go_wp2_with fail
    refine (HC.out _).mono ?_; rintro e w5 ⟨A, n, c, rfl, h1, h2, h3, h4, hb5⟩
    go_wp2_with fail
    go_ret
    exact ⟨_, _, _, rfl, h1, h2, h3, h4, bt E4.out hb5⟩

theorem Tryz.spanSize : (Tryz.prog.info? 181).map (·.size) = some 3 := by kernel_rfl
theorem Tryz.spanZero : (Tryz.prog.info? 181).map (·.zero) = some (some (.agg (icells [0, 0, 0]))) := by kernel_rfl
/-- What the k-th piece adds. -/
theorem fpiece_at (l : Lay14) (f : Value) (T : Int → List UInt8) (hT : ∀ no, (T no).length = 256) (X : List Int) (hX : X.length = 11) (o e : Nat) (he : e ≤ 34304) (k : Nat) (hk : k < numS o e) :
    ∃ (a b c : Int) (Y : List UInt8), (irows (spnS o e (numS o e)))[k]? = some [.int .i64 a, .int .i64 b, .int .i64 c] ∧ segR l T X o (posS o e (k + 1) - o) = segR l T X o (posS o e k - o) ++ Y ∧ 0 < Y.length ∧ Y.length ≤ 256 ∧
      ∀ w : World, FV w l f T → Calls Tryz.prog 135 #[.agg (vval l f), .agg (icells X), .int .i64 a, .int .i64 b, .int .i64 c] w (RetB w Y) := by
  have h1 := posS_lt hk
  have h2 := posS_div hk
  have h3 := posS_next hk
  have hoe : o ≤ e := by
    unfold numS at hk
    split at hk <;> omega
  have h4 := posS_ge (k := k) hoe
  have hp := irows_at (spnS_at o e hk)
  unfold pcS at hp
  generalize posS o e k = p at *
  obtain ⟨m, hm⟩ : ∃ m, min (256 - p % 256) (e - p) = m := ⟨_, rfl⟩
  rw [hm] at h3 hp
  refine ⟨_, _, _, segR l T X p m, hp, ?_, by rw [segR_len]; omega, by rw [segR_len]; omega, fun w hf => ?_⟩
  · rw [h3]
    have := segR_add (l := l) (T := T) (X := X) o (p - o) m
    rw [show o + (p - o) = p from by omega] at this
    rw [this, show p + m - o = p - o + m from by omega]
  · have := fpiece_any l f T hT X hX (o / 256 + k) (by omega) (p % 256) m (by omega) (by omega) w hf
    rw [show 256 * (o / 256 + k) + p % 256 = p from by omega] at this
    exact this
set_option maxHeartbeats 3200000 in
theorem freado_any (l : Lay14) (f : Value) (T : Int → List UInt8) (hT : ∀ no, (T no).length = 256) (X : List Int) (hX : X.length = 11) (off n : Int) (ho : off < 9223372036854775808) (hn : -9223372036854775808 ≤ n ∧ n < 9223372036854775808) (w : World) (hf : FV w l f T) :
    Calls Tryz.prog 94 #[.agg (vval l f), .agg (icells X), .int .i64 off, .int .i64 n] w (RetO w 5 (readR l T X off n)) := by
  by_cases h0 : off < 0
  · have hr : readR l T X off n = [] := if_pos h0
    rw [hr]
    go_enter Tryz.func94, Tryz.ntmps94
    go_wp2_with (refine wpList_box_row rfl _ _ rfl _ rfl ?_)
    apply Stop.go; intro w1 Hg1 Hb1
    go_wp2_with (refine wpList_box_row rfl _ _ rfl _ rfl ?_)
    apply Stop.go; intro w2 Hg2 Hb2
    go_wp2_with fail
    go_ret
    exact ⟨_, rfl, OwnB.nil_ _ _ _, bt Hg1.out.1 Hg2.out.1⟩
  · obtain ⟨o, rfl⟩ := Int.eq_ofNat_of_zero_le (show 0 ≤ off by omega)
    have HXL := Lib.hid hX
    have HF := Lib.hid hf
    obtain ⟨S, HS⟩ : ∃ S, Hid (sizeR X = S) := ⟨_, Lib.hid rfl⟩
    have hS : S ≤ 34304 := by rw [← HS.out]; exact sizeR_le X
    have HSz := Lib.hid (fun w => fsize_any X hX w)
    rw [HS.out] at HSz
    obtain ⟨M, hM⟩ : ∃ M : Int, min n ((S : Int) - (o : Int)) = M := ⟨_, rfl⟩
    have hr : readR l T X (o : Int) n = segR l T X o M.toNat := by
      unfold readR
      rw [if_neg h0, HS.out, hM]
      rfl
    rw [hr]
    obtain ⟨e, He⟩ : ∃ e, Hid (((o : Int) + M).toNat = e) := ⟨_, Lib.hid rfl⟩
    have hel : e ≤ 34304 := by have := He.out; omega
    have hsp : spansS (o : Int) M = spnS o e (numS o e) := by
      unfold spansS
      rw [show loS (o : Int) = o from by unfold loS; omega, show (hiS (o : Int) M).toNat = e from by have := He.out; unfold hiS; omega]
    have hN := numS_le (o := o) hel
    have HSp := Lib.hid (fun w => show Calls Tryz.prog 134 #[.int .i64 (o : Int), .int .i64 M] w fun e' w' => ∃ A c, e' = .returned (.slice A (numS o e) c) ∧ RN w' A 3 (irows (spnS o e (numS o e))) ∧ Below w.heap.size w w' by
      have := fspans_any (o : Int) M (by omega) (by omega) w
      rw [hsp] at this
      refine this.mono ?_
      rintro e' w' ⟨v, rfl, hv, hb⟩
      obtain ⟨A, c, rfl, _, _, h⟩ := hv.read
      rw [irows_len, spnS_len]
      exact ⟨A, c, rfl, h, hb⟩)
    have HPc := Lib.hid (fun k (hk : k < numS o e) => fpiece_at l f T hT X hX o e hel k hk)
    have HD0 : Hid (segR l T X o (posS o e 0 - o) = []) := Lib.hid (by
      rw [show posS o e 0 = o from rfl, Nat.sub_self]
      rfl)
    have HDN : Hid (segR l T X o (posS o e (numS o e) - o) = segR l T X o M.toNat) := Lib.hid (by
      have h1 := posS_end (o := o) (e := e)
      congr 1
      by_cases h : o < e
      · have h2 := posS_le (k := numS o e) (Nat.le_of_lt h)
        have := He.out
        omega
      · have h2 : numS o e = 0 := if_neg h
        rw [h2, show posS o e 0 = o from rfl]
        have := He.out
        omega)
    have HDl : Hid (∀ k, k ≤ numS o e → (segR l T X o (posS o e k - o)).length ≤ 34304) := Lib.hid (fun k hk => by
      rw [segR_len]
      by_cases h : o < e
      · have h2 := posS_le (k := k) (Nat.le_of_lt h)
        omega
      · have h2 : numS o e = 0 := if_neg h
        obtain rfl : k = 0 := by omega
        rw [show posS o e 0 = o from rfl]
        omega)
    obtain ⟨D, hD⟩ : ∃ D : Nat → List UInt8, ∀ k, segR l T X o (posS o e k - o) = D k := ⟨_, fun _ => rfl⟩
    simp only [hD] at HPc HD0 HDN HDl
    generalize irows (spnS o e (numS o e)) = RW at *
    generalize numS o e = N at *
    generalize segR l T X o M.toNat = res at *
    have Hn := Lib.hid hn
    have hc : ((S : Int) - (o : Int) < n ∧ (S : Int) - (o : Int) = M) ∨ (n ≤ (S : Int) - (o : Int) ∧ n = M) := by omega
    have hwS : IntKind.i64.wrap ((S : Int) - (o : Int)) = (S : Int) - (o : Int) := IntWalk.i64_in _ (by omega)
    clear hX hT hf hr hel hsp hD hM He HS ho hn
    rcases hc with ⟨c1, rfl⟩ | ⟨c1, rfl⟩
    all_goals
      go_enter Tryz.func94, Tryz.ntmps94
      go_wp2_with (refine wpList_box_row rfl _ _ rfl _ rfl ?_)
      apply Stop.go; intro w1 Hg1 Hb1
      go_wp2_with (refine wpList_box_row rfl _ _ rfl _ rfl ?_)
      apply Stop.go; intro w2 Hg2 Hb2
      have HV2 := Lib.hid (Hb1.out.ext Hg2.out.1)
      have E2 := Lib.hid (bt Hg1.out.1 Hg2.out.1)
      have HF2 := Lib.hid (HF.out.below E2.out)
      generalize w1.heap.size = g1 at *
      clear Hg1 Hb1 Hg2 HF
      go_wp2_with (refine wpList_load_blk rfl _ _ rfl _ rfl _ _ Hb2.out _ Tryz.underlying59 rfl (Tryz.inoFits HXL.out) ?_)
      refine (HSz.out _).mono ?_; rintro e w3 ⟨rfl, hb3⟩
      have HV3 := Lib.hid (HV2.out.ext hb3)
      have HI3 := Lib.hid (Hb2.out.ext hb3)
      have HF3 := Lib.hid (HF2.out.below hb3)
      have E3 := Lib.hid (bt E2.out hb3)
      clear hb3 HSz HV2 HF2 Hb2 E2
      go_wp2_with fail
      refine (HSp.out _).mono ?_; rintro e w4 ⟨A, c, rfl, hr4, hb4⟩
      have HR4 := Lib.hid hr4
      have HV4 := Lib.hid (HV3.out.ext hb4)
      have HI4 := Lib.hid (HI3.out.ext hb4)
      have HF4 := Lib.hid (HF3.out.below hb4)
      have E4 := Lib.hid (bt E3.out hb4)
      clear hr4 hb4 HSp HV3 HI3 HF3 E3 Hn c1 h0 hS hwS
      go_wp2_with fail
      go_loopw [9, 23] (fun u z wr => ∃ k : Nat, k ≤ N ∧ z = .int .i64 k ∧ Hid (Below w4.heap.size w4 wr) ∧ Hid (OwnB wr w4.heap.size 5 u (D k))) (fun _ z _ => N - (intOf z).toNat)
      case atStart => exact ⟨0, Nat.zero_le _, rfl, Lib.hid (Below.refl _ _), Lib.hid (by rw [HD0.out]; exact OwnB.nil_ _ _ _)⟩
      case round =>
        obtain ⟨k, hk, rfl, E, HO⟩ := hrel
        by_cases hlt : k < N
        · obtain ⟨a, b, c', Y, hrw, hDn, hY0, hYl, hpc⟩ := HPc.out k hlt
          obtain ⟨ad, rfl⟩ := HR4.out.adr (List.getElem?_eq_some_iff.1 hrw).1 (by decide)
          have HC := Lib.hid ((HR4.out.below E.out).row hrw rfl)
          have HDn := Lib.hid hDn
          have HY0 := Lib.hid hY0
          have HYl := Lib.hid hYl
          have HPk := Lib.hid hpc
          have HDk := Lib.hid (HDl.out k hk)
          have p0 : (0 : Int) ≤ (k : Int) := by omega
          have p1 : (k : Int) < (N : Int) := by omega
          clear hrw hDn hY0 hYl hpc
          go_wp2_with (first | refine wpList_load_cellsA rfl _ _ rfl (ad.add (k * 3)) rfl _ _ Tryz.underlying181 [.int .i64 a, .int .i64 b, .int .i64 c'] Tryz.spanSize HC.out ?_ | refine wpList_alloc_row rfl _ rfl _ Tryz.spanZero ?_)
          apply Stop.go; intro w7 Hg7 Hb7
          go_wp2_with (refine wpList_store_arr rfl _ _ _ rfl _ #[.int .i64 a, .int .i64 b, .int .i64 c'] rfl rfl _ _ Hb7.out Tryz.spanSize rfl (by simp [Value.oneCell']) ?_)
          apply Stop.go; intro w8 Ho8 Hb8
          have D8 := Lib.hid (bonly Hg7.out.1 Ho8.out (Nat.le_refl _))
          have E8 := Lib.hid (bt E.out D8.out)
          have HO8 := Lib.hid (HO.out.below D8.out)
          have HV8 := Lib.hid (HV4.out.ext E8.out)
          have HI8 := Lib.hid (HI4.out.ext E8.out)
          have HF8 := Lib.hid (HF4.out.below E8.out)
          clear Hg7 Hb7 Ho8 D8 HO E HC
          generalize wr.heap.size = gr at *
          have c0 : w8.cell? ⟨gr, 0, none⟩ = some (.int .i64 a) := Hb8.out.cell 0
          have c1 : w8.cell? ⟨gr, 1, none⟩ = some (.int .i64 b) := Hb8.out.cell 1
          have c2 : w8.cell? ⟨gr, 2, none⟩ = some (.int .i64 c') := Hb8.out.cell 2
          go_wp2_with (first | refine wpList_load_blk rfl _ _ rfl _ rfl _ _ HV8.out _ Tryz.underlying44 rfl Tryz.viewSize ?_ | refine wpList_load_blk rfl _ _ rfl _ rfl _ _ HI8.out _ Tryz.underlying59 rfl (Tryz.inoFits HXL.out) ?_)
          refine (HPk.out _ HF8.out).mono ?_; rintro e w9 ⟨A', n', cc, rfl, hy1, hy2, hy3, hy4, hb9⟩
          have HO9 := Lib.hid (HO8.out.below hb9)
          have E9 := Lib.hid (bt E8.out hb9)
          have HY4 := Lib.hid hy4
          have z9 := Lib.hid E9.out.size
          have hl9 : (D k).length + n' ≤ 140737488355328 := by have := HDk.out; have := HYl.out; omega
          have h09 : 0 < n' := by have := HY0.out; omega
          clear hb9 hy2 hy3 hy4 HO8 E8 HV8 HI8 HF8 Hb8 c0 c1 c2 HPk
          go_wp2_with (at_builtin; refine wpList_append_own_bytes rfl _ _ _ _ rfl Tryz.underlying26 Tryz.byteInfo w4.heap.size _ (D k) rfl HO9.out z9.out _ _ _ Y rfl hy1 HY4.out h09 hl9 ?_)
          apply Stop.go; intro v' wa HOa HBa
          rw [← HDn.out] at HOa
          have Ea := Lib.hid (E9.out.trans HBa.out)
          clear HBa HO9 E9 HY4 z9 hl9 h09 hy1
          go_wp2_with fail
          go_roundw
          case rel => exact ⟨k + 1, by omega, by go_num, Ea, HOa⟩
          case measure => simp [intOf]; omega
        · obtain rfl : k = N := by omega
          have HLw := Lib.hid (HO.out.lowO E4.out.size)
          rw [HDN.out] at HLw
          go_wp2_with fail
          go_ret
          exact ⟨_, rfl, HLw.out, bt E4.out E.out⟩
theorem fread_any (l : Lay14) (f : Value) (T : Int → List UInt8) (hT : ∀ no, (T no).length = 256) (X : List Int) (hX : X.length = 11) (off n : Int) (ho : off < 9223372036854775808) (hn : -9223372036854775808 ≤ n ∧ n < 9223372036854775808) (w : World) (hf : FV w l f T) :
    Calls Tryz.prog 94 #[.agg (vval l f), .agg (icells X), .int .i64 off, .int .i64 n] w (RetB w (readR l T X off n)) := (freado_any l f T hT X hX off n ho hn w hf).mono fun _ _ h => h.b

end Go.Proofs.YtkakihbfhmiabaaGreat
