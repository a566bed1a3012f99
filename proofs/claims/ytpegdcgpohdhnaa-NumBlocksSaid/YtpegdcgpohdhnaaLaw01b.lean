/-
  Whatever the arguments of NumBack are, it answers true and leaves them. No condition.
-/
import Derived.Test.YtpegdcgpohdhnaaLaw01
import Derived.Test.YtpegdcgpohdhnaaRow
namespace Go.Proofs.Ytpegdcgpohdhnaa
open Go.ChangeShapes Go.WideShapes Go.ChangeAt Go.RowKit

theorem Try.arr256Size : (Try.prog.info? 32).map (·.size) = some 256 := by kernel_rfl
theorem Try.arr256Fits {l : List UInt8} (h : l.length = 256) : (Try.prog.info? 32).map (·.size) = some (bcells l).size := by rw [bcells_size, h]; exact Try.arr256Size
theorem leVal_leBytes (n v : Nat) (h : v < 2 ^ (8 * n)) : leVal (leBytes n v) = v := by
  induction n generalizing v with
  | zero => simp at h; simp [leBytes, leVal, h]
  | succ n ih =>
    have e : 2 ^ (8 * (n + 1)) = 256 * 2 ^ (8 * n) := by rw [Nat.mul_add, Nat.pow_add]; omega
    rw [leBytes, leVal, ih _ (by omega)]
    simp
    omega
theorem splice_cut (L : List UInt8) (o : Nat) (d : List UInt8) (h : o + d.length ≤ L.length) : ((splice L o d).drop o).take d.length = d := by
  apply List.ext_getElem?
  intro i
  rw [List.getElem?_take]
  by_cases hi : i < d.length
  · rw [if_pos hi, List.getElem?_drop, splice_get _ _ _ h, if_pos (by omega)]
    congr 1; omega
  · rw [if_neg hi, List.getElem?_eq_none (by omega)]
theorem getN_withL (L : List UInt8) (hL : L.length = 256) (p W N : Nat) (h1 : 1 ≤ W) (h4 : W ≤ 4) (hp : p + W ≤ 256) (hN : N < 2 ^ (8 * W)) : getN (withL L p W N) p W 4 = N := by
  have hf : fitsB (L.length : Int) p W 4 = true := by unfold fitsB; simp; omega
  have hf2 : fitsB ((withL L p W N).length : Int) p W 4 = true := by rw [withL_len]; exact hf
  have e1 : withL L p W N = splice L p (leBytes W N) := by unfold withL; rw [if_pos hf]; simp
  unfold getN
  rw [if_pos hf2, e1]
  have := splice_cut L p (leBytes W N) (by rw [leBytes_len]; omega)
  rw [leBytes_len] at this
  simp only [Int.toNat_natCast]
  rw [this, leVal_leBytes _ _ hN]
theorem withL_else (L : List UInt8) (hL : L.length = 256) (p W N : Nat) (h1 : 1 ≤ W) (h4 : W ≤ 4) (hp : p + W ≤ 256) (k : Nat) (hk : k < p ∨ p + W ≤ k) : (withL L p W N)[k]? = L[k]? := by
  have hf : fitsB (L.length : Int) p W 4 = true := by unfold fitsB; simp; omega
  unfold withL
  rw [if_pos hf, splice_get _ _ _ (by rw [leBytes_len]; simp; omega), leBytes_len]
  simp only [Int.toNat_natCast]
  rw [if_neg (by omega)]

set_option maxHeartbeats 1000000 in
theorem numBack_any (L : List UInt8) (hL : L.length = 256) (a0 a1 : Nat) (ha0 : a0 < 256) (ha1 : a1 < 256) (v : Nat) (hv : v < 4294967296) (w : World) :
    Calls Try.prog 5 #[.agg (bcells L), .agg #[.int .u8 a0, .int .u8 a1], .int .u32 v] w fun e w' => e = .returned (.bool true) ∧ Below w.heap.size w w' := by
  have HL := Lib.hid hL
  obtain ⟨W, hW⟩ : ∃ W : Nat, 1 + (a1 : Int) % 4 = W := ⟨1 + a1 % 4, by omega⟩
  have hW1 : 1 ≤ W := by omega
  have hW2 : W ≤ 4 := by omega
  obtain ⟨p, hp⟩ : ∃ p : Nat, (a0 : Int) % (257 - W) = p := ⟨a0 % (257 - W), by rw [show (257 : Int) - W = ((257 - W : Nat) : Int) from by omega]; rfl⟩
  have hp1 : p + W ≤ 256 := by
    have := Int.emod_lt_of_pos (a0 : Int) (show (0 : Int) < 257 - W by omega)
    omega
  obtain ⟨M, hM, hM1, hM2⟩ : ∃ M : Nat, (W < 4 → wrap64 ((2 : Int) ^ (8 * W)) = M) ∧ M = 2 ^ (8 * W) ∧ 256 ≤ M := by
    rcases (show W = 1 ∨ W = 2 ∨ W = 3 ∨ W = 4 by omega) with rfl | rfl | rfl | rfl
    · exact ⟨256, fun _ => by rw [IntWalk.wrap64_in _ ⟨by decide, by decide⟩]; rfl, by decide, by omega⟩
    · exact ⟨65536, fun _ => by rw [IntWalk.wrap64_in _ ⟨by decide, by decide⟩]; rfl, by decide, by omega⟩
    · exact ⟨16777216, fun _ => by rw [IntWalk.wrap64_in _ ⟨by decide, by decide⟩]; rfl, by decide, by omega⟩
    · exact ⟨4294967296, fun h => by omega, by decide, by omega⟩
  obtain ⟨N, hN, hN0, hN1⟩ : ∃ N : Nat, (W < 4 → (v : Int) % M = N) ∧ (W = 4 → v = N) ∧ N < M := by
    by_cases h4 : W < 4
    · exact ⟨v % M, fun _ => rfl, fun h => by omega, Nat.mod_lt _ (by omega)⟩
    · obtain rfl : W = 4 := by omega
      exact ⟨v, fun h => by omega, fun _ => rfl, by rw [hM1]; omega⟩
  have hN2 : N < 4294967296 := by
    have : 2 ^ (8 * W) ≤ 2 ^ 32 := Nat.pow_le_pow_right (by omega) (by omega)
    omega
  have HM1 := Lib.hid hM1
  have Hg := Lib.hid (getN_withL L hL p W N hW1 hW2 hp1 (by rw [← hM1]; exact hN1))
  have He := Lib.hid (withL_else L hL p W N hW1 hW2 hp1)
  have HL3 : Hid ((withL L p W N).length = 256) := Lib.hid (by rw [withL_len]; exact hL)
  clear hL hM1
  by_cases h4 : W < 4
  · have hM' := hM h4
    have hN' := hN h4
    clear hM hN hN0
    go_enter Try.func5, Try.ntmps5
    go_wp2_with (refine wpList_box_row rfl _ _ rfl _ rfl ?_)
    apply Stop.go; intro w1 Hg1 Hb1
    go_wp2_with (refine wpList_load_arr rfl _ _ rfl _ rfl _ _ (Hb1.out.below (Grew.alloc _ _).1 (by rw [Hg1.out.2]; omega)) _ _ Try.underlying32 (Try.arr256Fits HL.out) ?_)
    have Hg2 := Lib.hid (Grew.alloc w1 (.cells #[.int .u8 a0, .int .u8 a1] 45))
    have Hb2 := Lib.hid (Hb1.out.below Hg2.out.1 (by rw [Hg1.out.2]; omega))
    generalize w1.alloc (.cells #[.int .u8 a0, .int .u8 a1] 45) = w2 at *
    refine (with_any L HL.out _ _ _ N (IntWalk.u64_in _ (by omega)) (by omega) _).mono ?_; rintro e w3 ⟨rfl, hb3⟩
    generalize hX : withL L p W N = X at *
    have HX := Lib.hid hX
    have Hb3 := Lib.hid hb3
    clear hb3 hX
    have z1 := Lib.hid Hg1.out.2
    have z2 := Lib.hid Hg2.out.2
    have z3 := Lib.hid Hb3.out.size
    go_wp2_with (refine wpList_alloc_row rfl _ rfl _ Try.blockZero ?_)
    apply Stop.go; intro w4 Hg4 Hb4
    have z4 := Lib.hid Hg4.out.2
    go_wp2_with (refine wpList_store_arr rfl _ _ _ rfl _ _ rfl rfl _ _ Hb4.out (Try.blockFits HL3.out) (by rw [bcells_size, bcells_size, HL3.out, zeros_len]) (oneCell_bcells _) ?_)
    apply Stop.go; intro w5 Ho5 Hb5
    have Hb5L := Lib.hid ((((Hb2.out.below Hb3.out (by rw [z2.out, z1.out]; omega))).below Hg4.out.1 (by have := z3.out; rw [z2.out, z1.out] at this; omega)).only Ho5.out (by have := z3.out; rw [z2.out, z1.out] at this; omega))
    have hbel : Below w.heap.size w w5 := by
      have z1 := z1.out
      have z2 := z2.out
      have z3 := z3.out
      have z4 := z4.out
      exact (((Hg1.out.1.trans (Hg2.out.1.mono (by omega))).trans (Hb3.out.mono (by omega))).trans (Hg4.out.1.mono (by omega))).trans (Ho5.out.below (by omega))
    have Hbel := Lib.hid hbel
    clear hbel
    go_wp2_with fail
    go_loopw [11] (fun i wr => ∃ k : Nat, k ≤ 256 ∧ i = .int .i64 k ∧ ∃ m, wr = w5.drewN m) (fun i _ => 256 - (intOf i).toNat)
    case atStart => exact ⟨0, by omega, rfl, 0, rfl⟩
    case round =>
      obtain ⟨k, hk, rfl, m, rfl⟩ := hrel
      by_cases hk2 : k < 256
      · have d0 : decide ((k : Int) < 256) = true := by simp; omega
        obtain ⟨x, hx, hcx⟩ := Hb5.out.byte k (by rw [HL3.out]; omega)
        obtain ⟨y, hy, hcy⟩ := Hb5L.out.byte k (by rw [HL.out]; omega)
        by_cases hr1 : k < p
        · have e := He.out k (Or.inl hr1)
          rw [hx, hy] at e
          injection e with e
          subst e
          have d1 : decide ((k : Int) < p) = true := by simp; omega
          have hxx : ((x.toNat : Int) != (x.toNat : Int)) = false := by simp
          clear hx hy
          go_wp2_with fail
          go_quiet (fail)
          go_wp2_with fail
          go_roundw
          case rel => exact ⟨k + 1, by omega, by go_num, m + nq, by simp only [World.drewN_drewN]⟩
          case measure => simp [intOf]; omega
        · have d1 : decide ((k : Int) < p) = false := by simp; omega
          by_cases hr2 : p + W ≤ k
          · have e := He.out k (Or.inr hr2)
            rw [hx, hy] at e
            injection e with e
            subst e
            have d2 : decide ((p : Int) + W ≤ k) = true := by simp; omega
            have hxx : ((x.toNat : Int) != (x.toNat : Int)) = false := by simp
            clear hx hy
            go_wp2_with fail
            go_quiet (fail)
            go_wp2_with fail
            go_roundw
            case rel => exact ⟨k + 1, by omega, by go_num, m + nq, by simp only [World.drewN_drewN]⟩
            case measure => simp [intOf]; omega
          · have d2 : decide ((p : Int) + W ≤ k) = false := by simp; omega
            clear hx hy hcx hcy
            go_wp2_with fail
            go_quiet (fail)
            go_wp2_with fail
            go_roundw
            case rel => exact ⟨k + 1, by omega, by go_num, m + nq, by simp only [World.drewN_drewN]⟩
            case measure => simp [intOf]; omega
      · have d0 : decide ((k : Int) < 256) = false := by simp; omega
        have Hb5m := Lib.hid (show Blk (w5.drewN m) w3.heap.size 34 (bcells X) from Hb5.out)
        have Hbm := Lib.hid (show Below w5.heap.size w5 (w5.drewN m) from ⟨rfl, rfl, rfl, Nat.le_refl _, fun _ _ => rfl⟩)
        go_wp2_with (refine wpList_load_arr rfl _ _ rfl _ rfl _ _ Hb5m.out _ _ Try.underlying34 (Try.blockFits HL3.out) ?_)
        refine (at_any _ HL3.out _ _ _).mono ?_; rintro e w6 ⟨rfl, hb6⟩
        rw [Hg.out]
        have Hb6 := Lib.hid hb6
        clear hb6
        go_wp2_with fail
        refine (works01_any _).mono ?_; rintro e w7 ⟨rfl, hb7⟩
        have Hb7 := Lib.hid hb7
        clear hb7
        go_wp2_with fail
        go_ret
        refine ⟨rfl, ?_⟩
        have z5 := Hbel.out.size
        have z6 := Hb6.out.size
        have zm : (w5.drewN m).heap.size = w5.heap.size := rfl
        exact ((Hbel.out.trans (Hbm.out.mono (by omega))).trans (Hb6.out.mono (by omega))).trans (Hb7.out.mono (by omega))
  · have hd : decide ((W : Int) < 4) = false := by simp; omega
    obtain rfl : N = v := (hN0 (by omega)).symm
    clear hM hN hN0
    go_enter Try.func5, Try.ntmps5
    go_wp2_with (refine wpList_box_row rfl _ _ rfl _ rfl ?_)
    apply Stop.go; intro w1 Hg1 Hb1
    go_wp2_with (refine wpList_load_arr rfl _ _ rfl _ rfl _ _ (Hb1.out.below (Grew.alloc _ _).1 (by rw [Hg1.out.2]; omega)) _ _ Try.underlying32 (Try.arr256Fits HL.out) ?_)
    have Hg2 := Lib.hid (Grew.alloc w1 (.cells #[.int .u8 a0, .int .u8 a1] 45))
    have Hb2 := Lib.hid (Hb1.out.below Hg2.out.1 (by rw [Hg1.out.2]; omega))
    generalize w1.alloc (.cells #[.int .u8 a0, .int .u8 a1] 45) = w2 at *
    refine (with_any L HL.out _ _ _ N (IntWalk.u64_in _ (by omega)) (by omega) _).mono ?_; rintro e w3 ⟨rfl, hb3⟩
    generalize hX : withL L p W N = X at *
    have HX := Lib.hid hX
    have Hb3 := Lib.hid hb3
    clear hb3 hX
    have z1 := Lib.hid Hg1.out.2
    have z2 := Lib.hid Hg2.out.2
    have z3 := Lib.hid Hb3.out.size
    go_wp2_with (refine wpList_alloc_row rfl _ rfl _ Try.blockZero ?_)
    apply Stop.go; intro w4 Hg4 Hb4
    have z4 := Lib.hid Hg4.out.2
    go_wp2_with (refine wpList_store_arr rfl _ _ _ rfl _ _ rfl rfl _ _ Hb4.out (Try.blockFits HL3.out) (by rw [bcells_size, bcells_size, HL3.out, zeros_len]) (oneCell_bcells _) ?_)
    apply Stop.go; intro w5 Ho5 Hb5
    have Hb5L := Lib.hid ((((Hb2.out.below Hb3.out (by rw [z2.out, z1.out]; omega))).below Hg4.out.1 (by have := z3.out; rw [z2.out, z1.out] at this; omega)).only Ho5.out (by have := z3.out; rw [z2.out, z1.out] at this; omega))
    have hbel : Below w.heap.size w w5 := by
      have z1 := z1.out
      have z2 := z2.out
      have z3 := z3.out
      have z4 := z4.out
      exact (((Hg1.out.1.trans (Hg2.out.1.mono (by omega))).trans (Hb3.out.mono (by omega))).trans (Hg4.out.1.mono (by omega))).trans (Ho5.out.below (by omega))
    have Hbel := Lib.hid hbel
    clear hbel
    go_wp2_with fail
    go_loopw [11] (fun i wr => ∃ k : Nat, k ≤ 256 ∧ i = .int .i64 k ∧ ∃ m, wr = w5.drewN m) (fun i _ => 256 - (intOf i).toNat)
    case atStart => exact ⟨0, by omega, rfl, 0, rfl⟩
    case round =>
      obtain ⟨k, hk, rfl, m, rfl⟩ := hrel
      by_cases hk2 : k < 256
      · have d0 : decide ((k : Int) < 256) = true := by simp; omega
        obtain ⟨x, hx, hcx⟩ := Hb5.out.byte k (by rw [HL3.out]; omega)
        obtain ⟨y, hy, hcy⟩ := Hb5L.out.byte k (by rw [HL.out]; omega)
        by_cases hr1 : k < p
        · have e := He.out k (Or.inl hr1)
          rw [hx, hy] at e
          injection e with e
          subst e
          have d1 : decide ((k : Int) < p) = true := by simp; omega
          have hxx : ((x.toNat : Int) != (x.toNat : Int)) = false := by simp
          clear hx hy
          go_wp2_with fail
          go_quiet (fail)
          go_wp2_with fail
          go_roundw
          case rel => exact ⟨k + 1, by omega, by go_num, m + nq, by simp only [World.drewN_drewN]⟩
          case measure => simp [intOf]; omega
        · have d1 : decide ((k : Int) < p) = false := by simp; omega
          by_cases hr2 : p + W ≤ k
          · have e := He.out k (Or.inr hr2)
            rw [hx, hy] at e
            injection e with e
            subst e
            have d2 : decide ((p : Int) + W ≤ k) = true := by simp; omega
            have hxx : ((x.toNat : Int) != (x.toNat : Int)) = false := by simp
            clear hx hy
            go_wp2_with fail
            go_quiet (fail)
            go_wp2_with fail
            go_roundw
            case rel => exact ⟨k + 1, by omega, by go_num, m + nq, by simp only [World.drewN_drewN]⟩
            case measure => simp [intOf]; omega
          · have d2 : decide ((p : Int) + W ≤ k) = false := by simp; omega
            clear hx hy hcx hcy
            go_wp2_with fail
            go_quiet (fail)
            go_wp2_with fail
            go_roundw
            case rel => exact ⟨k + 1, by omega, by go_num, m + nq, by simp only [World.drewN_drewN]⟩
            case measure => simp [intOf]; omega
      · have d0 : decide ((k : Int) < 256) = false := by simp; omega
        have Hb5m := Lib.hid (show Blk (w5.drewN m) w3.heap.size 34 (bcells X) from Hb5.out)
        have Hbm := Lib.hid (show Below w5.heap.size w5 (w5.drewN m) from ⟨rfl, rfl, rfl, Nat.le_refl _, fun _ _ => rfl⟩)
        go_wp2_with (refine wpList_load_arr rfl _ _ rfl _ rfl _ _ Hb5m.out _ _ Try.underlying34 (Try.blockFits HL3.out) ?_)
        refine (at_any _ HL3.out _ _ _).mono ?_; rintro e w6 ⟨rfl, hb6⟩
        rw [Hg.out]
        have Hb6 := Lib.hid hb6
        clear hb6
        go_wp2_with fail
        refine (works01_any _).mono ?_; rintro e w7 ⟨rfl, hb7⟩
        have Hb7 := Lib.hid hb7
        clear hb7
        go_wp2_with fail
        go_ret
        refine ⟨rfl, ?_⟩
        have z5 := Hbel.out.size
        have z6 := Hb6.out.size
        have zm : (w5.drewN m).heap.size = w5.heap.size := rfl
        exact ((Hbel.out.trans (Hbm.out.mono (by omega))).trans (Hb6.out.mono (by omega))).trans (Hb7.out.mono (by omega))

set_option maxRecDepth 100000 in
theorem numBack_lifted (os : Os) (started : os.Started) (H : Type) (enc : TypeId × Value → H) :
    ReturnsInHanded {} Try.checked os 5 .any (Rows.numBackSpec.pre6 enc Try.prog Try.f5 Rows.numBackRow.domain false) (Rows.numBackSpec.post enc Try.prog Try.f5 false true false false) := by
  refine returnsInHanded_of_change (C := Try.checked) Try.own started (by kernel_rfl) Try.func5 (ChangeSpec.witness6 (enc := enc) (C := Try.checked) false ⟨#[], #[.agg (bcells (zeros 256)), .agg #[.int .u8 0, .int .u8 0], .int .u32 0], []⟩ 8 (by kernel_rfl) (by kernel_rfl) (by kernel_rfl) (by kernel_rfl)) ?_; intro W base args ds gs before hval0 hW hcnd _; have hval : ∀ (j : Nat) t v, Try.f5.params[j]? = some t → args[j]? = some v → Value.okWide Try.prog W .any base t v := hval0; have hW' := hW; obtain ⟨p, q, hA0, hV, rfl, hfz, hnd⟩ := hW; have hA : DataW.TrodAll enc Try.prog W 0 (fun _ => true) true Try.f5.params.toList args.toList ds p := hA0; rw [Try.params5] at hA hval; obtain ⟨v0, v1, v2, d0, d1, d2, p0, p1, p2, rfl, rfl, rfl, h0, h1, h2⟩ := trodAll_three hA; obtain ⟨rfl, rfl⟩ := trodVars_none hV; clear hA0 hval0
  obtain ⟨L, rfl, hL⟩ := open_byte_array Try.underlying32 Try.underlying5 (by kernel_rfl) (by kernel_rfl) (hval 0 _ v0 rfl rfl) h0
  obtain ⟨zs, rfl, hz, hw⟩ := open_int_array Try.underlying45 Try.underlying5 (by kernel_rfl) (by kernel_rfl) (hval 1 _ v1 rfl rfl) h1
  obtain ⟨v, rfl, rfl, rfl, wv⟩ := open_int Try.underlying46 (hval 2 _ v2 rfl rfl) h2
  obtain ⟨z0, z1, rfl⟩ := list_two hz
  have w0 := bounds_u8 (hw z0 (by simp))
  have w1 := bounds_u8 (hw z1 (by simp))
  have wv' := bounds_u32 wv
  obtain ⟨V, rfl⟩ := Int.eq_ofNat_of_zero_le wv'.1
  obtain ⟨a0, rfl⟩ := Int.eq_ofNat_of_zero_le w0.1
  obtain ⟨a1, rfl⟩ := Int.eq_ofNat_of_zero_le w1.1
  refine (numBack_any L hL a0 a1 (by omega) (by omega) V (by omega) W).mono fun e W' ⟨he, hb⟩ => ?_
  subst he
  exact ⟨_, rfl, law_post Try.laidOut (by rw [Try.params5]; intro t ht; simp at ht; rcases ht with rfl | rfl | rfl <;> exact ⟨by kernel_rfl, of_decide_eq_true (by kernel_rfl)⟩) rfl rfl Try.underlying4 rfl hW' hb⟩

theorem numBack_holds : Rows.NumBackSaid := OpenClaim.holds_of_wide 5 Try.f5 rfl rfl rfl rfl rfl rfl rfl ⟨rfl, rfl, rfl, rfl, rfl⟩ rfl rfl rfl rfl rfl (by kernel_rfl) Try.func5 (by kernel_rfl) (of_decide_eq_true (by kernel_rfl)) (by unfold Func.isWrapper; first | (rw [if_pos (by decide +kernel)]; kernel_rfl) | (rw [if_neg (by decide +kernel)]; exact ⟨rfl, rfl⟩)) (fun os started H enc _ => numBack_lifted os started H enc)

end Go.Proofs.Ytpegdcgpohdhnaa
