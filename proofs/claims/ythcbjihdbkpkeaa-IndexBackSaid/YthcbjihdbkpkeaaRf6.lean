/-
  The contract of the document's answer 19: Put.
-/
import Derived.Test.YthcbjihdbkpkeaaRf5
import Derived.Test.YthcbjihdbkpkeaaIx6
import Derived.Test.YthcbjihdbkpkeaaAppB
import Derived.Test.YthcbjihdbkpkeaaRef01
import Derived.Test.YthcbjihdbkpkeaaSame
namespace Go.Proofs.Ythcbjihdbkpkeaa
open Go.RowKit

theorem byte_in {d : Int} (h : 0 ≤ d ∧ d ≤ 5) : IntKind.u8.wrap d = ((UInt8.ofNat d.toNat).toNat : Int) := by
  simp [IntKind.wrap, IntKind.bits, IntKind.signed]
  omega
theorem OwnB.lowB {w : World} {B B' : Nat} {e : TypeId} {v : Value} {l : List UInt8} (h : OwnB w B e v l) (hb : B' ≤ B) : OwnB w B' e v l := by
  obtain ⟨hl, h | ⟨g, cap, cur, hv, hbg, h⟩⟩ := h
  · exact ⟨hl, Or.inl h⟩
  · exact ⟨hl, Or.inr ⟨g, cap, cur, hv, Nat.le_trans hb hbg, h⟩⟩
theorem idxH_len : idxH.length = 4 := rfl
theorem docX_start (d : Int) (t : List Int) : (idxH ++ [UInt8.ofNat d.toNat]) ++ zeros 27 = docX d t 0 := by
  unfold docX headX idxH
  simp [flatI]
theorem docX_end {t : List Int} (ht : t.length = 32) (d : Int) : rlayL (zeros 256) 0 (docX d t 32) = putX d t := by
  have hl := docX_len ht d 32 (Nat.le_refl _)
  unfold rlayL
  rw [if_pos (by rw [zeros_len]; decide), List.take_of_length_le (by rw [hl, zeros_len]; decide)]
  have h := splice_zeros [] (docX d t 32) 0 256 rfl
  rw [List.nil_append, List.nil_append] at h
  rw [show (0 : Int).toNat = 0 from rfl, h, hl]
  unfold docX putX
  rw [List.take_of_length_le (by omega), List.append_assoc]

/-- What Put tells. -/
def rputX (d : Int) (t : List Int) : List UInt8 := if mayX d t then putX d t else []
set_option maxHeartbeats 3200000 in
theorem rput19_any (d : Int) (t : List Int) (ht : t.length = 32) (w : World) :
    Calls Try.prog 9 #[.agg (icells (d :: t))] w (RetBB w (rputX d t) (mayX d t)) := by
  have HL := Lib.hid ht
  obtain ⟨m, Hm⟩ : ∃ m, Hid (mayX d t = m) := ⟨_, Lib.hid rfl⟩
  obtain ⟨R, HR⟩ : ∃ R, Hid (rputX d t = R) := ⟨_, Lib.hid rfl⟩
  have HU := Lib.hid (show R = if m then putX d t else [] by rw [← HR.out]; unfold rputX; rw [Hm.out])
  rw [Hm.out, HR.out]
  by_cases hin : 0 ≤ d ∧ d ≤ 5
  · have HMa := Lib.hid (mayX_at (d := d) HL.out)
    have HI := Lib.hid (show inD d = true from decide_eq_true hin)
    obtain ⟨x, hx⟩ : ∃ x, UInt8.ofNat d.toNat = x := ⟨_, rfl⟩
    have W0 : IntKind.u8.wrap d = (x.toNat : Int) := by rw [byte_in hin, hx]
    have HD0 := Lib.hid (show (idxH ++ [x]) ++ zeros 27 = docX d t 0 by rw [← hx]; exact docX_start d t)
    have HDE := Lib.hid (docX_end HL.out d)
    have HDL := Lib.hid (fun k (hk : k ≤ 32) => docX_len HL.out d k hk)
    have HDS := Lib.hid (fun k (hk : k < 32) => docX_step HL.out d k hk)
    have d0 : decide (d < 0) = false := decide_eq_false (by omega)
    have d5 : decide (5 < d) = false := decide_eq_false (by omega)
    clear hin hx HR
    go_enter Try.func9, Try.ntmps9
    go_wp2_with (refine wpList_box_row rfl _ _ rfl _ rfl ?_)
    apply Stop.go; intro w1 Hg1 Hb1
    have E1 := Lib.hid Hg1.out.1
    have c0 := dep_cell Hb1.out
    go_upto_region 3 with fail
    go_wp2_with (refine wpList_conv_text rfl _ _ _ rfl Try.underlying31 Try.underlying5 idxH _ rfl _ _ rfl ?_)
    apply Stop.go; intro w2 Hg2 Hr2
    have HB2 := Lib.hid (Hb1.out.ext Hg2.out.1)
    have E2 := Lib.hid (bt E1.out Hg2.out.1)
    have c0 := dep_cell HB2.out
    have B3 : Hid (Blk (w2.alloc (.cells #[.int .u8 (x.toNat : Int)] 5)) w2.heap.size 5 (bcells [x])) := Lib.hid (Blk.new w2 _ _)
    have G3 := Lib.hid (Grew.alloc w2 (.cells #[.int .u8 (x.toNat : Int)] 5))
    have R3 := Lib.hid (Hr2.out.below G3.out.1)
    go_wp2_with (at_builtin; refine wpList_append_grow_bytes rfl _ _ _ _ rfl Try.underlying31 Try.byteInfo _ 4 4 idxH rfl rfl R3.out _ 1 1 [x] rfl rfl (RB.of_blk0 B3.out) (by omega) (by omega) (by omega) ?_)
    apply Stop.go; intro v4 w4 Ho4 He4
    have hs3 : w2.heap.size ≤ (w2.alloc (.cells #[.int .u8 (x.toNat : Int)] 5)).heap.size := G3.out.1.size
    have HO4 := Lib.hid (show OwnB w4 w2.heap.size 5 v4 (idxH ++ [x]) from Ho4.out.lowB (by omega))
    have he4 : Below (w2.alloc (.cells #[.int .u8 (x.toNat : Int)] 5)).heap.size (w2.alloc (.cells #[.int .u8 (x.toNat : Int)] 5)) w4 := by rw [G3.out.2]; exact He4.out
    have HB4 := Lib.hid ((HB2.out.ext G3.out.1).ext he4)
    have E4 := Lib.hid (bt (bt E2.out G3.out.1) he4)
    have Z4 := Lib.hid (show w2.heap.size ≤ w4.heap.size from Nat.le_trans hs3 he4.size)
    have ZB := Lib.hid (show w.heap.size < w2.heap.size from HB2.out.lt)
    generalize w2.heap.size = B at *
    clear B3 G3 R3 hs3 Ho4 He4 he4 Hr2 Hg2 HB2 E2 Hb1 Hg1 E1 c0
    obtain ⟨Y, hY⟩ : ∃ Y, idxH ++ [x] = Y := ⟨_, rfl⟩
    have Hl5 : Hid (Y.length = 5) := Lib.hid (by rw [← hY]; rfl)
    rw [hY] at HO4 HD0
    clear hY
    go_wp2_with (at_builtin; refine wpList_append_zeros rfl _ _ _ _ _ rfl Try.underlying31 Try.underlying3 Try.byteInfo B _ Y rfl HO4.out Z4.out (by rw [Hl5.out]; omega) _ 27 rfl rfl (by omega) (by rw [Hl5.out]; omega) ?_)
    apply Stop.go; intro v5 w5 Ho5 He5
    have ho5 := Ho5.out
    rw [HD0.out] at ho5
    have HO5 := Lib.hid ho5
    have HB5 := Lib.hid (HB4.out.below He5.out ZB.out)
    have E5 := Lib.hid (E4.out.trans (He5.out.mono (Nat.le_of_lt ZB.out)))
    have Z5 := Lib.hid (Nat.le_trans Z4.out He5.out.size)
    clear ho5 Ho5 He5 HB4 E4 Z4 HO4 HD0
    go_wp2_with fail
    go_loopw [4, 5] (fun v i wr => ∃ k : Nat, k ≤ 32 ∧ i = .int .i64 k ∧ Hid (OwnB wr B 5 v (docX d t k)) ∧ Hid (Blk wr w.heap.size 24 (icells (d :: t))) ∧ Hid (Below w.heap.size w wr) ∧ Hid (B ≤ wr.heap.size) ∧ Hid (∀ j, j < k → shortB (fld t j) = true)) (fun _ i _ => 32 - (intOf i).toNat)
    case atStart => exact ⟨0, Nat.zero_le _, rfl, HO5, HB5, E5, Z5, Lib.hid fun j h => absurd h (Nat.not_lt_zero _)⟩
    case round =>
      obtain ⟨k, hk, rfl, HOk, HBk, Ek, Zk, HA⟩ := hrel
      by_cases hlt : k < 32
      · have e0 : decide ((k : Int) < 32) = true := by simp; omega
        have k0 : 0 ≤ (k : Int) := by omega
        have k1 : (k : Int) < 32 := by omega
        have HK := Lib.hid (show k < 32 from hlt)
        have ck := int_cell HBk.out k (by rw [HL.out]; exact hlt)
        have HLk := Lib.hid (HDL.out k hk)
        have HSk := Lib.hid (HDS.out k hlt)
        obtain ⟨s, Hs⟩ : ∃ s, Hid (shortB (fld t k) = s) := ⟨_, Lib.hid rfl⟩
        have HWk := Lib.hid (fun (h : s = true) => wrap_in (n := fld t k) (of_decide_eq_true (show shortB (fld t k) = true by rw [Hs.out, h])))
        have HFk := Lib.hid (show s = false → m = false from fun h => by
          rw [← Hm.out, Bool.eq_false_iff]
          intro h'
          have := (HMa.out.1 h').1 k hlt
          rw [Hs.out, h] at this
          cases this)
        have HTk := Lib.hid (show s = true → ∀ j, j < k + 1 → shortB (fld t j) = true from fun h j hj => by
          by_cases e : j = k
          · rw [e, Hs.out, h]
          · exact HA.out j (by omega))
        obtain ⟨y, hy⟩ : ∃ y, fld t k = y := ⟨_, rfl⟩
        rw [hy] at ck HSk HWk Hs
        clear hy
        go_wp2_with fail
        refine (rfine_any y _).mono ?_; rintro e wx ⟨rfl, rfl⟩
        rw [Hs.out]
        cases s
        · have HM := Lib.hid (HFk.out rfl)
          clear HFk HTk HWk
          go_wp2_with fail
          go_ret2
          have hR : R = [] := by rw [HU.out, HM.out]; rfl
          rw [HM.out, hR]
          exact ⟨_, _, _, rfl, rfl, Nat.le_refl _, by unfold maxLen; omega, RB.nil_ _ _, Ek.out⟩
        · have HW := Lib.hid (HWk.out rfl)
          have HT := Lib.hid (HTk.out rfl)
          clear HFk HTk HWk
          go_wp2_with fail
          rw [HW.out.1]
          refine (bytes_any 2 y.toNat (by omega) HW.out.2 _).mono ?_; rintro e w6 ⟨A3, n3, p3, rfl, hl3, hc3, hm3, hr3, hb3⟩
          have hn3 : n3 = 2 := by rw [← hl3, leBytes_len]
          subst hn3
          have HL3 := Lib.hid hl3
          have HR3 := Lib.hid hr3
          have HO6 := Lib.hid (HOk.out.below hb3)
          have HB6 := Lib.hid (HBk.out.ext hb3)
          have E6 := Lib.hid (bt Ek.out hb3)
          have Z6 := Lib.hid (Nat.le_trans Zk.out hb3.size)
          clear hl3 hc3 hm3 hr3 hb3 HOk HBk Ek Zk ck
          go_wp2_with (at_builtin; refine wpList_append_own_bytes rfl _ _ _ _ rfl Try.underlying31 Try.byteInfo B _ _ rfl HO6.out Z6.out _ _ _ _ rfl HL3.out HR3.out (by omega) (by rw [HLk.out]; omega) ?_)
          apply Stop.go; intro v7 w7 Ho7 He7
          have ho7 := Ho7.out
          rw [← HSk.out] at ho7
          have HO7 := Lib.hid ho7
          have HB7 := Lib.hid (HB6.out.below He7.out ZB.out)
          have E7 := Lib.hid (E6.out.trans (He7.out.mono (Nat.le_of_lt ZB.out)))
          have Z7 := Lib.hid (Nat.le_trans Z6.out He7.out.size)
          clear ho7 Ho7 He7 HB6 E6 Z6 HO6 HR3 HL3
          go_wp2_with fail
          go_roundw
          case rel => exact ⟨k + 1, by omega, by go_num, HO7, HB7, E7, Z7, HT⟩
          case measure => simp [intOf]; omega
      · obtain rfl : k = 32 := by omega
        have e0 : decide ((32 : Int) < 32) = false := by simp
        have HM := Lib.hid (show m = true by rw [← Hm.out]; exact HMa.out.2 ⟨HA.out, HI.out⟩)
        have hl := HDL.out 32 (by omega)
        obtain ⟨A8, c8, rfl, hc8, hm8, hr8⟩ := HOk.out.read
        obtain ⟨X, hX⟩ : ∃ X, docX d t 32 = X := ⟨_, rfl⟩
        rw [hX] at hl hr8 HOk HDE ⊢
        obtain ⟨P, hP⟩ : ∃ P, putX d t = P := ⟨_, rfl⟩
        have HPp := Lib.hid hP
        rw [hP] at HDE
        have hn8 : X.length = 96 := hl
        rw [hn8]
        clear hl
        have HN8 := Lib.hid hn8
        have HR8 := Lib.hid hr8
        clear hn8 hr8 hc8 hm8 hX hP
        go_wp2_with (refine wpList_make_bytes rfl _ _ _ _ rfl Try.underlying31 Try.byteInfo .i64 .i64 _ _ 256 rfl rfl rfl rfl (by decide) ?_)
        apply Stop.go; intro w9 Hg9 Hb9
        have HR9 := Lib.hid (HR8.out.below Hg9.out.1)
        have E9 := Lib.hid (bt Ek.out Hg9.out.1)
        have HRz := Lib.hid (RB.of_blk0 Hb9.out)
        clear HR8 Hg9 Hb9 HOk HBk Ek Zk
        go_wp2_with fail
        refine (rlay_any _ 256 _ (zeros 256) (zeros_len _) (by omega) 0 _ _ _ X HN8.out _ HRz.out HR9.out).mono ?_; rintro e wa ⟨Aa, na, ca, rfl, hla, hca, hma, hra, hba⟩
        rw [HDE.out] at hla hra
        have Ea := Lib.hid (bt E9.out hba)
        have HLa := Lib.hid hla
        have HRa := Lib.hid hra
        have HCa := Lib.hid hca
        have HMx := Lib.hid hma
        clear hla hra hca hma hba
        go_wp2_with fail
        go_ret2
        have hR : R = P := by rw [HU.out, HM.out, ← HPp.out]; rfl
        rw [HM.out, hR]
        exact ⟨_, _, _, rfl, HLa.out, HCa.out, HMx.out, HRa.out, Ea.out⟩
  · have HM := Lib.hid (show m = false by
      rw [← Hm.out, Bool.eq_false_iff]
      intro h
      have := ((mayX_at HL.out).1 h).2
      unfold inD at this
      exact hin (of_decide_eq_true this))
    have HRn := Lib.hid (show R = [] by rw [HU.out, HM.out]; rfl)
    by_cases h0 : d < 0
    · clear hin
      go_enter Try.func9, Try.ntmps9
      go_wp2_with (refine wpList_box_row rfl _ _ rfl _ rfl ?_)
      apply Stop.go; intro w1 Hg1 Hb1
      have c0 := dep_cell Hb1.out
      go_wp2_with fail
      go_ret2
      rw [HM.out, HRn.out]
      exact ⟨_, _, _, rfl, rfl, Nat.le_refl _, by unfold maxLen; omega, RB.nil_ _ _, Hg1.out.1⟩
    · have h5 : 5 < d := by omega
      clear hin
      go_enter Try.func9, Try.ntmps9
      go_wp2_with (refine wpList_box_row rfl _ _ rfl _ rfl ?_)
      apply Stop.go; intro w1 Hg1 Hb1
      have c0 := dep_cell Hb1.out
      go_wp2_with fail
      go_ret2
      rw [HM.out, HRn.out]
      exact ⟨_, _, _, rfl, rfl, Nat.le_refl _, by unfold maxLen; omega, RB.nil_ _ _, Hg1.out.1⟩

end Go.Proofs.Ythcbjihdbkpkeaa
