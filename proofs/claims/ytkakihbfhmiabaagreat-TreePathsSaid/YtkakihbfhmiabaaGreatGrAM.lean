/-
  Texts of this claim joined: Geo1, Chart1, Chart3, Vw0, Ints.
-/
import Derived.Test.YtkakihbfhmiabaaGreatGrAB
import Derived.Test.YtkakihbfhmiabaaGreatGrAL
import Derived.Test.YtkakihbfhmiabaaGreatGrAA
import Derived.BigQuiet
import Derived.Test.YtkakihbfhmiabaaGreatGrAC
import Derived.Deep.QuietTactic
import Derived.StillTailTactics
import Derived.Test.YtkakihbfhmiabaaGreatGrAD
import Derived.Test.YtkakihbfhmiabaaGreatGrAK
import Derived.Test.YtkakihbfhmiabaaGreatGrAI
import Derived.Test.YtkakihbfhmiabaaGreatChecked

/-
  Contracts of geom's functions.
-/
namespace Go.Proofs.YtkakihbfhmiabaaGreat
open Go.RowKit


set_option maxHeartbeats 800000 in
theorem gmay_any (l : Lay14) (w : World) :
    Calls Tryz.prog 108 #[.agg l.val] w fun e w' => e = .returned (.bool l.may) ∧ Below w.heap.size w w' := by
  go_enter Tryz.func108, Tryz.ntmps108
  go_wp2_with (refine wpList_box_row rfl _ _ rfl _ rfl ?_)
  apply Stop.go; intro w1 Hg1 Hb1
  go_wp2_with (refine wpList_load_blk rfl _ _ rfl _ rfl _ _ Hb1.out _ Tryz.underlying41 rfl Tryz.laySize ?_)
  refine (check14_any l _).mono ?_; rintro e w2 ⟨rfl, hb2⟩
  have Hbel := Lib.hid (bt Hg1.out.1 hb2)
  clear hb2
  obtain ⟨b, Hm⟩ : ∃ b, Hid (l.may = b) := ⟨_, Lib.hid rfl⟩
  rw [Hm.out]
  cases b
  · rw [okArg_false]
    go_wp2_with fail
    go_ret
    rw [Hm.out]
    exact ⟨rfl, Hbel.out⟩
  · rw [okArg_true]
    go_wp2_with fail
    go_ret
    rw [Hm.out]
    exact ⟨rfl, Hbel.out⟩

set_option maxHeartbeats 800000 in
theorem table_any (l : Lay14) (w : World) :
    Calls Tryz.prog 207 #[.agg l.val] w fun e w' => e = .returned (.tuple #[.int .i64 l.tf, .int .i64 l.tn]) ∧ Below w.heap.size w w' := by
  go_enter Tryz.func207, Tryz.ntmps207
  go_wp2_with (refine wpList_box_row rfl _ _ rfl _ rfl ?_)
  apply Stop.go; intro w1 Hg1 Hb1
  go_wp2_with (refine wpList_load_blk rfl _ _ rfl _ rfl _ _ Hb1.out _ Tryz.underlying41 rfl Tryz.laySize ?_)
  refine (gmay_any l _).mono ?_; rintro e w2 ⟨rfl, hb2⟩
  have Hbel := Lib.hid (bt Hg1.out.1 hb2)
  have Hb2 := Lib.hid (Hb1.out.ext hb2)
  clear hb2
  obtain ⟨b, Hm⟩ : ∃ b, Hid (l.may = b) := ⟨_, Lib.hid rfl⟩
  rw [Hm.out]
  cases b
  · go_wp2_with fail
    go_ret2
    have h := Lay14.off Hm.out
    rw [h.1, h.2.1]
    exact ⟨rfl, Hbel.out⟩
  · have h := Lay14.may_iff.1 Hm.out
    have h1 : 0 ≤ l.inodes := by omega
    have h2 : l.inodes ≤ 128 := by omega
    have c1 := Hb2.out.lay1
    clear h
    go_wp2_with fail
    go_quiet (fail)
    go_wp2_with fail
    go_ret2
    have h := Lay14.on Hm.out
    rw [h.1, h.2.1]
    exact ⟨rfl, bt Hbel.out (bdrew _ _)⟩

set_option maxHeartbeats 800000 in
theorem data_any (l : Lay14) (w : World) :
    Calls Tryz.prog 197 #[.agg l.val] w fun e w' => e = .returned (.int .i64 l.data) ∧ Below w.heap.size w w' := by
  have h := l.bounds
  have hd : l.tf + l.tn = l.data := rfl
  have HD := Lib.hid hd
  have h1 := h.1
  have h2 := h.2.1
  have h3 := h.2.2.1
  have h4 := h.2.2.2.1
  clear h hd
  go_enter Tryz.func197, Tryz.ntmps197
  go_wp2_with (refine wpList_box_row rfl _ _ rfl _ rfl ?_)
  apply Stop.go; intro w1 Hg1 Hb1
  go_wp2_with (refine wpList_load_blk rfl _ _ rfl _ rfl _ _ Hb1.out _ Tryz.underlying41 rfl Tryz.laySize ?_)
  refine (table_any l _).mono ?_; rintro e w2 ⟨rfl, hb2⟩
  have Hbel := Lib.hid (bt Hg1.out.1 hb2)
  clear hb2
  go_wp2_with fail
  go_ret
  rw [← HD.out]
  exact ⟨rfl, Hbel.out⟩


set_option maxHeartbeats 800000 in
theorem isdata_any (l : Lay14) (no : Int) (w : World) :
    Calls Tryz.prog 172 #[.agg l.val, .int .i64 no] w fun e w' => e = .returned (.bool (l.isD no)) ∧ Below w.heap.size w w' := by
  go_enter Tryz.func172, Tryz.ntmps172
  go_wp2_with (refine wpList_box_row rfl _ _ rfl _ rfl ?_)
  apply Stop.go; intro w1 Hg1 Hb1
  go_wp2_with (refine wpList_load_blk rfl _ _ rfl _ rfl _ _ Hb1.out _ Tryz.underlying41 rfl Tryz.laySize ?_)
  refine (gmay_any l _).mono ?_; rintro e w2 ⟨rfl, hb2⟩
  have Hbel := Lib.hid (bt Hg1.out.1 hb2)
  have Hb2 := Lib.hid (Hb1.out.ext hb2)
  clear hb2
  obtain ⟨b, Hm⟩ : ∃ b, Hid (l.may = b) := ⟨_, Lib.hid rfl⟩
  rw [Hm.out]
  cases b
  · go_wp2_with fail
    go_ret
    rw [Lay14.isD_off Hm.out]
    exact ⟨rfl, Hbel.out⟩
  · go_wp2_with (refine wpList_load_blk rfl _ _ rfl _ rfl _ _ Hb2.out _ Tryz.underlying41 rfl Tryz.laySize ?_)
    refine (data_any l _).mono ?_; rintro e w3 ⟨rfl, hb3⟩
    have Hbel3 := Lib.hid (bt Hbel.out hb3)
    have Hb3 := Lib.hid (Hb2.out.ext hb3)
    clear hb3
    have c0 := Hb3.out.lay0
    by_cases h1 : l.data ≤ no <;> by_cases h2 : no < l.blocks
    all_goals
      go_wp2_with fail
      go_ret
      exact ⟨congrArg (fun b => Ending.returned (.bool b)) (Bool.eq_iff_iff.2 (by rw [Lay14.isD_on Hm.out]; simp only [decide_eq_true_eq, Bool.false_eq_true, false_iff, true_iff]; omega)), Hbel3.out⟩

set_option maxHeartbeats 800000 in
theorem isinode_any (l : Lay14) (i : Int) (w : World) :
    Calls Tryz.prog 70 #[.agg l.val, .int .i64 i] w fun e w' => e = .returned (.bool (l.isI i)) ∧ Below w.heap.size w w' := by
  go_enter Tryz.func70, Tryz.ntmps70
  go_wp2_with (refine wpList_box_row rfl _ _ rfl _ rfl ?_)
  apply Stop.go; intro w1 Hg1 Hb1
  go_wp2_with (refine wpList_load_blk rfl _ _ rfl _ rfl _ _ Hb1.out _ Tryz.underlying41 rfl Tryz.laySize ?_)
  refine (gmay_any l _).mono ?_; rintro e w2 ⟨rfl, hb2⟩
  have Hbel := Lib.hid (bt Hg1.out.1 hb2)
  have Hb2 := Lib.hid (Hb1.out.ext hb2)
  clear hb2
  obtain ⟨b, Hm⟩ : ∃ b, Hid (l.may = b) := ⟨_, Lib.hid rfl⟩
  rw [Hm.out]
  cases b
  · go_wp2_with fail
    go_ret
    rw [Lay14.isI_off Hm.out]
    exact ⟨rfl, Hbel.out⟩
  · have c1 := Hb2.out.lay1
    by_cases h1 : 1 ≤ i <;> by_cases h2 : i ≤ l.inodes
    all_goals
      go_wp2_with fail
      go_ret
      exact ⟨congrArg (fun b => Ending.returned (.bool b)) (Bool.eq_iff_iff.2 (by rw [Lay14.isI_on Hm.out]; simp only [decide_eq_true_eq, Bool.false_eq_true, false_iff, true_iff]; omega)), Hbel.out⟩

set_option maxHeartbeats 800000 in
theorem gwhere_any (l : Lay14) (i : Int) (w : World) :
    Calls Tryz.prog 45 #[.agg l.val, .int .i64 i] w fun e w' => e = .returned (.tuple #[.int .i64 (l.wb i), .int .i64 (l.wk i), .bool (l.isI i)]) ∧ Below w.heap.size w w' := by
  go_enter Tryz.func45, Tryz.ntmps45
  go_wp2_with (refine wpList_box_row rfl _ _ rfl _ rfl ?_)
  apply Stop.go; intro w1 Hg1 Hb1
  go_wp2_with (refine wpList_load_blk rfl _ _ rfl _ rfl _ _ Hb1.out _ Tryz.underlying41 rfl Tryz.laySize ?_)
  refine (isinode_any l i _).mono ?_; rintro e w2 ⟨rfl, hb2⟩
  have Hbel := Lib.hid (bt Hg1.out.1 hb2)
  clear hb2
  obtain ⟨b, Hm⟩ : ∃ b, Hid (l.isI i = b) := ⟨_, Lib.hid rfl⟩
  rw [Hm.out]
  cases b
  · have h := Lay14.where_off Hm.out
    go_wp2_with fail
    go_ret3
    rw [Hm.out, h.1, h.2]
    exact ⟨rfl, Hbel.out⟩
  · have h := Lay14.where_on Hm.out
    have ho := Lay14.on h.1
    have HV := Lib.hid (And.intro h.2.2.2.1 h.2.2.2.2.1)
    have h1 : 1 ≤ i := h.2.1
    have h2 : i ≤ 128 := by omega
    clear h ho
    go_wp2_with fail
    go_ret3
    rw [Hm.out, HV.out.1, HV.out.2]
    exact ⟨rfl, Hbel.out⟩



end Go.Proofs.YtkakihbfhmiabaaGreat

/-
  Contracts of package chart: isBit, mask, Has, With.
-/
namespace Go.Proofs.YtkakihbfhmiabaaGreat
open Go.RowKit


theorem mask_key (k : Nat) : (2 : Int) ^ (k % 8) % 256 = ((2 ^ (k % 8) : Nat) : Int) := by
  have h := pow_byte (show k % 8 < 8 by omega)
  have e : (2 : Int) ^ (k % 8) = ((2 ^ (k % 8) : Nat) : Int) := by push_cast; rfl
  rw [e]
  generalize 2 ^ (k % 8) = m at h ⊢
  omega
/-- The byte in which a bit is. -/
theorem byte_of_bit {L : List UInt8} (hL : L.length = 256) {p : Nat} (hp : p < 2048) : ∃ x : UInt8, L[p / 8]? = some x ∧ bitAt L p = x.toNat.testBit (p % 8) ∧ L.getD (p / 8) 0 = x := by
  have h : p / 8 < L.length := by omega
  have e : L.getD (p / 8) 0 = L[p / 8] := by simp [List.getD, h]
  exact ⟨L[p / 8], List.getElem?_eq_getElem h, by unfold bitAt; rw [e], e⟩
theorem bit_neq (x : UInt8) (r : Nat) (h : r < 8) : (bits .and .u8 (x.toNat : Int) ((2 ^ r : Nat) : Int) != 0) = x.toNat.testBit r := by
  rw [bits_and_mask x r h]
  have := and_mask x.toNat r
  cases e : x.toNat.testBit r
  · rw [this.2 e]; rfl
  · have h2 : ¬ (x.toNat &&& 2 ^ r) = 0 := fun h => by rw [this.1 h] at e; cases e
    simp only [bne_iff_ne, ne_eq]
    omega
theorem bit_eql (x : UInt8) (r : Nat) (h : r < 8) : (bits .and .u8 (x.toNat : Int) ((2 ^ r : Nat) : Int) == 0) = !x.toNat.testBit r := by
  rw [← bit_neq x r h]
  simp [bne]



end Go.Proofs.YtkakihbfhmiabaaGreat

/-
  Contracts of package chart: Make, Patch.
-/
namespace Go.Proofs.YtkakihbfhmiabaaGreat
open Go.RowKit
set_option maxRecDepth 10000



end Go.Proofs.YtkakihbfhmiabaaGreat

/-
  Contracts of the law's own functions of layer 21: To, Same, small.
-/
namespace Go.Proofs.YtkakihbfhmiabaaGreat
open Go.RowKit
set_option maxRecDepth 10000

theorem OwnK.of_blk {w : World} {B g : Nat} {e : TypeId} {L : List (List UInt8)} (hL : Bks L) (hg : Blk w g e (bcells L.flatten)) (hb : B ≤ g) (hm : L.length ≤ maxLen) : OwnK w B e (.slice (some ⟨g, 0, none⟩) L.length L.length) L :=
  ⟨hL, by rw [List.length_map, flat_len hL], Or.inr ⟨g, L.length, bcells L.flatten, rfl, hb, hg, Nat.le_refl _, hm, by rw [bcells_size, flat_len hL], by unfold bcells; rw [List.toList_toArray, List.take_of_length_le (by rw [List.length_map, flat_len hL]; omega)]⟩⟩
/-- A result that is a list of blocks of the call's own. -/
def RetK (w : World) (L : List (List UInt8)) (e : Ending) (w' : World) : Prop := ∃ v, e = .returned v ∧ OwnK w' w.heap.size 82 v L ∧ Below w.heap.size w w'

theorem one_flat (d : List UInt8) : ([d] : List (List UInt8)).flatten = d := by simp
theorem one_bks {d : List UInt8} (h : d.length = 256) : Bks [d] := fun x hx => by rw [List.mem_singleton] at hx; subst hx; exact h
set_option maxHeartbeats 1600000 in
theorem to21_any (A : Option Addr) (n cap : Nat) (L : List (List UInt8)) (hn : L.length = n) (hL : Bks L) (hm : n ≤ 1099511627) (w : World) (hr : RK w A L) :
    Calls Tryz.prog 16 #[.slice A n cap] w (RetK w L) := by
  have Hn := Lib.hid hn
  have Hr := Lib.hid hr
  have HL := Lib.hid hL
  clear hn hr hL
  go_enter Tryz.func16, Tryz.ntmps16
  go_wp2_with fail
  go_loopw [3, 4] (fun v i wr => ∃ k : Nat, k ≤ n ∧ i = .int .i64 k ∧ Hid (OwnK wr w.heap.size 82 v (L.take k)) ∧ Hid (Below w.heap.size w wr)) (fun _ i _ => n - (intOf i).toNat)
  case atStart => exact ⟨0, Nat.zero_le _, rfl, Lib.hid (OwnK.nil_ _ _ _), Lib.hid (Below.refl _ _)⟩
  case round =>
    obtain ⟨k, hk, rfl, HO, E⟩ := hrel
    by_cases hlt : k < n
    · have hkl : k < L.length := by rw [Hn.out]; exact hlt
      obtain ⟨ad, rfl⟩ := Hr.out.addr (by omega)
      have HR := Lib.hid (Hr.out.below E.out)
      have HT := Lib.hid (List.take_succ_eq_append_getElem hkl)
      have HX := Lib.hid (HL.out.get hkl)
      have HTl := Lib.hid (show (L.take k).length = k by rw [List.length_take]; omega)
      have p0 : (0 : Int) ≤ (k : Int) := by omega
      go_wp2_with (first | refine wpList_load_bk rfl _ _ rfl ad k rfl L HL.out hkl HR.out _ Tryz.underlying81 rfl Tryz.arr256Size ?_ | refine wpList_build_bk rfl _ _ _ rfl Tryz.underlying48 Tryz.blockInfo (L[k]'hkl) HX.out rfl ?_)
      apply Stop.go; intro w2 Hg2 Hb2
      have HO2 := Lib.hid (HO.out.ext Hg2.out.1)
      have E2 := Lib.hid (bt E.out Hg2.out.1)
      have Hb2 := Lib.hid (show RK w2 (some ⟨wr.heap.size, 0, none⟩) [L[k]'hkl] from RK.of_blk (one_bks HX.out) (by rw [one_flat]; exact Hb2.out))
      clear Hg2 HO E HR
      go_wp2_with (at_builtin; refine wpList_append_bk rfl _ _ _ _ rfl Tryz.underlying48 _ Tryz.blockInfo ((bcells_size _).trans (zeros_len 256)) w.heap.size _ (L.take k) HO2.out ⟨wr.heap.size, 0, none⟩ 1 1 [L[k]'hkl] (one_bks HX.out) rfl Hb2.out rfl rfl E2.out.size (by rw [HTl.out]; omega) ?_)
      apply Stop.go; intro v3 w3 HO3 HB3
      have HO3 := Lib.hid (show OwnK w3 w.heap.size 82 v3 (L.take (k + 1)) by first | exact HO3.out | (rw [HT.out]; exact HO3.out))
      have E3 := Lib.hid (E2.out.trans HB3.out)
      clear HB3 HO2 E2 Hb2
      go_wp2_with fail
      go_roundw
      case rel => exact ⟨k + 1, by omega, by go_num, HO3, E3⟩
      case measure => simp [intOf]; omega
    · obtain rfl : k = n := by omega
      rw [List.take_of_length_le (by rw [Hn.out]; omega)] at HO
      go_wp2_with fail
      go_ret
      exact ⟨_, rfl, HO.out, E.out⟩



end Go.Proofs.YtkakihbfhmiabaaGreat

/-
  The contract of the document's Ints: are two lists of numbers the same?
-/
namespace Go.Proofs.YtkakihbfhmiabaaGreat
open Go.RowKit

end Go.Proofs.YtkakihbfhmiabaaGreat
