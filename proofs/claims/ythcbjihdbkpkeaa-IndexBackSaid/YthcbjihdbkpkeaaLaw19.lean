/-
  Layer 19: works, and the walk of IndexPuts.
-/
import Derived.Test.YthcbjihdbkpkeaaRf7
namespace Go.Proofs.Ythcbjihdbkpkeaa
open Go.RowKit

def w19a : List Int := zeroT.set 0 7
def w19b : List Int := w19a.set 1 7
def w19c : List Int := setX 1 w19b 1 1 9
def w19d : List Int := dblV 1 w19c
theorem w19_len : w19a.length = 32 ∧ w19b.length = 32 ∧ w19c.length = 32 ∧ w19d.length = 32 := by decide +kernel
theorem w19_at : bitX 1 w19b 0 = 0 ∧ fld w19c 0 = 7 ∧ fld w19c 1 = 9 ∧ dblE 1 = 0 ∧ fld w19d 3 = 9 ∧ dblD 1 = 2 ∧ rightX 2 w19d = true := by decide +kernel

set_option maxHeartbeats 1600000 in
theorem works19_any (w : World) : Calls Try.prog 15 #[] w fun e w' => e = .returned (.bool true) ∧ Below w.heap.size w w' := by
  obtain ⟨l1, l2, l3, l4⟩ := w19_len
  obtain ⟨a1, a2, a3, a4, a5, a6, a7⟩ := w19_at
  have HzL := Lib.hid zeroT_len
  have HLa := Lib.hid l1
  have HLb := Lib.hid l2
  have HLc := Lib.hid l3
  have HLd := Lib.hid l4
  have A1 := Lib.hid a1
  have A2 := Lib.hid a2
  have A3 := Lib.hid a3
  have A4 := Lib.hid a4
  have A5 := Lib.hid a5
  have A6 := Lib.hid a6
  have A7 := Lib.hid a7
  have Ha := Lib.hid (icells_put 1 zeroT 0 7)
  have Hb := Lib.hid (icells_put 1 w19a 1 7)
  have HSb := Lib.hid (fun (w : World) => xset_any 1 w19b l2 1 1 9 w)
  have HDb := Lib.hid (fun (w : World) => xdouble_any 1 w19c l3 w)
  have HBb := Lib.hid (fun (w : World) => xbits_any 1 w19b l2 0 w)
  have HRb := Lib.hid (fun (w : World) => xright_any 2 w19d l4 w)
  rw [show setX 1 w19b 1 1 9 = w19c from rfl] at HSb
  rw [show dblV 1 w19c = w19d from rfl, a4, a6] at HDb
  rw [a1] at HBb
  rw [a7] at HRb
  rw [show (zeroT.set 0 7) = w19a from rfl] at Ha
  rw [show (w19a.set 1 7) = w19b from rfl] at Hb
  have f1 : 1 < (icells ((1 : Int) :: zeroT)).size := by rw [icells_size, List.length_cons, zeroT_len]; omega
  have f2 : 2 < (icells ((1 : Int) :: w19a)).size := by rw [icells_size, List.length_cons, l1]; omega
  have F1 := Lib.hid f1
  have F2 := Lib.hid f2
  clear l1 l2 l3 l4 a1 a2 a3 a4 a5 a6 a7 f1 f2
  generalize w19a = T1 at *
  generalize w19b = T2 at *
  generalize w19c = T3 at *
  generalize w19d = T4 at *
  go_enter Try.func15, Try.ntmps15
  go_wp2_with (first | refine wpList_build_1 rfl _ _ _ rfl _ rfl _ (Try.ixBuilt1 1) ?_ | refine wpList_alloc_row rfl _ rfl _ Try.ixZero ?_)
  apply Stop.go; intro w1 Hg1 Hb1
  go_wp2_with (refine wpList_store_arr rfl _ _ _ rfl _ _ rfl rfl _ _ Hb1.out (Try.ixFits HzL.out) (icells_same HzL.out HzL.out) (oneCell_icells _) ?_)
  apply Stop.go; intro w2 Ho2 Hb2
  have E2 := Lib.hid (bonly Hg1.out.1 Ho2.out (Nat.le_refl _))
  clear Hg1 Hb1 Ho2
  go_wp2_with (refine wpList_store_cell rfl _ _ _ rfl Try.int1Size w.heap.size 1 rfl (.int .i64 7) rfl rfl rfl _ _ Hb2.out F1.out ?_)
  apply Stop.go; intro w3 Ho3 Hb3
  have hb3 := Hb3.out
  rw [Ha.out] at hb3
  have HB3 := Lib.hid hb3
  have E3 := Lib.hid (bonly E2.out Ho3.out (Nat.le_refl _))
  clear hb3 Hb3 Ho3 Hb2 E2
  go_wp2_with (refine wpList_store_cell rfl _ _ _ rfl Try.int1Size w.heap.size 2 rfl (.int .i64 7) rfl rfl rfl _ _ HB3.out F2.out ?_)
  apply Stop.go; intro w4 Ho4 Hb4
  have hb4 := Hb4.out
  rw [Hb.out] at hb4
  have HB4 := Lib.hid hb4
  have E4 := Lib.hid (bonly E3.out Ho4.out (Nat.le_refl _))
  clear hb4 Hb4 Ho4 HB3 E3
  go_wp2_with (refine wpList_load_blk rfl _ _ rfl _ rfl _ _ HB4.out _ Try.underlying30 rfl (Try.ixFits HLb.out) ?_)
  refine (HSb.out _).mono ?_; rintro e w5 ⟨rfl, hb5⟩
  have HB5 := Lib.hid (HB4.out.ext hb5)
  have E5 := Lib.hid (bt E4.out hb5)
  have Z5 := Lib.hid HB5.out.lt
  clear hb5 HB4 E4
  go_wp2_with (refine wpList_alloc_row rfl _ rfl _ Try.ixZero ?_)
  apply Stop.go; intro w6 Hg6 Hb6
  go_wp2_with (refine wpList_store_arr rfl _ _ _ rfl _ _ rfl rfl _ _ Hb6.out (Try.ixFits HLc.out) (icells_same HzL.out HLc.out) (oneCell_icells _) ?_)
  apply Stop.go; intro w7 Ho7 Hb7
  have HB7 := Lib.hid ((HB5.out.ext Hg6.out.1).only Ho7.out (by have := Z5.out; omega))
  have E7 := Lib.hid (bonly (bt E5.out Hg6.out.1) Ho7.out (Nat.le_of_lt Z5.out))
  generalize w5.heap.size = g2 at *
  clear Hg6 Hb6 Ho7 HB5 E5
  go_wp2_with (refine wpList_load_blk rfl _ _ rfl _ rfl _ _ Hb7.out _ Try.underlying30 rfl (Try.ixFits HLc.out) ?_)
  refine (HDb.out _).mono ?_; rintro e w8 ⟨rfl, hb8⟩
  have HB8 := Lib.hid (HB7.out.ext hb8)
  have HC8 := Lib.hid (Hb7.out.ext hb8)
  have E8 := Lib.hid (bt E7.out hb8)
  have Z8 := Lib.hid HC8.out.lt
  clear hb8 HB7 E7 Hb7
  go_wp2_with (refine wpList_alloc_row rfl _ rfl _ Try.ixZero ?_)
  apply Stop.go; intro w9 Hg9 Hb9
  go_wp2_with (refine wpList_store_arr rfl _ _ _ rfl _ _ rfl rfl _ _ Hb9.out (Try.ixFits HLd.out) (icells_same HzL.out HLd.out) (oneCell_icells _) ?_)
  apply Stop.go; intro wa Hoa Hba
  have HBa := Lib.hid ((HB8.out.ext Hg9.out.1).only Hoa.out (by have := Z5.out; have := Z8.out; omega))
  have HCa := Lib.hid ((HC8.out.ext Hg9.out.1).only Hoa.out (by have := Z8.out; omega))
  have Ea := Lib.hid (bonly (bt E8.out Hg9.out.1) Hoa.out (by have := Z5.out; have := Z8.out; omega))
  generalize w8.heap.size = g3 at *
  clear Hg9 Hb9 Hoa HB8 HC8 E8
  go_wp2_with (refine wpList_load_blk rfl _ _ rfl _ rfl _ _ HBa.out _ Try.underlying30 rfl (Try.ixFits HLb.out) ?_)
  refine (HBb.out _).mono ?_; rintro e wb ⟨rfl, hbb⟩
  have HCb := Lib.hid (HCa.out.ext hbb)
  have HDb2 := Lib.hid (Hba.out.ext hbb)
  have Eb := Lib.hid (bt Ea.out hbb)
  have c0 := int_cell HCb.out 0 (by rw [HLc.out]; omega)
  have c1 := int_cell HCb.out 1 (by rw [HLc.out]; omega)
  have c3 := int_cell HDb2.out 3 (by rw [HLd.out]; omega)
  have cd := dep_cell HDb2.out
  rw [A2.out] at c0
  rw [A3.out] at c1
  rw [A5.out] at c3
  clear hbb HBa HCa Hba Ea
  go_wp2_with (refine wpList_load_blk rfl _ _ rfl _ rfl _ _ HDb2.out _ Try.underlying30 rfl (Try.ixFits HLd.out) ?_)
  refine (HRb.out _).mono ?_; rintro e wc ⟨rfl, hbc⟩
  have Ec := Lib.hid (bt Eb.out hbc)
  clear hbc c0 c1 c3 cd
  go_wp2_with fail
  go_ret
  exact ⟨rfl, Ec.out⟩

end Go.Proofs.Ythcbjihdbkpkeaa
