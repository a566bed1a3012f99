/-
  Layer 19: the walk of IndexLooks.
-/
import Derived.Test.YthcbjihdbkpkeaaLaw19
import Derived.Test.YthcbjihdbkpkeaaRf3
import Derived.Test.YthcbjihdbkpkeaaRef02
import Derived.Test.YthcbjihdbkpkeaaInts
namespace Go.Proofs.Ythcbjihdbkpkeaa
open Go.RowKit

set_option maxHeartbeats 6400000 in
theorem indexLooks_any (d : Int) (t : List Int) (ht : t.length = 32) (h : Nat) (hh : h < 4294967296) (n0 n1 : Int) (w : World) :
    Calls Try.prog 4 #[.agg (icells (d :: t)), .int .u32 h, .agg (icells [n0, n1])] w fun e w' => e = .returned (.bool true) ∧ Below w.heap.size w w' := by
  have HL := Lib.hid ht
  have HzT := Lib.hid zeroT_len
  have hmx : 32 ≤ maxLen := by unfold maxLen; omega
  obtain ⟨Q, HQ⟩ : ∃ Q, Hid (h % 2 ^ dpN d = Q) := ⟨_, Lib.hid rfl⟩
  obtain ⟨D, HD⟩ : ∃ D, Hid (dpN d = D) := ⟨_, Lib.hid rfl⟩
  obtain ⟨R, HR⟩ : ∃ R, Hid (bitX d t n0 = R) := ⟨_, Lib.hid rfl⟩
  obtain ⟨P, HP⟩ : ∃ P, Hid (icast (plcL d n0 n1) = P) := ⟨_, Lib.hid rfl⟩
  have HPm := Lib.hid (show P.length ≤ maxLen by rw [← HP.out, icast_len]; exact Nat.le_trans (plcL_len d n0 n1) hmx)
  obtain ⟨B, HB⟩ : ∃ B, Hid (buckK t (2 ^ dpN d) = B) := ⟨_, Lib.hid rfl⟩
  have HBm := Lib.hid (show B.length ≤ maxLen by rw [← HB.out]; exact Nat.le_trans (Nat.le_trans (buckK_len _ _) (pow32 (dpN_le d))) hmx)
  have C1 := Lib.hid (fun (w : World) => xplace_any d t ht h hh w)
  rw [HQ.out] at C1
  have C2 := Lib.hid (fun (w : World) => rdeep_any d t w)
  rw [HD.out] at C2
  have C3 := Lib.hid (show ∀ w, Calls Try.prog 17 #[.int .u64 h, .int .i64 D] w fun e w' => e = .returned (.int .i64 (Q : Nat)) ∧ w = w' from fun w => by
    have := rlow_any h hh D w
    rw [lowN_nat h D (by have := dpN_le d; rw [HD.out] at this; omega), ← HD.out, HQ.out, HD.out] at this
    exact this)
  have C4 := Lib.hid (fun (w : World) => xbits_any d t ht n0 w)
  rw [HR.out] at C4
  have C5 := Lib.hid (fun (w : World) => rbits_any d t ht n0 w)
  rw [HR.out] at C5
  have C6 := Lib.hid (fun (w : World) => places_any d t ht n0 n1 w)
  rw [HP.out] at C6
  have C7 := Lib.hid (fun (w : World) => rplaces_any d t ht n0 n1 w)
  rw [HP.out] at C7
  have C8 := Lib.hid (fun (w : World) => xbuckets_any d t ht w)
  rw [HB.out] at C8
  have C9 := Lib.hid (fun (w : World) => rbuckets_any d t ht w)
  rw [HB.out] at C9
  have cU : IntKind.u64.wrap (h : Int) = h := IntWalk.u64_in _ (by omega)
  have e1 : ((Q : Int) == (Q : Int)) = true := by simp
  have e2 : ((R : Int) == (R : Int)) = true := by simp
  clear HQ HD HR HP HB hmx
  go_enter Try.func4, Try.ntmps4
  go_wp2_with (refine wpList_box_row rfl _ _ rfl _ rfl ?_)
  apply Stop.go; intro w1 Hg1 Hb1
  go_wp2_with (refine wpList_box_row rfl _ _ rfl _ rfl ?_)
  apply Stop.go; intro w2 Hg2 Hb2
  have z1 := Hg1.out.2
  have z2 := Hg2.out.2
  have HB2 := Lib.hid (Hb1.out.ext Hg2.out.1)
  have E2 := Lib.hid (bt Hg1.out.1 Hg2.out.1)
  have Hz := Lib.hid (show w.heap.size < w1.heap.size ∧ w1.heap.size < w2.heap.size by omega)
  clear z1 z2
  generalize w1.heap.size = gn at *
  go_wp2_with (first | refine wpList_load_blk rfl _ _ rfl _ rfl _ _ HB2.out _ Try.underlying24 rfl (Try.rxFits HL.out) ?_ | refine wpList_alloc_row rfl _ rfl _ Try.ixZero ?_)
  apply Stop.go; intro w3 Hg3 Hb3
  go_wp2_with (refine wpList_store_arr rfl _ _ _ rfl _ _ rfl rfl _ _ Hb3.out (Try.ixFits HL.out) (icells_same HzT.out HL.out) (oneCell_icells _) ?_)
  apply Stop.go; intro w4 Ho4 Hb4
  have HB4 := Lib.hid ((HB2.out.ext Hg3.out.1).only Ho4.out (by have := Hz.out; omega))
  have HN4 := Lib.hid ((Hb2.out.ext Hg3.out.1).only Ho4.out (by have := Hz.out; omega))
  have E4 := Lib.hid (bonly (bt E2.out Hg3.out.1) Ho4.out (by have := Hz.out; omega))
  generalize w2.heap.size = g7 at *
  clear HB2 Hb2 E2 Hg1 Hg2 Hb1 Hg3 Hb3 Ho4 Hz
  go_wp2_with fail
  refine WH.start (S := (fun w' : World => Blk w' w.heap.size 24 (icells (d :: t)) ∧ (Blk w' g7 30 (icells (d :: t)) ∧ Blk w' gn 44 (icells [n0, n1])))) [false, false, false, false, false, false, false, false, false, false, false, false, false, false, false, false, false, false, false, false, false, false, false, false, false, false, false, false, false, false, false, false, false, false, false, false, false, false, false, false, false, false, false, false, false, false] 46 rfl rfl (by kernel_rfl) (⟨HB4.out.ext (bdrew w4 1), Hb4.out.ext (bdrew w4 1), HN4.out.ext (bdrew w4 1)⟩) (fun hSn => ?_); obtain ⟨wS, hwS⟩ : ∃ x, (w4).drew = x := ⟨_, rfl⟩; have HE := Lib.hid (show Below (w4).heap.size (w4) wS from hwS ▸ bdrew w4 1); rw [hwS] at hSn ⊢; clear hwS
  refine WH.tv 0 rfl (fun w' hSw => exec_load_blk _ _ rfl _ rfl _ _ (hSw.2.1) _ (Try.underlying30) rfl (Try.ixFits HL.out)) ?_; simp only [setL]
  refine WH.tk 1 ?_; simp only [setL]
  refine WH.tk 3 ?_; simp only [setL]
  refine WH.tk 4 ?_; simp only [setL]
  refine WH.tv 5 rfl (fun w' hSw => exec_load_blk _ _ rfl _ rfl _ _ (hSw.1) _ (Try.underlying24) rfl (Try.rxFits HL.out)) ?_; simp only [setL]
  refine WH.only 2 _ rfl (by kernel_rfl) rfl (fun K hK => ?_)
  go_simp; refine (C1.out _).mono ?_; rintro e a1 ⟨rfl, hba⟩; go_simp
  have HE := Lib.hid (bt HE.out hba)
  have hSn := And.intro (hSn.1.ext hba) (And.intro (hSn.2.1.ext hba) (hSn.2.2.ext hba)); refine hK _ _ hSn ?_; clear hK; clear K; simp only [setL]
  clear hba
  refine WH.only 6 _ rfl (by kernel_rfl) rfl (fun K hK => ?_)
  go_simp; refine (C2.out _).mono ?_; rintro e a2 ⟨rfl, hba⟩; go_simp
  have HE := Lib.hid (bt HE.out hba)
  have hSn := And.intro (hSn.1.ext hba) (And.intro (hSn.2.1.ext hba) (hSn.2.2.ext hba)); refine hK _ _ hSn ?_; clear hK; clear K; simp only [setL]
  clear hba
  refine WH.only 7 _ rfl (by kernel_rfl) rfl (fun K hK => ?_)
  go_simp; refine (C3.out _).mono ?_; rintro e a3 ⟨rfl, rfl⟩; go_simp
  have hSn := hSn; refine hK _ _ hSn ?_; clear hK; clear K; simp only [setL]
  refine WH.tk 8 ?_; simp only [setL]
  refine WH.tk 9 ?_; simp only [setL]
  refine WH.tv 10 rfl (fun w' hSw => exec_load_blk _ _ rfl _ rfl _ _ (hSw.2.1) _ (Try.underlying30) rfl (Try.ixFits HL.out)) ?_; simp only [setL]
  refine WH.tk 11 ?_; simp only [setL]
  refine WH.tv 12 rfl (fun w' hSw => exec_load_cell _ _ rfl ⟨gn, 0, none⟩ rfl _ (hSw.2.2.cell 0) _ Try.underlying3 rfl) ?_; simp only [setL]
  refine WH.tv 14 rfl (fun w' hSw => exec_load_blk _ _ rfl _ rfl _ _ (hSw.1) _ (Try.underlying24) rfl (Try.rxFits HL.out)) ?_; simp only [setL]
  refine WH.tk 15 ?_; simp only [setL]
  refine WH.tv 16 rfl (fun w' hSw => exec_load_cell _ _ rfl ⟨gn, 0, none⟩ rfl _ (hSw.2.2.cell 0) _ Try.underlying3 rfl) ?_; simp only [setL]
  refine WH.only 13 _ rfl (by kernel_rfl) rfl (fun K hK => ?_)
  go_simp; refine (C4.out _).mono ?_; rintro e a4 ⟨rfl, hba⟩; go_simp
  have HE := Lib.hid (bt HE.out hba)
  have hSn := And.intro (hSn.1.ext hba) (And.intro (hSn.2.1.ext hba) (hSn.2.2.ext hba)); refine hK _ _ hSn ?_; clear hK; clear K; simp only [setL]
  clear hba
  refine WH.only 17 _ rfl (by kernel_rfl) rfl (fun K hK => ?_)
  go_simp; refine (C5.out _).mono ?_; rintro e a5 ⟨rfl, hba⟩; go_simp
  have HE := Lib.hid (bt HE.out hba)
  have hSn := And.intro (hSn.1.ext hba) (And.intro (hSn.2.1.ext hba) (hSn.2.2.ext hba)); refine hK _ _ hSn ?_; clear hK; clear K; simp only [setL]
  clear hba
  refine WH.tk 18 ?_; simp only [setL]
  refine WH.tk 19 ?_; simp only [setL]
  refine WH.tk 20 ?_; simp only [setL]
  refine WH.tv 21 rfl (fun w' hSw => exec_load_blk _ _ rfl _ rfl _ _ (hSw.2.1) _ (Try.underlying30) rfl (Try.ixFits HL.out)) ?_; simp only [setL]
  refine WH.tk 22 ?_; simp only [setL]
  refine WH.tv 23 rfl (fun w' hSw => exec_load_cell _ _ rfl ⟨gn, 0, none⟩ rfl _ (hSw.2.2.cell 0) _ Try.underlying3 rfl) ?_; simp only [setL]
  refine WH.tk 24 ?_; simp only [setL]
  refine WH.tv 25 rfl (fun w' hSw => exec_load_cell _ _ rfl ⟨gn, 1, none⟩ rfl _ (hSw.2.2.cell 1) _ Try.underlying3 rfl) ?_; simp only [setL]
  refine WH.tv 27 rfl (fun w' hSw => exec_load_blk _ _ rfl _ rfl _ _ (hSw.1) _ (Try.underlying24) rfl (Try.rxFits HL.out)) ?_; simp only [setL]
  refine WH.tk 28 ?_; simp only [setL]
  refine WH.tv 29 rfl (fun w' hSw => exec_load_cell _ _ rfl ⟨gn, 0, none⟩ rfl _ (hSw.2.2.cell 0) _ Try.underlying3 rfl) ?_; simp only [setL]
  refine WH.tk 30 ?_; simp only [setL]
  refine WH.tv 31 rfl (fun w' hSw => exec_load_cell _ _ rfl ⟨gn, 1, none⟩ rfl _ (hSw.2.2.cell 1) _ Try.underlying3 rfl) ?_; simp only [setL]
  refine WH.only 26 _ rfl (by kernel_rfl) rfl (fun K hK => ?_)
  go_simp; refine (C6.out _).mono ?_; rintro e a6 ⟨V6, rfl, ho, hba⟩; go_simp
  obtain ⟨A6, c6, rfl, hc1, hc2, hrc⟩ := ho.ints
  have R6 := Lib.hid hrc
  have HE := Lib.hid (bt HE.out hba)
  have hSn := And.intro (hSn.1.ext hba) (And.intro (hSn.2.1.ext hba) (hSn.2.2.ext hba)); refine hK _ _ hSn ?_; clear hK; clear K; simp only [setL]
  clear hba hrc hc1 hc2 ho
  refine WH.only 32 _ rfl (by kernel_rfl) rfl (fun K hK => ?_)
  go_simp; refine (C7.out _).mono ?_; rintro e a7 ⟨V7, rfl, ho, hba⟩; go_simp
  obtain ⟨A7, c7, rfl, hc1, hc2, hrc⟩ := ho.ints
  have R6 := Lib.hid (R6.out.below hba)
  have R7 := Lib.hid hrc
  have HE := Lib.hid (bt HE.out hba)
  have hSn := And.intro (hSn.1.ext hba) (And.intro (hSn.2.1.ext hba) (hSn.2.2.ext hba)); refine hK _ _ hSn ?_; clear hK; clear K; simp only [setL]
  clear hba hrc hc1 hc2 ho
  refine WH.only 33 _ rfl (by kernel_rfl) rfl (fun K hK => ?_)
  go_simp; refine (ints_any A6 _ c6 P rfl A7 _ c7 P rfl HPm.out HPm.out _ R6.out R7.out).mono ?_; rintro e a8 ⟨rfl, m8, rfl⟩; go_simp
  have HE := Lib.hid (bt HE.out (bdrew a7 m8))
  have hSn := And.intro (hSn.1.ext (bdrew a7 m8)) (And.intro (hSn.2.1.ext (bdrew a7 m8)) (hSn.2.2.ext (bdrew a7 m8))); refine hK _ _ hSn ?_; clear hK; clear K; simp only [setL]
  clear R6 R7
  obtain ⟨b7, hb7⟩ : ∃ x, a7.drewN m8 = x := ⟨_, rfl⟩
  rw [hb7] at HE hSn ⊢
  clear hb7
  refine WH.tk 34 ?_; simp only [setL]
  refine WH.tk 35 ?_; simp only [setL]
  refine WH.tv 36 rfl (fun w' hSw => exec_load_blk _ _ rfl _ rfl _ _ (hSw.2.1) _ (Try.underlying30) rfl (Try.ixFits HL.out)) ?_; simp only [setL]
  refine WH.tv 38 rfl (fun w' hSw => exec_load_blk _ _ rfl _ rfl _ _ (hSw.1) _ (Try.underlying24) rfl (Try.rxFits HL.out)) ?_; simp only [setL]
  refine WH.only 37 _ rfl (by kernel_rfl) rfl (fun K hK => ?_)
  go_simp; refine (C8.out _).mono ?_; rintro e b1 ⟨V8, rfl, ho, hba⟩; go_simp
  obtain ⟨A8, c8, rfl, hc1, hc2, hrc⟩ := ho.ints
  have R8 := Lib.hid hrc
  have HE := Lib.hid (bt HE.out hba)
  have hSn := And.intro (hSn.1.ext hba) (And.intro (hSn.2.1.ext hba) (hSn.2.2.ext hba)); refine hK _ _ hSn ?_; clear hK; clear K; simp only [setL]
  clear hba hrc hc1 hc2 ho
  refine WH.only 39 _ rfl (by kernel_rfl) rfl (fun K hK => ?_)
  go_simp; refine (C9.out _).mono ?_; rintro e b2 ⟨V9, rfl, ho, hba⟩; go_simp
  obtain ⟨A9, c9, rfl, hc1, hc2, hrc⟩ := ho.ints
  have R8 := Lib.hid (R8.out.below hba)
  have R9 := Lib.hid hrc
  have HE := Lib.hid (bt HE.out hba)
  have hSn := And.intro (hSn.1.ext hba) (And.intro (hSn.2.1.ext hba) (hSn.2.2.ext hba)); refine hK _ _ hSn ?_; clear hK; clear K; simp only [setL]
  clear hba hrc hc1 hc2 ho
  refine WH.only 40 _ rfl (by kernel_rfl) rfl (fun K hK => ?_)
  go_simp; refine (ints_any A8 _ c8 B rfl A9 _ c9 B rfl HBm.out HBm.out _ R8.out R9.out).mono ?_; rintro e b3 ⟨rfl, m9, rfl⟩; go_simp
  have HE := Lib.hid (bt HE.out (bdrew b2 m9))
  have hSn := And.intro (hSn.1.ext (bdrew b2 m9)) (And.intro (hSn.2.1.ext (bdrew b2 m9)) (hSn.2.2.ext (bdrew b2 m9))); refine hK _ _ hSn ?_; clear hK; clear K; simp only [setL]
  clear R8 R9
  obtain ⟨b8, hb8⟩ : ∃ x, b2.drewN m9 = x := ⟨_, rfl⟩
  rw [hb8] at HE hSn ⊢
  clear hb8
  refine WH.tk 41 ?_; simp only [setL]
  refine WH.tk 42 ?_; simp only [setL]
  refine WH.only 43 _ rfl (by kernel_rfl) rfl (fun K hK => ?_)
  go_simp; refine (works19_any _).mono ?_; rintro e b4 ⟨rfl, hba⟩; go_simp
  have HE := Lib.hid (bt HE.out hba)
  have hSn := And.intro (hSn.1.ext hba) (And.intro (hSn.2.1.ext hba) (hSn.2.2.ext hba)); refine hK _ _ hSn ?_; clear hK; clear K; simp only [setL]
  refine WH.tk 44 ?_; simp only [setL]
  refine WH.tk 45 ?_; simp only [setL]
  refine WH.done (by kernel_rfl) ?_
  go_wp2_with fail
  go_ret
  exact ⟨rfl, bt E4.out HE.out⟩

end Go.Proofs.Ythcbjihdbkpkeaa
