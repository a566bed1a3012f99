/-
  Texts of this claim joined: Bck1, Bck2, Bck3, Bck5, Bck6.
-/
import Derived.Test.YtkakihbfhmiabaaGreatGrAH
import Derived.Test.YtkakihbfhmiabaaGreatGrAE
import Derived.Test.YtkakihbfhmiabaaGreatGrAF
import Derived.Test.YtkakihbfhmiabaaGreatGrAA
import Derived.Test.YtkakihbfhmiabaaGreatGrAS
import Derived.Test.YtkakihbfhmiabaaGreatPatO
import Derived.Test.YtkakihbfhmiabaaGreatGrAC
import Derived.Test.YtkakihbfhmiabaaGreatGrAK
import Derived.Test.YtkakihbfhmiabaaGreatGrAJ

/-
  Contracts of package bucket: isSlot, isIno, slotAt, mayBe, none, raw, lay, written.
-/
namespace Go.Proofs.YtkakihbfhmiabaaGreat
open Go.RowKit
set_option maxRecDepth 10000

theorem Tryz.entSize : (Tryz.prog.info? 56).map (·.size) = some 2 := by kernel_rfl
theorem Tryz.entZero : (Tryz.prog.info? 56).map (·.zero) = some (some (.agg #[.string ⟨#[]⟩, .int .i64 0])) := by kernel_rfl
/-- An entry as a value. -/
def ecells (e : En) : Array Value := #[.string e.name, .int .i64 e.ino]

/-! Plain: what the program's way of writing makes. -/
theorem written_with {e : En} (_h : mayE e = true) : nwithL (zeros 256) 0 2 e.ino.toNat = leBytes 2 e.ino.toNat ++ zeros 254 := by
  have := nwithL_zeros [] 0 256 2 e.ino.toNat rfl (by omega) (by omega) (by omega)
  rwa [List.nil_append, List.nil_append] at this
theorem written_lay {e : En} (h : mayE e = true) : layL (leBytes 2 e.ino.toNat ++ zeros 254) 2 (packN e.name) = bytesE e ++ zeros 224 := by
  have hp := packL_len' h
  have e1 : packN e.name = packL e.name.data.toList := by unfold packN; rw [if_pos (mayE_iff.1 h).1]
  have h1 := layL_zeros (leBytes 2 e.ino.toNat) (packL e.name.data.toList) 2 254 (leBytes_len _ _) (by omega) (by omega) (by omega)
  rw [e1]
  refine h1.trans ?_
  unfold bytesE
  rw [List.append_assoc, List.append_assoc, hp]
  congr 2
theorem written_copy {e : En} (h : mayE e = true) : splice (zeros 32) 0 ((bytesE e ++ zeros 224).take 32) = bytesE e := by
  have hl := bytesE_len h
  rw [List.take_append_of_le_length (by omega), List.take_of_length_le (by omega), splice_all _ _ (by rw [hl, zeros_len])]
theorem lay_put {b r : List UInt8} (hr : r.length = 32) {q : Nat} (hq : q < 7) : layL b ((32 + 32 * q : Nat) : Int) r = putS b q r := by
  unfold layL putS
  rw [if_pos (by unfold isPlaceB; simp; omega), Int.toNat_natCast, List.take_of_length_le (by omega)]

def slotB (k : Int) : Bool := decide (0 ≤ k ∧ k < 7)
theorem slotB_true {k : Int} (h : slotB k = true) : ∃ q : Nat, q < 7 ∧ k = (q : Int) := by
  unfold slotB at h
  have h := of_decide_eq_true h
  exact ⟨k.toNat, by omega, by omega⟩
theorem slotB_false {k : Int} (h : slotB k = false) : k < 0 ∨ 6 < k := by
  unfold slotB at h
  have h := of_decide_eq_false h
  omega
def inoB (k : Int) : Bool := decide (1 ≤ k ∧ k ≤ 128)
theorem isIno_any (k : Int) (w : World) : Calls Tryz.prog 120 #[.int .i64 k] w fun e w' => e = .returned (.bool (inoB k)) ∧ w = w' := by
  by_cases h : 1 ≤ k
  · go_enter Tryz.func120, Tryz.ntmps120
    go_wp2
    go_ret
    simp [h, inoB]
  · go_enter Tryz.func120, Tryz.ntmps120
    go_wp2
    go_ret
    simp [inoB]
    omega
theorem slotAt_any (q : Nat) (hq : q < 7) (w : World) : Calls Tryz.prog 123 #[.int .i64 q] w fun e w' => e = .returned (.int .i64 ((32 + 32 * q : Nat) : Int)) ∧ w = w' := by
  go_enter Tryz.func123, Tryz.ntmps123
  go_wp2
  go_ret
  simp
  omega

set_option maxHeartbeats 800000 in
theorem bmay_any (e : En) (hs : e.name.size ≤ maxLen) (w : World) :
    Calls Tryz.prog 86 #[.agg (ecells e)] w fun x w' => x = .returned (.bool (mayE e)) ∧ Below w.heap.size w w' := by
  have Hs := Lib.hid hs
  have HM : Hid (mayE e = (rightN e.name && inoB e.ino)) := Lib.hid rfl
  obtain ⟨s, i⟩ := e
  clear hs
  go_enter Tryz.func86, Tryz.ntmps86
  go_wp2_with (refine wpList_box_row rfl _ _ rfl _ rfl ?_)
  apply Stop.go; intro w1 Hg1 Hb1
  have c0 : w1.cell? ⟨w.heap.size, 0, none⟩ = some (.string s) := Hb1.out.cell 0
  have c1 : w1.cell? ⟨w.heap.size, 1, none⟩ = some (.int .i64 i) := Hb1.out.cell 1
  go_wp2_with fail
  refine (ncheck_any s Hs.out _).mono ?_; rintro e wx ⟨rfl, rfl⟩
  cases hr : rightN s
  · have HM := Lib.hid (show mayE ⟨s, i⟩ = false by rw [HM.out, hr]; rfl)
    clear hr
    rw [show errN false = 3 from rfl]
    go_wp2_with fail
    go_ret
    rw [HM.out]
    exact ⟨rfl, Hg1.out.1⟩
  · have HM := Lib.hid (show mayE ⟨s, i⟩ = inoB i by rw [HM.out, hr]; rfl)
    clear hr
    rw [show errN true = 0 from rfl]
    go_wp2_with fail
    refine (isIno_any i _).mono ?_; rintro e wx ⟨rfl, rfl⟩
    go_wp2_with fail
    go_ret
    rw [HM.out]
    exact ⟨rfl, Hg1.out.1⟩

def head4 : List UInt8 := [98, 107, 116, 33]
theorem head_lay : layL (zeros 256) 0 head4 = headB := by decide +kernel
set_option maxRecDepth 4000 in
set_option maxHeartbeats 800000 in
theorem bnone_any (w : World) : Calls Tryz.prog 87 #[] w (RetA w headB) := by
  have HhL := Lib.hid headB_len
  have HzL : Hid ((zeros 256).length = 256) := Lib.hid (zeros_len _)
  have HN := Lib.hid head_lay
  go_enter Tryz.func87, Tryz.ntmps87
  go_wp2_with (refine wpList_alloc_row rfl _ rfl _ Tryz.blockZero ?_)
  apply Stop.go; intro w1 Hg1 Hb1
  go_wp2_with (refine wpList_conv_text rfl _ _ _ rfl Tryz.underlying26 Tryz.underlying5 head4 _ rfl _ _ rfl ?_)
  apply Stop.go; intro w2 Hg2 Hr2
  go_wp2_with fail
  refine (nof_any _ 4 _ head4 rfl _ Hr2.out).mono ?_; rintro e w3 ⟨rfl, hb3⟩
  rw [HN.out]
  have HR3 := Lib.hid ((Hb1.out.ext Hg2.out.1).ext hb3)
  have E3 := Lib.hid (bt (bt Hg1.out.1 Hg2.out.1) hb3)
  clear hb3 Hg1 Hg2 Hb1 Hr2
  go_wp2_with (refine wpList_store_arr rfl _ _ _ rfl _ _ rfl rfl _ _ HR3.out (Tryz.blockFits HhL.out) (by rw [bcells_size, bcells_size, HhL.out, HzL.out]) (oneCell_bcells _) ?_)
  apply Stop.go; intro w5 Ho5 Hb5
  go_wp2_with ((with_reducible show bodyPost _ _ _ _ _ _); refine bodyPost_cell rfl _ rfl _ _ Hb5.out _ _ Tryz.underlying82 (Tryz.blockFits HhL.out) rfl ?_)
  apply Stop.go
  exact ⟨rfl, bonly E3.out Ho5.out (Nat.le_refl _)⟩

set_option maxHeartbeats 1600000 in
theorem braw_any (b : List UInt8) (hb : b.length = 256) (q : Nat) (hq : q < 7) (w : World) :
    Calls Tryz.prog 122 #[.agg (bcells b), .int .i64 q] w (RetA w (rawS b q)) := by
  have HbL := Lib.hid hb
  have HzL : Hid ((zeros 32).length = 32) := Lib.hid (zeros_len _)
  have HRL := Lib.hid (rawS_len hb hq)
  have HC := Lib.hid (rawS_copy hb hq)
  obtain ⟨X, HX⟩ : ∃ X, Hid (rawS b q = X) := ⟨_, Lib.hid rfl⟩
  rw [HX.out] at HC HRL
  go_enter Tryz.func122, Tryz.ntmps122
  go_wp2_with (refine wpList_box_row rfl _ _ rfl _ rfl ?_)
  apply Stop.go; intro w1 Hg1 Hb1
  go_wp2_with (refine wpList_alloc_row rfl _ rfl _ Tryz.b32Zero ?_)
  apply Stop.go; intro w2 Hg2 Hb2
  go_wp2_with (refine wpList_alloc_row rfl _ rfl _ Tryz.b32Zero ?_)
  apply Stop.go; intro w3 Hg3 Hb3
  have HB3 := Lib.hid ((Hb1.out.ext Hg2.out.1).ext Hg3.out.1)
  have HR3 := Lib.hid (Hb2.out.ext Hg3.out.1)
  have E3 := Lib.hid (bt (bt Hg1.out.1 Hg2.out.1) Hg3.out.1)
  have z3 := Lib.hid (show w.heap.size < w1.heap.size ∧ w1.heap.size < w2.heap.size by have := Hg1.out.2; have := Hg2.out.2; omega)
  generalize w1.heap.size = g1 at *
  generalize w2.heap.size = g2 at *
  clear Hb1 Hb2 Hg1 Hg2 Hg3 hb
  go_wp2_with fail
  refine WH.start (S := fun w' : World => Blk w' w.heap.size 82 (bcells b)) [false, false, false, false, false] 5 rfl rfl (by kernel_rfl) (HB3.out.ext (bdrew w3 1)) (fun hSn => ?_); obtain ⟨wS, hwS⟩ : ∃ x, (w3).drew = x := ⟨_, rfl⟩; have HE := Lib.hid (show Below (w3).heap.size (w3) wS from hwS ▸ bdrew w3 1); rw [hwS] at hSn ⊢; clear hwS
  refine WH.tk 0 ?_; simp only [setL]
  refine WH.tk 1 ?_; simp only [setL]
  refine WH.only 2 _ rfl (by kernel_rfl) rfl (fun K hK => ?_)
  go_simp; refine (slotAt_any q hq _).mono ?_; rintro e wa ⟨rfl, rfl⟩; go_simp
  have hSn := hSn; refine hK _ _ hSn ?_; clear hK; clear K; simp only [setL]
  refine WH.tv 3 rfl (fun w' hSw => exec_slice_l _ _ _ rfl _ _ Tryz.underlying82 Tryz.byteSize _ rfl _ _ rfl (32 + 32 * q) (by omega) (by omega)) ?_; simp only [setL]
  refine WH.only 4 _ rfl (by kernel_rfl) rfl (fun K hK => ?_)
  refine ow_copy _ _ _ _ rfl _ Tryz.underlying26 Tryz.byteSize g2 0 32 32 (zeros 32) _ rfl (Hb3.out.ext HE.out) (by rw [HzL.out]; omega) _ _ _ ((b.drop (32 + 32 * q)).take (256 - (32 + 32 * q))) rfl (by rw [List.length_take, List.length_drop, HbL.out]; omega) (RB.of_blk_at (HB3.out.ext HE.out) (32 + 32 * q) (256 - (32 + 32 * q))) ?_
  apply Stop.go; intro wb Hob Hbb
  rw [HC.out] at Hbb
  have hSn := hSn.only Hob.out (by have := z3.out; omega); refine hK _ _ hSn ?_; clear hK; clear K; simp only [setL]
  refine WH.done (by kernel_rfl) ?_
  have HRb := Lib.hid ((HR3.out.ext HE.out).only Hob.out (by have := z3.out; omega))
  have Eb := Lib.hid (bonly (bt E3.out HE.out) Hob.out (by have := z3.out; omega))
  clear HR3 HB3 hSn HE Hob E3 HC
  go_wp2_with (first | refine wpList_load_arr rfl _ _ rfl _ rfl _ _ Hbb.out _ _ Tryz.underlying121 (Tryz.b32Fits HRL.out) ?_ | refine wpList_store_arr rfl _ _ _ rfl _ _ rfl rfl _ _ HRb.out (Tryz.b32Fits HRL.out) (by simp only [bcells_size, HRL.out, HzL.out]) (oneCell_bcells _) ?_)
  apply Stop.go; intro w5 Ho5 Hb5
  go_wp2_with ((with_reducible show bodyPost _ _ _ _ _ _); refine bodyPost_cell rfl _ rfl _ _ Hb5.out _ _ Tryz.underlying121 (Tryz.b32Fits HRL.out) rfl ?_)
  apply Stop.go
  rw [HX.out]
  exact ⟨rfl, bonly Eb.out Ho5.out (by have := z3.out; omega)⟩

set_option maxHeartbeats 1600000 in
theorem blay_any (b : List UInt8) (hb : b.length = 256) (q : Nat) (hq : q < 7) (r : List UInt8) (hr : r.length = 32) (w : World) :
    Calls Tryz.prog 89 #[.agg (bcells b), .int .i64 q, .agg (bcells r)] w (RetA w (putS b q r)) := by
  have HbL := Lib.hid hb
  have HrL := Lib.hid hr
  have HzL : Hid ((zeros 256).length = 256) := Lib.hid (zeros_len _)
  have HPL := Lib.hid (putS_len hb hq hr)
  have HP := Lib.hid (lay_put (b := b) hr hq)
  obtain ⟨X, HX⟩ : ∃ X, Hid (putS b q r = X) := ⟨_, Lib.hid rfl⟩
  rw [HX.out] at HPL HP ⊢
  have hpl := slotAt_any q hq
  obtain ⟨o, Ho⟩ : ∃ o, Hid (32 + 32 * q = o) := ⟨_, Lib.hid rfl⟩
  rw [Ho.out] at hpl HP
  go_enter Tryz.func89, Tryz.ntmps89
  go_wp2_with (refine wpList_box_row rfl _ _ rfl _ rfl ?_)
  apply Stop.go; intro w1 Hg1 Hb1
  go_wp2_with (refine wpList_box_row rfl _ _ rfl _ rfl ?_)
  apply Stop.go; intro w2 Hg2 Hb2
  go_wp2_with (refine wpList_alloc_row rfl _ rfl _ Tryz.blockZero ?_)
  apply Stop.go; intro w3 Hg3 Hb3
  have HB3 := Lib.hid ((Hb1.out.ext Hg2.out.1).ext Hg3.out.1)
  have HR3 := Lib.hid (Hb2.out.ext Hg3.out.1)
  have E3 := Lib.hid (bt (bt Hg1.out.1 Hg2.out.1) Hg3.out.1)
  have z3 := Lib.hid (show w.heap.size < w1.heap.size ∧ w1.heap.size < w2.heap.size by have := Hg1.out.2; have := Hg2.out.2; omega)
  generalize w1.heap.size = g1 at *
  generalize w2.heap.size = g2 at *
  clear Hb1 Hb2 Hg1 Hg2 Hg3 hb hr
  go_wp2_with fail
  refine WH.start (S := fun w' : World => Blk w' w.heap.size 82 (bcells b)) [false, false, false, false, false, false] 6 rfl rfl (by kernel_rfl) (HB3.out.ext (bdrew w3 1)) (fun hSn => ?_); obtain ⟨wS, hwS⟩ : ∃ x, (w3).drew = x := ⟨_, rfl⟩; have HE := Lib.hid (show Below (w3).heap.size (w3) wS from hwS ▸ bdrew w3 1); rw [hwS] at hSn ⊢; clear hwS
  refine WH.tv 0 rfl (fun w' hSw => exec_load_blk _ _ rfl _ rfl _ _ (hSw) _ (Tryz.underlying82) rfl (Tryz.blockFits HbL.out)) ?_; simp only [setL]
  refine WH.tk 1 ?_; simp only [setL]
  refine WH.tv 3 rfl (fun w' hSw => exec_slice_all _ _ rfl 32 _ Tryz.underlying121 Tryz.byteSize g1 rfl (by decide)) ?_; simp only [setL]
  refine WH.only 2 _ rfl (by kernel_rfl) rfl (fun K hK => ?_)
  go_simp; refine (hpl _).mono ?_; rintro e wa ⟨rfl, rfl⟩; go_simp
  have hSn := hSn; refine hK _ _ hSn ?_; clear hK; clear K; simp only [setL]
  refine WH.only 4 _ rfl (by kernel_rfl) rfl (fun K hK => ?_)
  go_simp; refine (nlay_any b HbL.out (o : Int) _ 32 _ r HrL.out _ (RB.of_blk0 (HR3.out.ext HE.out))).mono ?_; rintro e wb ⟨rfl, hbb⟩; go_simp
  rw [HP.out]
  have HE := Lib.hid (bt HE.out hbb)
  have hSn := hSn.ext hbb; refine hK _ _ hSn ?_; clear hK; clear K; simp only [setL]
  refine WH.only 5 _ rfl (by kernel_rfl) rfl (fun K hK => ?_)
  refine ow_store _ _ _ rfl _ _ rfl rfl _ _ (Hb3.out.ext HE.out) (Tryz.blockFits HPL.out) (by rw [bcells_size, bcells_size, HPL.out, HzL.out]) (oneCell_bcells _) ?_
  apply Stop.go; intro wc Hoc Hbc
  have hSn := hSn.only Hoc.out (by have := z3.out; omega); refine hK _ _ hSn ?_; clear hK; clear K; simp only [setL]
  refine WH.done (by kernel_rfl) ?_
  go_wp2_with ((with_reducible show bodyPost _ _ _ _ _ _); refine bodyPost_cell rfl _ rfl _ _ Hbc.out _ _ Tryz.underlying82 (Tryz.blockFits HPL.out) rfl ?_)
  apply Stop.go
  exact ⟨rfl, bonly (bt E3.out HE.out) Hoc.out (by have := z3.out; omega)⟩

set_option maxHeartbeats 1600000 in
theorem written_any (e : En) (hm : mayE e = true) (w : World) :
    Calls Tryz.prog 90 #[.agg (ecells e)] w (RetA w (bytesE e)) := by
  have Hs := Lib.hid (show e.name.size ≤ maxLen by have := (rightN_size (mayE_iff.1 hm).1).2; unfold maxLen; omega)
  have HzL : Hid ((zeros 256).length = 256) := Lib.hid (zeros_len _)
  have Hz32 : Hid ((zeros 32).length = 32) := Lib.hid (zeros_len _)
  have Hz25 : Hid ((zeros 25).length = 25) := Lib.hid (zeros_len _)
  have HWi := Lib.hid (written_with hm)
  have HWl := Lib.hid (written_lay hm)
  have HWc := Lib.hid (written_copy hm)
  have HBL := Lib.hid (bytesE_len hm)
  have HPL := Lib.hid (packN_len e.name)
  have HI := Lib.hid (show 0 ≤ e.ino ∧ e.ino ≤ 128 by have := mayE_iff.1 hm; omega)
  have HU := Lib.hid (show IntKind.u64.wrap e.ino = (e.ino.toNat : Nat) by
    have h := HI.out
    rw [Int.toNat_of_nonneg h.1]
    exact IntWalk.u64_in _ (by omega))
  obtain ⟨s, i⟩ := e
  obtain ⟨W1, hW1⟩ : ∃ W1, leBytes 2 i.toNat ++ zeros 254 = W1 := ⟨_, rfl⟩
  have HL1 : Hid (W1.length = 256) := Lib.hid (by rw [← hW1, List.length_append, leBytes_len, zeros_len])
  obtain ⟨X, hX⟩ : ∃ X, bytesE ⟨s, i⟩ = X := ⟨_, rfl⟩
  obtain ⟨pk, hpk⟩ : ∃ p, packN s = p := ⟨_, rfl⟩
  simp only [hW1, hX, hpk] at HWi HWl HWc HBL HPL ⊢
  have HL2 : Hid ((X ++ zeros 224).length = 256) := Lib.hid (by rw [List.length_append, HBL.out, zeros_len])
  obtain ⟨W2, hW2⟩ : ∃ W2, X ++ zeros 224 = W2 := ⟨_, rfl⟩
  rw [hW2] at HWl HWc HL2
  have HP := Lib.hid (fun w => pack_any s Hs.out w)
  rw [hpk] at HP
  clear hW1 hW2 hX hpk hm
  go_enter Tryz.func90, Tryz.ntmps90
  go_wp2_with (refine wpList_box_row rfl _ _ rfl _ rfl ?_)
  apply Stop.go; intro w1 Hg1 Hb1
  go_wp2_with (refine wpList_alloc_row rfl _ rfl _ Tryz.b32Zero ?_)
  apply Stop.go; intro w2 Hg2 Hb2
  have HE2 := Lib.hid (Hb1.out.ext Hg2.out.1)
  have E2 := Lib.hid (bt Hg1.out.1 Hg2.out.1)
  have z2 := Lib.hid (show w.heap.size < w1.heap.size ∧ w1.heap.size < w2.heap.size by have := Hg1.out.2; have := Hg2.out.2; omega)
  generalize w1.heap.size = g1 at *
  clear Hb1 Hg1 Hg2
  have c0 : w2.cell? ⟨w.heap.size, 0, none⟩ = some (.string s) := HE2.out.cell 0
  go_wp2_with fail
  refine (HP.out _).mono ?_; rintro e w3 ⟨rfl, hb3⟩
  have HE3 := Lib.hid (HE2.out.ext hb3)
  have HR3 := Lib.hid (Hb2.out.ext hb3)
  have E3 := Lib.hid (bt E2.out hb3)
  have z3 := Lib.hid (show w.heap.size < g1 ∧ g1 < w3.heap.size by have := z2.out; have := hb3.size; omega)
  clear hb3 HE2 Hb2 E2 z2 c0 HP
  go_wp2_with (refine wpList_alloc_row rfl _ rfl _ Tryz.packZero ?_)
  apply Stop.go; intro w4 Hg4 Hb4
  go_wp2_with (refine wpList_store_arr rfl _ _ _ rfl _ _ rfl rfl _ _ Hb4.out (Tryz.packFits HPL.out) (by rw [bcells_size, bcells_size, HPL.out, Hz25.out]) (oneCell_bcells _) ?_)
  apply Stop.go; intro w5 Ho5 Hb5
  have HE5 := Lib.hid ((HE3.out.ext Hg4.out.1).only Ho5.out (by have := z3.out; omega))
  have HR5 := Lib.hid ((HR3.out.ext Hg4.out.1).only Ho5.out (by have := z3.out; omega))
  have E5 := Lib.hid (bonly (bt E3.out Hg4.out.1) Ho5.out (by have := z3.out; omega))
  have z5 := Lib.hid (show w.heap.size < g1 ∧ g1 < w3.heap.size ∧ w3.heap.size < w5.heap.size by have := z3.out; have := Hb5.out.lt; omega)
  generalize w3.heap.size = g3 at *
  clear Hg4 Hb4 Ho5 HE3 HR3 E3 z3
  have c1 : w5.cell? ⟨w.heap.size, 1, none⟩ = some (.int .i64 i) := HE5.out.cell 1
  go_wp2_with (refine wpList_build_zero rfl _ rfl _ Tryz.blockZero _ _ Tryz.underlying82 Tryz.byteSize ?_)
  refine (nwith_any (zeros 256) HzL.out 0 2 i i.toNat HU.out (by have := HI.out; omega) _).mono ?_; rintro e w6 ⟨rfl, hb6⟩
  rw [HWi.out]
  have HR6 := Lib.hid (HR5.out.ext hb6)
  have HK6 := Lib.hid (Hb5.out.ext hb6)
  have E6 := Lib.hid (bt E5.out hb6)
  have z6 := Lib.hid (show w.heap.size < g1 ∧ g1 < g3 ∧ g3 < w6.heap.size by have := z5.out; have := hb6.size; omega)
  clear hb6 HE5 HR5 Hb5 E5 z5 c1
  go_wp2_with (refine wpList_alloc_row rfl _ rfl _ Tryz.blockZero ?_)
  apply Stop.go; intro w7 Hg7 Hb7
  go_wp2_with (refine wpList_store_arr rfl _ _ _ rfl _ _ rfl rfl _ _ Hb7.out (Tryz.blockFits HL1.out) (by rw [bcells_size, bcells_size, HL1.out, HzL.out]) (oneCell_bcells _) ?_)
  apply Stop.go; intro w8 Ho8 Hb8
  have HR8 := Lib.hid ((HR6.out.ext Hg7.out.1).only Ho8.out (by have := z6.out; omega))
  have HK8 := Lib.hid ((HK6.out.ext Hg7.out.1).only Ho8.out (by have := z6.out; omega))
  have E8 := Lib.hid (bonly (bt E6.out Hg7.out.1) Ho8.out (by have := z6.out; omega))
  have z8 := Lib.hid (show w.heap.size < g1 ∧ g1 < g3 ∧ g3 < w6.heap.size ∧ w6.heap.size < w8.heap.size by have := z6.out; have := Hb8.out.lt; omega)
  generalize w6.heap.size = g6 at *
  clear Hg7 Hb7 Ho8 HR6 HK6 E6 z6
  go_wp2_with fail
  refine WT.start 3 (S := fun w' : World => Blk w' g6 82 (bcells W1)) [false, false, false, false] 4 rfl rfl (by kernel_rfl) (Hb8.out.ext (bdrew w8 1)) (fun hSn => ?_); obtain ⟨wS, hwS⟩ : ∃ x, (w8).drew = x := ⟨_, rfl⟩; have HE := Lib.hid (show Below (w8).heap.size (w8) wS from hwS ▸ bdrew w8 1); rw [hwS] at hSn ⊢; clear hwS
  refine WT.tv 0 rfl (fun w' hSw => run_load_arr _ _ rfl _ rfl _ _ hSw _ _ Tryz.underlying82 (Tryz.blockFits HL1.out)) ?_; simp only [setL]
  refine WT.tv 1 rfl (fun w' hSw => exec_slice_all _ _ rfl 25 _ Tryz.underlying171 Tryz.byteSize g3 rfl (by decide)) ?_; simp only [setL]
  refine WT.only 2 _ rfl (by kernel_rfl) rfl (fun K hK => ?_)
  go_simp; refine (nlay_any W1 HL1.out 2 _ 25 _ pk HPL.out _ (RB.of_blk0 (HK8.out.ext HE.out))).mono ?_; rintro e wb ⟨rfl, hbb⟩; go_simp
  rw [HWl.out]
  have HE := Lib.hid (bt HE.out hbb)
  have hSn := hSn.ext hbb; refine hK _ _ hSn ?_; clear hK; clear K; simp only [setL]
  refine WT.last _ rfl (by kernel_rfl) rfl (fun K hK => ?_)
  refine ow_store _ _ _ rfl _ _ rfl rfl _ _ hSn (Tryz.blockFits HL2.out) (by rw [bcells_size, bcells_size, HL2.out, HL1.out]) (oneCell_bcells _) ?_
  apply Stop.go; intro wc Hoc Hbc
  have HRc := Lib.hid ((HR8.out.ext HE.out).only Hoc.out (by have := z8.out; omega))
  have Ec := Lib.hid (bonly (bt E8.out HE.out) Hoc.out (by have := z8.out; omega))
  refine hK _ _ ?_; clear hK; clear K; simp only [setL]; refine WT.done (by kernel_rfl) ?_
  clear HE hSn hbb HR8 HK8 Hb8 E8 Hoc HI HU HWi HWl
  go_wp2_with (refine wpList_alloc_row rfl _ rfl _ Tryz.b32Zero ?_)
  apply Stop.go; intro wd Hgd Hbd
  have HRd := Lib.hid (HRc.out.ext Hgd.out.1)
  have HCd := Lib.hid (Hbc.out.ext Hgd.out.1)
  have Ed := Lib.hid (bt Ec.out Hgd.out.1)
  have zd := Lib.hid (show w.heap.size < g1 ∧ g1 < wc.heap.size ∧ g6 < wc.heap.size by have := z8.out; have := Hbc.out.lt; omega)
  generalize wc.heap.size = gc at *
  clear HRc Hbc Ec Hgd z8
  go_wp2_with fail
  refine WT.start 2 (S := fun w' : World => Blk w' gc 121 (bcells (zeros 32))) [false, false, false] 3 rfl rfl (by kernel_rfl) (Hbd.out.ext (bdrew wd 1)) (fun hSn => ?_); obtain ⟨wS2, hwS⟩ : ∃ x, (wd).drew = x := ⟨_, rfl⟩; have HE := Lib.hid (show Below (wd).heap.size (wd) wS2 from hwS ▸ bdrew wd 1); rw [hwS] at hSn ⊢; clear hwS
  refine WT.tv 0 rfl (fun w' hSw => exec_slice_all _ _ rfl 32 _ Tryz.underlying121 Tryz.byteSize gc rfl (by decide)) ?_; simp only [setL]
  refine WT.tv 1 rfl (fun w' hSw => exec_slice_all _ _ rfl 256 _ Tryz.underlying82 Tryz.byteSize g6 rfl (by decide)) ?_; simp only [setL]
  refine WT.last _ rfl (by kernel_rfl) rfl (fun K hK => ?_)
  refine ow_copy _ _ _ _ rfl _ Tryz.underlying26 Tryz.byteSize gc 0 32 32 (zeros 32) _ rfl hSn (by rw [Hz32.out]; omega) _ 256 256 W2 rfl HL2.out (RB.of_blk0 (HCd.out.ext HE.out)) ?_
  apply Stop.go; intro wb Hob Hbb
  rw [HWc.out] at Hbb
  have HRb := Lib.hid ((HRd.out.ext HE.out).only Hob.out (by have := zd.out; omega))
  have HEb := Lib.hid (bonly (bt Ed.out HE.out) Hob.out (by have := zd.out; omega))
  refine hK _ _ ?_; clear hK; clear K; simp only [setL]; refine WT.done (by kernel_rfl) ?_
  clear Hob HE hSn HRd HCd Ed Hbd HWc
  go_wp2_with (first | refine wpList_load_arr rfl _ _ rfl _ rfl _ _ Hbb.out _ _ Tryz.underlying121 (Tryz.b32Fits HBL.out) ?_ | refine wpList_store_arr rfl _ _ _ rfl _ _ rfl rfl _ _ HRb.out (Tryz.b32Fits HBL.out) (by simp only [bcells_size, HBL.out, Hz32.out]) (oneCell_bcells _) ?_)
  apply Stop.go; intro wf Hof Hbf
  go_wp2_with ((with_reducible show bodyPost _ _ _ _ _ _); refine bodyPost_cell rfl _ rfl _ _ Hbf.out _ _ Tryz.underlying121 (Tryz.b32Fits HBL.out) rfl ?_)
  apply Stop.go
  exact ⟨rfl, bonly HEb.out Hof.out (by have := zd.out; omega)⟩

end Go.Proofs.YtkakihbfhmiabaaGreat

/-
  Contracts of package bucket: entry, Find, Room, List.
-/
namespace Go.Proofs.YtkakihbfhmiabaaGreat
open Go.RowKit

theorem unpackS_size {L : List UInt8} (hL : L.length = 25) : (unpackS L).size ≤ maxLen := by
  unfold unpackS
  cases h : unpackB L
  · simp [maxLen]
    exact Nat.zero_le _
  · have h1 : (L.headD 0).toNat ≤ 24 := by
      unfold unpackB at h
      simp only [Bool.and_eq_true, decide_eq_true_eq] at h
      exact h.1
    have h2 := packCut_len hL h1
    have e : (ByteArray.mk (packCut L).toArray).size = (packCut L).length := by simp [ByteArray.size]
    rw [if_pos rfl, e, h2]
    unfold maxLen
    omega
theorem nameR_len {r : List UInt8} (hr : r.length = 32) : (nameR r).length = 25 := by
  unfold nameR
  rw [List.length_take, List.length_drop, hr]
  rfl
theorem nameR_copy {r : List UInt8} (hr : r.length = 32) : splice (zeros 25) 0 ((((r.drop 2).take (32 - 2))).take 25) = nameR r := by
  have e : ((r.drop 2).take (32 - 2)).take 25 = nameR r := by
    unfold nameR
    rw [List.take_take]
    rfl
  rw [e, splice_all _ _ (by rw [nameR_len hr, zeros_len])]
theorem inoR_of {r : List UInt8} (hr : r.length = 32) : getN (layL (zeros 256) 0 r) 0 2 4 = leVal (r.take 2) := by
  have h1 : layL (zeros 256) 0 r = r ++ zeros 224 := by
    have := layL_zeros [] r 0 256 rfl (by omega) (by omega) (by omega)
    rw [List.nil_append, List.nil_append, hr] at this
    exact this
  have hl : (r ++ zeros 224).length = 256 := by rw [List.length_append, hr, zeros_len]
  unfold getN
  rw [h1, hl, if_pos (by decide)]
  show leVal (((r ++ zeros 224).drop 0).take 2) = _
  rw [List.drop_zero, List.take_append_of_le_length (by omega)]
theorem text_eq (a b : ByteArray) : (a.toList == b.toList) = decide (a = b) := by
  rw [ByteArray.toList_eq, ByteArray.toList_eq, Bool.eq_iff_iff]
  simp only [beq_iff_eq, decide_eq_true_eq]
  constructor
  · intro h
    cases a
    cases b
    congr 1
    exact Array.toList_inj.1 h
  · rintro rfl
    rfl
/-- What Find and entry answer. -/
def entV (o : Option En) : En := o.getD ⟨⟨#[]⟩, 0⟩
theorem readE_no {r : List UInt8} (h : okR r = false) : readE r = none := by unfold readE; rw [h]; rfl
theorem readE_yes {r : List UInt8} (h : okR r = true) : readE r = some (enR r) := by unfold readE; rw [h]; rfl
def scells (k : Int) (e : En) : Array Value := #[.int .i64 k, .string e.name, .int .i64 e.ino]
theorem Tryz.slotSize : (Tryz.prog.info? 142).map (·.size) = some 3 := by kernel_rfl
theorem Tryz.slotZero : (Tryz.prog.info? 142).map (·.zero) = some (some (.agg #[.int .i64 0, .string ⟨#[]⟩, .int .i64 0])) := by kernel_rfl
theorem Tryz.slotInfo : (Tryz.prog.info? 142).map (fun i => (i.zero, i.size, i.bytes)) = some (some (.agg #[.int .i64 0, .string ⟨#[]⟩, .int .i64 0]), 3, 32) := by kernel_rfl

set_option maxRecDepth 4000 in
set_option maxHeartbeats 1600000 in
theorem entry_any (r : List UInt8) (hr : r.length = 32) (w : World) :
    Calls Tryz.prog 121 #[.agg (bcells r)] w fun e w' => e = .returned (.tuple #[.agg (ecells (entV (readE r))), .bool (readE r).isSome]) ∧ Below w.heap.size w w' := by
  have HrL := Lib.hid hr
  have Hz25 : Hid ((zeros 25).length = 25) := Lib.hid (zeros_len _)
  have HzL : Hid ((zeros 256).length = 256) := Lib.hid (zeros_len _)
  have HNL := Lib.hid (nameR_len hr)
  have HNC := Lib.hid (nameR_copy hr)
  have HI := Lib.hid (inoR_of hr)
  have Hsz := Lib.hid (unpackS_size (nameR_len hr))
  have HOK : Hid (okR r = (unpackB (nameR r) && (mayE ⟨unpackS (nameR r), ((leVal (r.take 2) : Nat) : Int)⟩ && bytesE ⟨unpackS (nameR r), ((leVal (r.take 2) : Nat) : Int)⟩ == r))) := Lib.hid rfl
  have HEN : Hid (enR r = ⟨unpackS (nameR r), ((leVal (r.take 2) : Nat) : Int)⟩) := Lib.hid rfl
  have HOL := Lib.hid (layL_len (zeros 256) 0 r (zeros_len _))
  obtain ⟨N, hN⟩ : ∃ N, nameR r = N := ⟨_, rfl⟩
  rw [hN] at HNL HNC Hsz HOK HEN
  clear hN
  go_enter Tryz.func121, Tryz.ntmps121
  go_wp2_with (refine wpList_box_row rfl _ _ rfl _ rfl ?_)
  apply Stop.go; intro w1 Hg1 Hb1
  go_wp2_with (refine wpList_alloc_row rfl _ rfl _ Tryz.entZero ?_)
  apply Stop.go; intro w2 Hg2 Hb2
  go_wp2_with (refine wpList_alloc_row rfl _ rfl _ Tryz.packZero ?_)
  apply Stop.go; intro w3 Hg3 Hb3
  have HB3 := Lib.hid ((Hb1.out.ext Hg2.out.1).ext Hg3.out.1)
  have HR3 := Lib.hid (Hb2.out.ext Hg3.out.1)
  have E3 := Lib.hid (bt (bt Hg1.out.1 Hg2.out.1) Hg3.out.1)
  have z3 := Lib.hid (show w.heap.size < w1.heap.size ∧ w1.heap.size < w2.heap.size by have := Hg1.out.2; have := Hg2.out.2; omega)
  generalize w1.heap.size = g1 at *
  generalize w2.heap.size = g2 at *
  clear Hb1 Hb2 Hg1 Hg2 Hg3 hr
  go_wp2_with fail
  refine WT.start 2 (S := fun w' : World => Blk w' g2 171 (bcells (zeros 25))) [false, false, false] 3 rfl rfl (by kernel_rfl) (Hb3.out.ext (bdrew w3 1)) (fun hSn => ?_); obtain ⟨wS, hwS⟩ : ∃ x, (w3).drew = x := ⟨_, rfl⟩; have HE := Lib.hid (show Below (w3).heap.size (w3) wS from hwS ▸ bdrew w3 1); rw [hwS] at hSn ⊢; clear hwS
  refine WT.tv 0 rfl (fun w' hSw => exec_slice_all _ _ rfl 25 _ Tryz.underlying171 Tryz.byteSize g2 rfl (by decide)) ?_; simp only [setL]
  refine WT.tv 1 rfl (fun w' hSw => exec_slice_l _ _ _ rfl _ _ Tryz.underlying121 Tryz.byteSize _ rfl _ _ rfl 2 (by omega) (by omega)) ?_; simp only [setL]
  refine WT.last _ rfl (by kernel_rfl) rfl (fun K hK => ?_)
  refine ow_copy _ _ _ _ rfl _ Tryz.underlying26 Tryz.byteSize g2 0 25 25 (zeros 25) _ rfl hSn (by rw [Hz25.out]; omega) _ _ _ ((r.drop 2).take (32 - 2)) rfl (by rw [List.length_take, List.length_drop, HrL.out]; omega) (RB.of_blk_at (HB3.out.ext HE.out) 2 (32 - 2)) ?_
  apply Stop.go; intro wb Hob Hbb
  rw [HNC.out] at Hbb
  have HBb := Lib.hid ((HB3.out.ext HE.out).only Hob.out (by have := z3.out; omega))
  have HRb := Lib.hid ((HR3.out.ext HE.out).only Hob.out (by have := z3.out; omega))
  have Eb := Lib.hid (bonly (bt E3.out HE.out) Hob.out (by have := z3.out; omega))
  refine hK _ _ ?_; clear hK; clear K; simp only [setL]; refine WT.done (by kernel_rfl) ?_
  clear Hob HE hSn HB3 HR3 E3 Hb3 HNC
  go_wp2_with (refine wpList_load_arr rfl _ _ rfl _ rfl _ _ Hbb.out _ _ Tryz.underlying171 (Tryz.packFits HNL.out) ?_)
  refine (unpack_any N HNL.out _).mono ?_; rintro e w4 ⟨rfl, hb4⟩
  have HB4 := Lib.hid (HBb.out.ext hb4)
  have HR4 := Lib.hid (HRb.out.ext hb4)
  have E4 := Lib.hid (bt Eb.out hb4)
  have z4 := Lib.hid (show w.heap.size < g1 ∧ g1 < w4.heap.size by have := z3.out; have := HR4.out.lt; omega)
  clear hb4 HBb HRb Hbb Eb z3
  cases hu : unpackB N
  · have H0 := Lib.hid (readE_no (show okR r = false by rw [HOK.out, hu]; rfl))
    clear hu
    rw [show errN false = 3 from rfl]
    go_wp2_with (first | refine wpList_store_arr rfl _ _ _ rfl _ #[.string ⟨#[]⟩, .int .i64 0] rfl rfl _ _ HR4.out Tryz.entSize rfl (by simp [Value.oneCell']) ?_)
    apply Stop.go; intro wc Hoc Hbc
    go_wp2_with ((with_reducible show bodyPost _ _ _ _ _ _); refine bodyPost_struct_tmp rfl _ rfl _ _ Hbc.out _ Tryz.underlying56 rfl Tryz.entSize rfl _ rfl ?_)
    apply Stop.go
    rw [H0.out]
    exact ⟨⟨rfl, rfl⟩, bonly E4.out Hoc.out (by have := z4.out; omega)⟩
  · have HOK := Lib.hid (show okR r = (mayE ⟨unpackS N, ((leVal (r.take 2) : Nat) : Int)⟩ && bytesE ⟨unpackS N, ((leVal (r.take 2) : Nat) : Int)⟩ == r) by rw [HOK.out, hu]; rfl)
    obtain ⟨s, hs⟩ : ∃ s, unpackS N = s := ⟨_, rfl⟩
    obtain ⟨v, hv⟩ : ∃ v, leVal (r.take 2) = v := ⟨_, rfl⟩
    rw [hs] at HOK HEN Hsz ⊢
    rw [hv] at HOK HEN HI
    clear hu hs hv
    rw [show errN true = 0 from rfl]
    go_wp2_with (refine wpList_slice_arr_all rfl _ _ rfl 32 _ Tryz.underlying121 Tryz.byteSize w.heap.size rfl (by omega) ?_)
    refine (nof_any _ 32 _ r HrL.out _ (RB.of_blk0 HB4.out)).mono ?_; rintro e w5 ⟨rfl, hb5⟩
    have HB5 := Lib.hid (HB4.out.ext hb5)
    have HR5 := Lib.hid (HR4.out.ext hb5)
    have E5 := Lib.hid (bt E4.out hb5)
    clear hb5 HB4 HR4 E4
    go_wp2_with fail
    refine (nat_any _ HOL.out 0 2 _).mono ?_; rintro e w6 ⟨rfl, hb6⟩
    rw [HI.out]
    have HB6 := Lib.hid (HB5.out.ext hb6)
    have HR6 := Lib.hid (HR5.out.ext hb6)
    have E6 := Lib.hid (bt E5.out hb6)
    have z6 := Lib.hid (show w.heap.size < g1 ∧ g1 < w6.heap.size from ⟨z4.out.1, HR6.out.lt⟩)
    clear hb6 HB5 HR5 E5 HI HOL
    go_wp2_with (refine wpList_alloc_row rfl _ rfl _ Tryz.entZero ?_)
    apply Stop.go; intro w7 Hg7 Hb7
    go_wp2_with (refine wpList_store_arr rfl _ _ _ rfl _ (ecells ⟨s, (v : Int)⟩) rfl rfl _ _ Hb7.out Tryz.entSize rfl (by simp [ecells, Value.oneCell']) ?_)
    apply Stop.go; intro w8 Ho8 Hb8
    have HB8 := Lib.hid ((HB6.out.ext Hg7.out.1).only Ho8.out (by have := z6.out; omega))
    have HR8 := Lib.hid ((HR6.out.ext Hg7.out.1).only Ho8.out (by have := z6.out; omega))
    have E8 := Lib.hid (bonly (bt E6.out Hg7.out.1) Ho8.out (by have := z6.out; omega))
    generalize w6.heap.size = g6 at *
    clear Hg7 Hb7 Ho8 HB6 HR6 E6
    go_wp2_with fail
    cases hm : mayE ⟨s, (v : Int)⟩
    · have H0 := Lib.hid (readE_no (show okR r = false by rw [HOK.out, hm]; rfl))
      refine WH.start (S := fun w' : World => Blk w' g6 56 (ecells ⟨s, (v : Int)⟩)) [false, false, false, false, false, false, false, false, false] 9 rfl rfl (by kernel_rfl) (Hb8.out.ext (bdrew w8 1)) (fun hSn => ?_); obtain ⟨wS3, hwS⟩ : ∃ x, (w8).drew = x := ⟨_, rfl⟩; have HE := Lib.hid (show Below (w8).heap.size (w8) wS3 from hwS ▸ bdrew w8 1); rw [hwS] at hSn ⊢; clear hwS
      refine WH.tv 0 rfl (fun w' hSw => exec_load_blk _ _ rfl _ rfl _ _ (hSw) _ (Tryz.underlying56) rfl (Tryz.entSize)) ?_; simp only [setL]
      refine WH.only 1 _ rfl (by kernel_rfl) rfl (fun K hK => ?_)
      go_simp; refine (bmay_any ⟨s, (v : Int)⟩ Hsz.out _).mono ?_; rintro e wd ⟨rfl, hbd⟩; go_simp
      clear hm
      have HE := Lib.hid (bt HE.out hbd)
      have hSn := hSn.ext hbd; refine hK _ _ hSn ?_; clear hK; clear K; simp only [setL]
      refine WH.tk 2 ?_; simp only [setL]
      refine WH.tk 3 ?_; simp only [setL]
      refine WH.skip 4 _ rfl (by kernel_rfl) (fun _ _ _ h => h) rfl (by assumption) ?_; simp only [setL]
      refine WH.skip 6 _ rfl (by kernel_rfl) (fun _ _ _ h => h) rfl (by assumption) ?_; simp only [setL]
      refine WH.onlySkip 5 _ rfl (by kernel_rfl) rfl (by assumption) ?_; simp only [setL]
      refine WH.skip 7 _ rfl (by kernel_rfl) (fun _ _ _ h => h) rfl (by assumption) ?_; simp only [setL]
      refine WH.tk 8 ?_; simp only [setL]
      refine WH.done (by kernel_rfl) ?_
      have HR9 := Lib.hid (HR8.out.ext HE.out)
      have E9 := Lib.hid (bt E8.out HE.out)
      clear HR8 HB8 Hb8 E8 HE hSn hbd
      go_wp2_with (first | refine wpList_store_arr rfl _ _ _ rfl _ #[.string ⟨#[]⟩, .int .i64 0] rfl rfl _ _ HR9.out Tryz.entSize rfl (by simp [Value.oneCell']) ?_)
      apply Stop.go; intro wc Hoc Hbc
      go_wp2_with ((with_reducible show bodyPost _ _ _ _ _ _); refine bodyPost_struct_tmp rfl _ rfl _ _ Hbc.out _ Tryz.underlying56 rfl Tryz.entSize rfl _ rfl ?_)
      apply Stop.go
      rw [H0.out]
      exact ⟨⟨rfl, rfl⟩, bonly E9.out Hoc.out (by have := z6.out; omega)⟩
    · have Hm := Lib.hid hm
      have HYL := Lib.hid (bytesE_len hm)
      have HW := Lib.hid (fun w => written_any ⟨s, (v : Int)⟩ hm w)
      have HOK := Lib.hid (show okR r = (bytesE ⟨s, (v : Int)⟩ == r) by rw [HOK.out, hm]; rfl)
      obtain ⟨Y, hY⟩ : ∃ Y, bytesE ⟨s, (v : Int)⟩ = Y := ⟨_, rfl⟩
      rw [hY] at HYL HW HOK
      obtain ⟨o, ho⟩ : ∃ o, okR r = o := ⟨_, rfl⟩
      have Ho := Lib.hid ho
      have Hneq : Hid ((!(Y == r)) = !o) := Lib.hid (by rw [← HOK.out, ho])
      clear hm hY ho
      refine WH.start (S := fun w' : World => Blk w' g6 56 (ecells ⟨s, (v : Int)⟩) ∧ Blk w' w.heap.size 121 (bcells r)) [false, false, false, false, false, false, false, false, false] 9 rfl rfl (by kernel_rfl) ⟨Hb8.out.ext (bdrew w8 1), HB8.out.ext (bdrew w8 1)⟩ (fun hSn => ?_); obtain ⟨wS3, hwS⟩ : ∃ x, (w8).drew = x := ⟨_, rfl⟩; have HE := Lib.hid (show Below (w8).heap.size (w8) wS3 from hwS ▸ bdrew w8 1); rw [hwS] at hSn ⊢; clear hwS
      refine WH.tv 0 rfl (fun w' hSw => exec_load_blk _ _ rfl _ rfl _ _ (hSw.1) _ (Tryz.underlying56) rfl (Tryz.entSize)) ?_; simp only [setL]
      refine WH.only 1 _ rfl (by kernel_rfl) rfl (fun K hK => ?_)
      go_simp; refine (bmay_any ⟨s, (v : Int)⟩ Hsz.out _).mono ?_; rintro e wd ⟨rfl, hbd⟩; go_simp
      rw [Hm.out]
      have HE := Lib.hid (bt HE.out hbd)
      have hSn := And.intro (hSn.1.ext hbd) (hSn.2.ext hbd); refine hK _ _ hSn ?_; clear hK; clear K; simp only [setL]
      refine WH.tk 2 ?_; simp only [setL]
      refine WH.tk 3 ?_; simp only [setL]
      refine WH.tv 4 rfl (fun w' hSw => exec_load_blk _ _ rfl _ rfl _ _ (hSw.1) _ (Tryz.underlying56) rfl (Tryz.entSize)) ?_; simp only [setL]
      refine WH.tv 6 rfl (fun w' hSw => exec_load_blk _ _ rfl _ rfl _ _ (hSw.2) _ (Tryz.underlying121) rfl (Tryz.b32Fits HrL.out)) ?_; simp only [setL]
      refine WH.only 5 _ rfl (by kernel_rfl) rfl (fun K hK => ?_)
      go_simp; refine (HW.out _).mono ?_; rintro e we ⟨rfl, hbe⟩; go_simp
      have HE := Lib.hid (bt HE.out hbe)
      have hSn := And.intro (hSn.1.ext hbe) (hSn.2.ext hbe); refine hK _ _ hSn ?_; clear hK; clear K; simp only [setL]
      refine WH.tv 7 rfl (fun w' hSw => exec_neq_arr _ _ _ _ rfl (by kernel_rfl) _ _ Tryz.underlying121 Tryz.underlying5 Tryz.byteSize Y r rfl rfl HYL.out HrL.out (!o) Hneq.out) ?_; simp only [setL]
      refine WH.tk 8 ?_; simp only [setL]
      refine WH.done (by kernel_rfl) ?_
      have HR9 := Lib.hid (HR8.out.ext HE.out)
      have E9 := Lib.hid (bt E8.out HE.out)
      have HQ9 := Lib.hid hSn.1
      clear HR8 HB8 Hb8 E8 HE hSn hbd hbe
      cases o
      · have H0 := Lib.hid (readE_no Ho.out)
        go_wp2_with (first | refine wpList_store_arr rfl _ _ _ rfl _ #[.string ⟨#[]⟩, .int .i64 0] rfl rfl _ _ HR9.out Tryz.entSize rfl (by simp [Value.oneCell']) ?_)
        apply Stop.go; intro wc Hoc Hbc
        go_wp2_with ((with_reducible show bodyPost _ _ _ _ _ _); refine bodyPost_struct_tmp rfl _ rfl _ _ Hbc.out _ Tryz.underlying56 rfl Tryz.entSize rfl _ rfl ?_)
        apply Stop.go
        rw [H0.out]
        exact ⟨⟨rfl, rfl⟩, bonly E9.out Hoc.out (by have := z6.out; omega)⟩
      · have H0 := Lib.hid (show readE r = some ⟨s, (v : Int)⟩ by rw [readE_yes Ho.out, HEN.out])
        go_wp2_with (first | refine wpList_load_blk rfl _ _ rfl _ rfl _ _ HQ9.out _ Tryz.underlying56 rfl Tryz.entSize ?_ | refine wpList_store_arr rfl _ _ _ rfl _ (ecells ⟨s, (v : Int)⟩) rfl rfl _ _ HR9.out Tryz.entSize rfl (by simp [ecells, Value.oneCell']) ?_)
        apply Stop.go; intro wc Hoc Hbc
        go_wp2_with ((with_reducible show bodyPost _ _ _ _ _ _); refine bodyPost_struct_tmp rfl _ rfl _ _ Hbc.out _ Tryz.underlying56 rfl Tryz.entSize rfl _ rfl ?_)
        apply Stop.go
        rw [H0.out]
        exact ⟨⟨rfl, rfl⟩, bonly E9.out Hoc.out (by have := z6.out; omega)⟩

def fndC (b : List UInt8) (s : ByteArray) : Array Value := match findS b s with
  | some k => scells k (entV (entS b k))
  | none => #[.int .i64 0, .string ⟨#[]⟩, .int .i64 0]
set_option maxRecDepth 4000 in
set_option maxHeartbeats 1600000 in
theorem bfind_any (b : List UInt8) (hb : b.length = 256) (s : ByteArray) (w : World) :
    Calls Tryz.prog 88 #[.agg (bcells b), .string s] w fun e w' => e = .returned (.tuple #[.agg (fndC b s), .bool (findS b s).isSome]) ∧ Below w.heap.size w w' := by
  have HbL := Lib.hid hb
  go_enter Tryz.func88, Tryz.ntmps88
  go_wp2_with (refine wpList_box_row rfl _ _ rfl _ rfl ?_)
  apply Stop.go; intro w1 Hg1 Hb1
  go_wp2_with (refine wpList_alloc_row rfl _ rfl _ Tryz.slotZero ?_)
  apply Stop.go; intro w2 Hg2 Hb2
  have HB2 := Lib.hid (Hb1.out.ext Hg2.out.1)
  have E2 := Lib.hid (bt Hg1.out.1 Hg2.out.1)
  have z2 := Lib.hid (show w.heap.size < w1.heap.size by have := Hg1.out.2; omega)
  generalize w1.heap.size = g1 at *
  clear Hb1 Hg1 Hg2 hb
  go_wp2_with fail
  go_loopw [9] (fun i wr => ∃ k : Nat, k ≤ 7 ∧ i = .int .i64 k ∧ (∀ j, j < k → hasS b s j = false) ∧ Blk wr w.heap.size 82 (bcells b) ∧ Blk wr g1 142 #[.int .i64 0, .string ⟨#[]⟩, .int .i64 0] ∧ Below w.heap.size w wr) (fun i _ => 7 - (intOf i).toNat)
  case atStart => exact ⟨0, Nat.zero_le _, rfl, fun j hj => absurd hj (by omega), HB2.out, Hb2.out, E2.out⟩
  case round =>
    obtain ⟨k, hk, rfl, hno, hbk, hsk, hek⟩ := hrel
    have HN := Lib.hid hno
    have HBk := Lib.hid hbk
    have HSk := Lib.hid hsk
    have HEk := Lib.hid hek
    clear hno hbk hsk hek
    by_cases hlt : k < 7
    · have d0 : decide ((k : Int) < 7) = true := by simp; omega
      go_wp2_with (refine wpList_load_arr rfl _ _ rfl _ rfl _ _ HBk.out _ _ Tryz.underlying82 (Tryz.blockFits HbL.out) ?_)
      refine (braw_any b HbL.out k hlt _).mono ?_; rintro e w3 ⟨rfl, hb3⟩
      have HB3 := Lib.hid (HBk.out.ext hb3)
      have HS3 := Lib.hid (HSk.out.ext hb3)
      have E3 := Lib.hid (bt HEk.out hb3)
      clear hb3 HBk HSk HEk
      go_wp2_with fail
      refine (entry_any (rawS b k) (rawS_len HbL.out hlt) _).mono ?_; rintro e w4 ⟨rfl, hb4⟩
      have HB4 := Lib.hid (HB3.out.ext hb4)
      have HS4 := Lib.hid (HS3.out.ext hb4)
      have E4 := Lib.hid (bt E3.out hb4)
      have z4 := Lib.hid (show w.heap.size < w4.heap.size ∧ g1 < w4.heap.size from ⟨HB4.out.lt, HS4.out.lt⟩)
      clear hb4 HB3 HS3 E3
      have HEs : Hid (entS b k = readE (rawS b k)) := Lib.hid rfl
      obtain ⟨o, ho⟩ : ∃ o, readE (rawS b k) = o := ⟨_, rfl⟩
      rw [ho] at HEs ⊢
      clear ho
      go_wp2_with (refine wpList_alloc_row rfl _ rfl _ Tryz.entZero ?_)
      apply Stop.go; intro w5 Hg5 Hb5
      go_wp2_with (refine wpList_store_arr rfl _ _ _ rfl _ (ecells (entV o)) rfl rfl _ _ Hb5.out Tryz.entSize rfl (by simp [ecells, Value.oneCell']) ?_)
      apply Stop.go; intro w6 Ho6 Hb6
      have HB6 := Lib.hid ((HB4.out.ext Hg5.out.1).only Ho6.out (by have := z4.out; omega))
      have HS6 := Lib.hid ((HS4.out.ext Hg5.out.1).only Ho6.out (by have := z4.out; omega))
      have E6 := Lib.hid (bonly (bt E4.out Hg5.out.1) Ho6.out (by have := z4.out; omega))
      generalize w4.heap.size = g4 at *
      clear Hg5 Hb5 Ho6 HB4 HS4 E4
      cases o with
      | none =>
        have HN1 := Lib.hid (hasS_no (s := s) HEs.out)
        rw [show (none : Option En).isSome = false from rfl]
        go_wp2_with fail
        go_roundw
        case rel =>
          refine ⟨k + 1, by omega, by go_num, fun j hj => ?_, HB6.out, HS6.out, E6.out⟩
          rcases Nat.lt_or_ge j k with h | h
          · exact HN.out j h
          · rw [show j = k from by omega]; exact HN1.out
        case measure => simp [intOf]; omega
      | some e =>
        have HN1 := Lib.hid (hasS_some (s := s) HEs.out)
        have c0 : w6.cell? ⟨g4, 0, none⟩ = some (.string e.name) := Hb6.out.cell 0
        rw [show (some e).isSome = true from rfl]
        cases heq : e.name.toList == s.toList
        · have HN1 := Lib.hid (show hasS b s k = false by rw [HN1.out, ← text_eq, heq])
          go_wp2_with fail
          go_roundw
          case rel =>
            refine ⟨k + 1, by omega, by go_num, fun j hj => ?_, HB6.out, HS6.out, E6.out⟩
            rcases Nat.lt_or_ge j k with h | h
            · exact HN.out j h
            · rw [show j = k from by omega]; exact HN1.out
          case measure => simp [intOf]; omega
        · have HF : Hid (findS b s = some k) := Lib.hid (fstB_some.2 ⟨hlt, by rw [HN1.out, ← text_eq, heq], HN.out⟩)
          have HC := Lib.hid (show fndC b s = scells k e by unfold fndC; rw [HF.out]; show scells k (entV (entS b k)) = _; rw [HEs.out]; rfl)
          have Hb6 : Hid (Blk w6 g4 56 #[.string e.name, .int .i64 e.ino]) := Hb6
          go_wp2_with (first | refine wpList_load_blk rfl _ _ rfl _ rfl _ _ Hb6.out _ Tryz.underlying56 rfl Tryz.entSize ?_ | refine wpList_store_arr rfl _ _ _ rfl _ (scells k e) rfl rfl _ _ HS6.out Tryz.slotSize rfl (by simp [scells, Value.oneCell']) ?_)
          apply Stop.go; intro wc Hoc Hbc
          go_wp2_with ((with_reducible show bodyPost _ _ _ _ _ _); refine bodyPost_struct_tmp rfl _ rfl _ _ Hbc.out _ Tryz.underlying142 rfl Tryz.slotSize rfl _ rfl ?_)
          apply Stop.go
          rw [HC.out, HF.out]
          exact ⟨⟨rfl, rfl⟩, bonly E6.out Hoc.out (by have := z2.out; omega)⟩
    · obtain rfl : k = 7 := by omega
      have d0 : decide (((7 : Nat) : Int) < 7) = false := by simp
      have HF := Lib.hid (fstB_none.2 HN.out)
      have z7 := Lib.hid (show w.heap.size < wr.heap.size from HBk.out.lt)
      have HFs : Hid (findS b s = none) := HF
      have HC := Lib.hid (show fndC b s = #[.int .i64 0, .string ⟨#[]⟩, .int .i64 0] by unfold fndC; rw [HFs.out])
      go_wp2_with (first | refine wpList_store_arr rfl _ _ _ rfl _ #[.int .i64 0, .string ⟨#[]⟩, .int .i64 0] rfl rfl _ _ HSk.out Tryz.slotSize rfl (by simp [Value.oneCell']) ?_)
      apply Stop.go; intro wc Hoc Hbc
      go_wp2_with ((with_reducible show bodyPost _ _ _ _ _ _); refine bodyPost_struct_tmp rfl _ rfl _ _ Hbc.out _ Tryz.underlying142 rfl Tryz.slotSize rfl _ rfl ?_)
      apply Stop.go
      rw [HC.out, HFs.out]
      exact ⟨⟨rfl, rfl⟩, bonly HEk.out Hoc.out (by have := z2.out; omega)⟩

end Go.Proofs.YtkakihbfhmiabaaGreat

/-
  Contracts of package bucket: Room, List.
-/
namespace Go.Proofs.YtkakihbfhmiabaaGreat
open Go.RowKit


/-- The rows of a list of slots. -/
def srow (q : Nat × En) : List Value := [.int .i64 (q.1 : Int), .string q.2.name, .int .i64 q.2.ino]
def srows (l : List (Nat × En)) : List (List Value) := l.map srow
theorem srows_len (l : List (Nat × En)) : (srows l).length = l.length := by simp [srows]
set_option maxRecDepth 4000 in
set_option maxHeartbeats 1600000 in
theorem blist_any (b : List UInt8) (hb : b.length = 256) (w : World) :
    Calls Tryz.prog 159 #[.agg (bcells b)] w (RetN w 142 3 (srows (listS b 7))) := by
  have HbL := Lib.hid hb
  go_enter Tryz.func159, Tryz.ntmps159
  go_wp2_with (refine wpList_box_row rfl _ _ rfl _ rfl ?_)
  apply Stop.go; intro w1 Hg1 Hb1
  clear hb
  go_wp2_with fail
  go_loopw [3, 7] (fun o i wr => ∃ k : Nat, k ≤ 7 ∧ i = .int .i64 k ∧ OwnN wr w.heap.size 142 3 o (srows (listS b k)) ∧ Blk wr w.heap.size 82 (bcells b) ∧ Below w.heap.size w wr ∧ o.ownBlock ≠ some w.heap.size) (fun _ i _ => 7 - (intOf i).toNat)
  case atStart => exact ⟨0, Nat.zero_le _, rfl, OwnN.nil_ _ _ _ _, Hb1.out, Hg1.out.1, by simp [Value.ownBlock]⟩
  case round =>
    obtain ⟨k, hk, rfl, hok, hbk, hek, hap⟩ := hrel
    have HO := Lib.hid hok
    have HBk := Lib.hid hbk
    have HEk := Lib.hid hek
    have HAp := Lib.hid hap
    clear hok hbk hek hap
    by_cases hlt : k < 7
    · have d0 : decide ((k : Int) < 7) = true := by simp; omega
      go_wp2_with (refine wpList_load_arr rfl _ _ rfl _ rfl _ _ HBk.out _ _ Tryz.underlying82 (Tryz.blockFits HbL.out) ?_)
      refine (braw_any b HbL.out k hlt _).mono ?_; rintro e w3 ⟨rfl, hb3⟩
      have HB3 := Lib.hid (HBk.out.ext hb3)
      have HO3 := Lib.hid (HO.out.ext hb3)
      have E3 := Lib.hid (bt HEk.out hb3)
      clear hb3 HBk HO HEk
      go_wp2_with fail
      refine (entry_any (rawS b k) (rawS_len HbL.out hlt) _).mono ?_; rintro e w4 ⟨rfl, hb4⟩
      have HB4 := Lib.hid (HB3.out.ext hb4)
      have HO4 := Lib.hid (HO3.out.ext hb4)
      have E4 := Lib.hid (bt E3.out hb4)
      have z4 := Lib.hid (show w.heap.size < w4.heap.size from HB4.out.lt)
      clear hb4 HB3 HO3 E3
      have HEs : Hid (entS b k = readE (rawS b k)) := Lib.hid rfl
      obtain ⟨o, ho⟩ : ∃ o, readE (rawS b k) = o := ⟨_, rfl⟩
      rw [ho] at HEs ⊢
      clear ho
      go_wp2_with (refine wpList_alloc_row rfl _ rfl _ Tryz.entZero ?_)
      apply Stop.go; intro w5 Hg5 Hb5
      go_wp2_with (refine wpList_store_arr rfl _ _ _ rfl _ (ecells (entV o)) rfl rfl _ _ Hb5.out Tryz.entSize rfl (by simp [ecells, Value.oneCell']) ?_)
      apply Stop.go; intro w6 Ho6 Hb6
      have hd : Below w4.heap.size w4 w6 := bonly Hg5.out.1 Ho6.out (Nat.le_refl _)
      have HB6 := Lib.hid (HB4.out.ext hd)
      have HO6 := Lib.hid (HO4.out.ext hd)
      have E6 := Lib.hid (bt E4.out hd)
      generalize w4.heap.size = g4 at *
      clear Hg5 Hb5 Ho6 HB4 HO4 E4 hd
      cases o with
      | none =>
        have HLs := Lib.hid (listS_none HEs.out)
        rw [show (none : Option En).isSome = false from rfl]
        go_wp2_with fail
        go_roundw
        case rel => exact ⟨k + 1, by omega, by go_num, by rw [HLs.out]; exact HO6.out, HB6.out, E6.out, HAp.out⟩
        case measure => simp [intOf]; omega
      | some e =>
        have HLs := Lib.hid (show srows (listS b (k + 1)) = srows (listS b k) ++ [srow (k, e)] by unfold srows; rw [listS_some HEs.out, List.map_append]; rfl)
        have HLl := Lib.hid (show (srows (listS b k)).length ≤ 7 by rw [srows_len]; have := listS_len b k; omega)
        have Hb6 : Hid (Blk w6 g4 56 #[.string e.name, .int .i64 e.ino]) := Hb6
        rw [show (some e).isSome = true from rfl]
        go_wp2_with (first | refine wpList_load_blk rfl _ _ rfl _ rfl _ _ Hb6.out _ Tryz.underlying56 rfl Tryz.entSize ?_ | refine wpList_build_row rfl _ _ _ rfl Tryz.underlying208 3 _ _ Tryz.slotInfo (by decide) (by decide) #[.int .i64 (k : Int), .string e.name, .int .i64 e.ino] rfl rfl ?_)
        apply Stop.go; intro w7 Hg7 Hb7
        have HO7 := Lib.hid (HO6.out.ext Hg7.out.1)
        have z7 := Lib.hid (show w.heap.size ≤ w7.heap.size by have := HB6.out.lt; have := Hg7.out.1.size; omega)
        go_wp2_with (refine wpList_append_row1 rfl _ _ _ _ rfl Tryz.underlying208 3 _ _ Tryz.slotInfo rfl (by decide) _ _ _ rfl HO7.out _ #[.int .i64 (k : Int), .string e.name, .int .i64 e.ino] rfl Hb7.out rfl (by simp [Value.oneCell']) z7.out (by have := HLl.out; omega) (by have := HLl.out; omega) ?_)
        apply Stop.go; intro gn cap w8 HO8 HB8 HG8 HL8
        have hB8 : Blk w8 w.heap.size 82 (bcells b) := by
          have h1 : Blk w7 w.heap.size 82 (bcells b) := HB6.out.ext Hg7.out.1
          exact (HG8.out.block _ h1.lt (fun h => HAp.out h.symm)).trans h1
        have hA8 : (Value.slice (some ⟨gn, 0, none⟩) ((srows (listS b k)).length + 1) cap).ownBlock ≠ some w.heap.size := by
          intro h
          have h : gn = w.heap.size := by simpa [Value.ownBlock] using h
          rcases HL8.out.1 with h' | h'
          · exact HAp.out (by rw [h', h])
          · have := HB6.out.lt
            have := Hg7.out.1.size
            omega
        have HO9 := Lib.hid HO8.out
        have HB9 := Lib.hid hB8
        have HA9 := Lib.hid hA8
        have E9 := Lib.hid ((E6.out.trans (Hg7.out.1.mono (Nat.le_of_lt HB6.out.lt))).trans HB8.out)
        clear hB8 hA8 HO8 HB8 HG8 HL8 HO7 z7 Hg7 Hb7 HO6 HB6 E6 Hb6
        go_wp2_with fail
        go_roundw
        case rel => exact ⟨k + 1, by omega, by go_num, by rw [HLs.out]; exact HO9.out, HB9.out, E9.out, HA9.out⟩
        case measure => simp [intOf]; omega
    · obtain rfl : k = 7 := by omega
      have d0 : decide (((7 : Nat) : Int) < 7) = false := by simp
      go_wp2_with fail
      go_ret
      exact ⟨_, rfl, HO.out, HEk.out⟩

end Go.Proofs.YtkakihbfhmiabaaGreat

/-
  Contracts of package bucket: Fix, Right, New.
-/
namespace Go.Proofs.YtkakihbfhmiabaaGreat
open Go.RowKit

theorem srow_at {l : List (Nat × En)} {k : Nat} {x : Nat × En} (h : l[k]? = some x) : (srows l)[k]? = some (srow x) := by unfold srows; rw [List.getElem?_map, h]; rfl

/-- What Fix does at one slot. -/
def fixGo (b acc : List UInt8) (q : Nat × En) : List UInt8 := if (findS acc q.2.name).isSome then acc else putS acc q.1 (rawS b q.1)
theorem fixGo_all {b : List UInt8} (hb : b.length = 256) : ∀ {k : Nat}, k ≤ 7 → (listS b k).foldl (fixGo b) headB = fixS b k
  | 0, _ => rfl
  | k + 1, h => by
    have ih := fixGo_all hb (k := k) (by omega)
    cases he : entS b k with
    | none =>
      rw [listS_none he, ih]
      show _ = if keptB b k then _ else _
      rw [keptB_no he]
      rfl
    | some e =>
      rw [listS_some he, List.foldl_append, ih]
      show fixGo b (fixS b k) (k, e) = if keptB b k then _ else _
      rw [fixS_is hb (by omega) he]
      unfold fixGo
      cases (findS (fixS b k) e.name).isSome <;> rfl
def fixT (b : List UInt8) (k : Nat) : List UInt8 := ((listS b 7).take k).foldl (fixGo b) headB
theorem fixT_next (b : List UInt8) {k : Nat} {x : Nat × En} (h : (listS b 7)[k]? = some x) : fixT b (k + 1) = fixGo b (fixT b k) x := by
  obtain ⟨hk, rfl⟩ := List.getElem?_eq_some_iff.1 h
  unfold fixT
  rw [List.take_succ_eq_append_getElem hk, List.foldl_append]
  rfl
theorem listS_at {b : List UInt8} {k : Nat} {x : Nat × En} (h : (listS b 7)[k]? = some x) : x.1 < 7 ∧ entS b x.1 = some x.2 := listS_mem (List.mem_of_getElem? h)
theorem fixT_len {b : List UInt8} (hb : b.length = 256) : ∀ {k : Nat}, k ≤ (listS b 7).length → (fixT b k).length = 256
  | 0, _ => headB_len
  | k + 1, h => by
    have hm := (listS_mem (List.getElem_mem (show k < (listS b 7).length by omega))).1
    rw [fixT_next b (List.getElem?_eq_getElem (show k < (listS b 7).length by omega))]
    unfold fixGo
    split
    · exact fixT_len hb (by omega)
    · exact putS_len (fixT_len hb (by omega)) hm (rawS_len hb hm)
theorem fixT_all {b : List UInt8} (hb : b.length = 256) : fixT b (listS b 7).length = fixS b 7 := by
  unfold fixT
  rw [List.take_length]
  exact fixGo_all hb (Nat.le_refl _)

theorem fndC_row (b : List UInt8) (s : ByteArray) : (fndC b s).size = 3 ∧ (fndC b s).all (·.oneCell') = true := by
  unfold fndC
  cases findS b s with
  | none => exact ⟨rfl, by simp [Value.oneCell']⟩
  | some k => exact ⟨rfl, by simp [scells, Value.oneCell']⟩


end Go.Proofs.YtkakihbfhmiabaaGreat

/-
  Contracts of package bucket: Right, New.
-/
namespace Go.Proofs.YtkakihbfhmiabaaGreat
open Go.RowKit


/-- The rows of a list of entries. -/
def erow (e : En) : List Value := [.string e.name, .int .i64 e.ino]
def erows (l : List En) : List (List Value) := l.map erow
theorem erows_len (l : List En) : (erows l).length = l.length := by simp [erows]
theorem erow_at {l : List En} {k : Nat} {x : En} (h : l[k]? = some x) : (erows l)[k]? = some (erow x) := by unfold erows; rw [List.getElem?_map, h]; rfl
theorem errB_big {l : List En} (h : 7 < l.length) : errB l = 11 := by unfold errB; rw [if_pos h]
theorem errB_arg {l : List En} (h : l.length ≤ 7) {k : Nat} {e : En} (hk : l[k]? = some e) (hm : mayE e = false) : errB l = 1 := by
  have h2 : l.all mayE = false := by
    rw [List.all_eq_false]
    exact ⟨e, List.mem_of_getElem? hk, by rw [hm]; simp⟩
  unfold errB
  rw [if_neg (by omega), h2]
  rfl
theorem errB_dup {l : List En} (h : l.length ≤ 7) (hm : ∀ e ∈ l, mayE e = true) {k : Nat} (hk : k < l.length) (hd : dupE l (k + 1) = true) : errB l = 5 := by
  unfold errB
  rw [if_neg (by omega), if_pos (List.all_eq_true.2 hm), dupE_mono (by omega) hd]
  rfl
theorem errB_ok {l : List En} (h : l.length ≤ 7) (hm : ∀ e ∈ l, mayE e = true) (hd : dupE l l.length = false) : errB l = 0 := errB_zero.2 ⟨h, hm, hd⟩
/-- 18.1: New. -/
def newB (l : List En) : List UInt8 := if errB l = 0 then newS l l.length else zeros 256
theorem newB_err {l : List En} (h : errB l ≠ 0) : newB l = zeros 256 := by unfold newB; rw [if_neg h]
theorem newB_ok {l : List En} (h : errB l = 0) : newB l = newS l l.length := by unfold newB; rw [if_pos h]
theorem newB_len (l : List En) : (newB l).length = 256 := by
  unfold newB
  split
  · next h =>
    obtain ⟨h1, h2, _⟩ := errB_zero.1 h
    exact newS_len h2 h1 (Nat.le_refl _)
  · exact zeros_len _
theorem mayE_upto {l : List En} {n : Nat} (hn : l.length = n) (h : ∀ j e, j < n → l[j]? = some e → mayE e = true) : ∀ e ∈ l, mayE e = true := fun e he => by
  obtain ⟨j, hj, rfl⟩ := List.getElem_of_mem he
  exact h j _ (by omega) (List.getElem?_eq_getElem hj)
theorem dupE_at {l : List En} {k : Nat} {e : En} (h : l[k]? = some e) : dupE l (k + 1) = (dupE l k || inN e.name l k) := by
  obtain ⟨hk, rfl⟩ := List.getElem?_eq_some_iff.1 h
  exact dupE_next hk
theorem newS_step {l : List En} {k : Nat} {e : En} (h : l[k]? = some e) : newS l (k + 1) = putS (newS l k) k (bytesE e) := by
  obtain ⟨hk, rfl⟩ := List.getElem?_eq_some_iff.1 h
  exact newS_next hk

set_option maxRecDepth 4000 in
set_option maxHeartbeats 3200000 in
theorem bnew_any (A : Option Addr) (n cap : Nat) (l : List En) (hn : l.length = n) (_hm : n ≤ maxLen) (hs : ∀ e ∈ l, e.name.size ≤ maxLen) (w : World) (hr : RN w A 2 (erows l)) :
    Calls Tryz.prog 52 #[.slice A n cap] w fun e w' => e = .returned (.tuple #[.agg (bcells (newB l)), .int .i64 (errB l)]) ∧ Below w.heap.size w w' := by
  have HzL : Hid ((zeros 256).length = 256) := Lib.hid (zeros_len _)
  have HhL := Lib.hid headB_len
  have Hr := Lib.hid hr
  have Hs := Lib.hid hs
  have HNL := Lib.hid (newB_len l)
  have Hn := Lib.hid hn
  by_cases hbig : 7 < n
  · have HE := Lib.hid (errB_big (show 7 < l.length by omega))
    have HB := Lib.hid (newB_err (show errB l ≠ 0 by rw [HE.out]; decide))
    have d0 : decide (7 < n) = true := decide_eq_true hbig
    have d1 : decide ((7 : Int) < n) = true := by simp; omega
    clear hr hs hn
    go_enter Tryz.func52, Tryz.ntmps52
    go_wp2_with (refine wpList_alloc_row rfl _ rfl _ Tryz.blockZero ?_)
    apply Stop.go; intro w1 Hg1 Hb1
    go_wp2_with (first | refine wpList_build_zero rfl _ rfl _ Tryz.blockZero _ _ Tryz.underlying82 Tryz.byteSize ?_ | refine wpList_store_arr rfl _ _ _ rfl _ _ rfl rfl _ _ Hb1.out (Tryz.blockFits HzL.out) rfl (oneCell_bcells _) ?_)
    apply Stop.go; intro wc Hoc Hbc
    go_wp2_with ((with_reducible show bodyPost _ _ _ _ _ _); refine bodyPost_cell_tmp rfl _ rfl _ _ Hbc.out _ _ Tryz.underlying82 (Tryz.blockFits HzL.out) rfl _ rfl ?_)
    apply Stop.go
    rw [HE.out, HB.out]
    exact ⟨⟨rfl, rfl⟩, bonly Hg1.out.1 Hoc.out (Nat.le_refl _)⟩
  · have d0 : decide (7 < n) = false := decide_eq_false hbig
    have d1 : decide ((7 : Int) < n) = false := by simp; omega
    have Hn7 := Lib.hid (show n ≤ 7 by omega)
    have HEA := Lib.hid (fun k e (h : l[k]? = some e) (h' : mayE e = false) => errB_arg (show l.length ≤ 7 by omega) h h')
    clear hr hs hn hbig _hm
    go_enter Tryz.func52, Tryz.ntmps52
    go_wp2_with (refine wpList_alloc_row rfl _ rfl _ Tryz.blockZero ?_)
    apply Stop.go; intro w1 Hg1 Hb1
    have E1 := Lib.hid Hg1.out.1
    clear Hg1
    go_wp2_with fail
    go_loopw [17] (fun i wr => ∃ k : Nat, k ≤ n ∧ i = .int .i64 k ∧ (∀ j e, j < k → l[j]? = some e → mayE e = true) ∧ Blk wr w.heap.size 82 (bcells (zeros 256)) ∧ Below w.heap.size w wr) (fun i _ => n - (intOf i).toNat)
    case atStart => exact ⟨0, Nat.zero_le _, rfl, fun j e hj => absurd hj (by omega), Hb1.out, E1.out⟩
    case round =>
      obtain ⟨k, hk, rfl, hmk, h2, h3⟩ := hrel
      have HM := Lib.hid hmk
      have HR := Lib.hid h2
      have HW := Lib.hid h3
      clear hmk h2 h3
      have hwk : IntKind.i64.wrap ((k : Int) + 1) = (k : Int) + 1 := IntWalk.i64_in _ (by have := Hn7.out; omega)
      by_cases hlt : k < n
      · have hkl : k < l.length := by rw [Hn.out]; exact hlt
        obtain ⟨e, hx⟩ : ∃ x, l[k]? = some x := ⟨_, List.getElem?_eq_getElem hkl⟩
        have h4 := Hr.out.below HW.out
        obtain ⟨ad, rfl⟩ := h4.adr (k := k) (by rw [erows_len]; exact hkl) (by decide)
        have hrow := h4.row (erow_at hx) rfl
        have HC := Lib.hid hrow
        have HX := Lib.hid hx
        have Hse := Lib.hid (Hs.out e (List.mem_of_getElem? hx))
        have e1 : decide (k < n) = true := decide_eq_true hlt
        have z1 : (k : Int) < n := by omega
        have Hlt := Lib.hid hlt
        have zr := Lib.hid (show w.heap.size < wr.heap.size from HR.out.lt)
        clear h4 hrow hx hkl hlt hk
        go_wp2_with (first | refine wpList_load_cells rfl _ _ rfl (ad.add (k * 2)) rfl _ Tryz.underlying56 [.string e.name, .int .i64 e.ino] Tryz.entSize HC.out ?_ | refine wpList_alloc_row rfl _ rfl _ Tryz.entZero ?_)
        apply Stop.go; intro w7 Hg7 Hb7
        go_wp2_with (refine wpList_store_arr rfl _ _ _ rfl _ #[.string e.name, .int .i64 e.ino] rfl rfl _ _ Hb7.out Tryz.entSize rfl (by simp [Value.oneCell']) ?_)
        apply Stop.go; intro w8 Ho8 Hb8
        have HR8 := Lib.hid ((HR.out.ext Hg7.out.1).only Ho8.out (by have := zr.out; omega))
        have W8 := Lib.hid (bonly (bt HW.out Hg7.out.1) Ho8.out (by have := zr.out; omega))
        generalize wr.heap.size = gr at *
        clear Hg7 Hb7 Ho8 HR HW HC
        go_wp2_with (refine wpList_load_blk rfl _ _ rfl _ rfl _ _ Hb8.out _ Tryz.underlying56 rfl Tryz.entSize ?_)
        refine (bmay_any e Hse.out _).mono ?_; rintro e w9 ⟨rfl, hb9⟩
        have HR9 := Lib.hid (HR8.out.ext hb9)
        have W9 := Lib.hid (bt W8.out hb9)
        clear hb9 HR8 W8 Hb8
        cases hme : mayE e
        · have HE := Lib.hid (HEA.out k e HX.out hme)
          have HB := Lib.hid (newB_err (show errB l ≠ 0 by rw [HE.out]; decide))
          clear hme
          go_wp2_with (first | refine wpList_build_zero rfl _ rfl _ Tryz.blockZero _ _ Tryz.underlying82 Tryz.byteSize ?_ | refine wpList_store_arr rfl _ _ _ rfl _ _ rfl rfl _ _ HR9.out (Tryz.blockFits HzL.out) rfl (oneCell_bcells _) ?_)
          apply Stop.go; intro wc Hoc Hbc
          go_wp2_with ((with_reducible show bodyPost _ _ _ _ _ _); refine bodyPost_cell_tmp rfl _ rfl _ _ Hbc.out _ _ Tryz.underlying82 (Tryz.blockFits HzL.out) rfl _ rfl ?_)
          apply Stop.go
          rw [HE.out, HB.out]
          exact ⟨⟨rfl, rfl⟩, bonly W9.out Hoc.out (Nat.le_refl _)⟩
        · have HM1 := Lib.hid (show ∀ j e', j < k + 1 → l[j]? = some e' → mayE e' = true from fun j e' hj hj' => by
            rcases Nat.lt_or_ge j k with h | h
            · exact HM.out j e' h hj'
            · have h : j = k := by omega
              subst h
              rw [HX.out] at hj'
              injection hj' with hj'
              subst hj'
              exact hme)
          clear hme
          go_wp2_with fail
          go_roundw
          case rel => exact ⟨k + 1, by have := Hlt.out; omega, by go_num, HM1.out, HR9.out, W9.out⟩
          case measure => have := Hlt.out; simp [intOf]; omega
      · have hkn : k = n := by omega
        subst hkn
        have d2 : decide (k < k) = false := by simp
        have d3 : decide ((k : Int) < k) = false := by simp
        have HMA := Lib.hid (mayE_upto Hn.out HM.out)
        have HEd := Lib.hid (fun j (hj : j < l.length) (h : dupE l (j + 1) = true) => errB_dup (show l.length ≤ 7 by rw [Hn.out]; exact Hn7.out) HMA.out hj h)
        have HEo := Lib.hid (fun (h : dupE l l.length = false) => errB_ok (show l.length ≤ 7 by rw [Hn.out]; exact Hn7.out) HMA.out h)
        have HSL := Lib.hid (fun j (hj : j ≤ k) => newS_len HMA.out (show l.length ≤ 7 by rw [Hn.out]; exact Hn7.out) (k := j) (by rw [Hn.out]; exact hj))
        have HSF := Lib.hid (fun j (hj : j ≤ k) => newS_find HMA.out (show l.length ≤ 7 by rw [Hn.out]; exact Hn7.out) (k := j) (by rw [Hn.out]; exact hj))
        clear hk hlt hwk HM
        go_wp2_with fail
        refine (bnone_any _).mono ?_; rintro e w3 ⟨rfl, hb3⟩
        have HR3 := Lib.hid (HR.out.ext hb3)
        have E3 := Lib.hid (bt HW.out hb3)
        have z3 := Lib.hid (show w.heap.size < w3.heap.size from HR3.out.lt)
        clear hb3 HR HW
        go_wp2_with (refine wpList_alloc_row rfl _ rfl _ Tryz.blockZero ?_)
        apply Stop.go; intro w4 Hg4 Hb4
        go_wp2_with (refine wpList_store_arr rfl _ _ _ rfl _ _ rfl rfl _ _ Hb4.out (Tryz.blockFits HhL.out) (by rw [bcells_size, bcells_size, HhL.out, HzL.out]) (oneCell_bcells _) ?_)
        apply Stop.go; intro w5 Ho5 Hb5
        have HR5 := Lib.hid ((HR3.out.ext Hg4.out.1).only Ho5.out (by have := z3.out; omega))
        have E5 := Lib.hid (bonly (bt E3.out Hg4.out.1) Ho5.out (by have := z3.out; omega))
        generalize w3.heap.size = g3 at *
        generalize wr = wq at *
        clear Hg4 Hb4 Ho5 HR3 E3 d2 d3
        go_wp2_with fail
        go_loopw [29] (fun i wr => ∃ j : Nat, j ≤ k ∧ i = .int .i64 j ∧ dupE l j = false ∧ Blk wr w.heap.size 82 (bcells (zeros 256)) ∧ Blk wr g3 82 (bcells (newS l j)) ∧ Below w.heap.size w wr) (fun i _ => k - (intOf i).toNat)
        case atStart => exact ⟨0, Nat.zero_le _, rfl, rfl, HR5.out, Hb5.out, E5.out⟩
        case round =>
          obtain ⟨j, hj, rfl, hdj, h2, h3, h4⟩ := hrel
          have HD := Lib.hid hdj
          have HR := Lib.hid h2
          have HF := Lib.hid h3
          have HW := Lib.hid h4
          have HTk := Lib.hid (HSL.out j hj)
          clear hdj h2 h3 h4
          have hwk : IntKind.i64.wrap ((j : Int) + 1) = (j : Int) + 1 := IntWalk.i64_in _ (by have := Hn7.out; omega)
          by_cases hlt : j < k
          · have hkl : j < l.length := by rw [Hn.out]; exact hlt
            obtain ⟨e, hx⟩ : ∃ x, l[j]? = some x := ⟨_, List.getElem?_eq_getElem hkl⟩
            have h4 := Hr.out.below HW.out
            obtain ⟨ad, rfl⟩ := h4.adr (k := j) (by rw [erows_len]; exact hkl) (by decide)
            have hrow := h4.row (erow_at hx) rfl
            have HC := Lib.hid hrow
            have HX := Lib.hid hx
            have Hme := Lib.hid (HMA.out e (List.mem_of_getElem? hx))
            have HDn := Lib.hid (show dupE l (j + 1) = (findS (newS l j) e.name).isSome by rw [dupE_at hx, HD.out, HSF.out j (by omega)]; rfl)
            have HNs := Lib.hid (newS_step hx)
            have e1 : decide (j < k) = true := decide_eq_true hlt
            have z1 : (j : Int) < k := by omega
            have Hlt := Lib.hid hlt
            have hq : j < 7 := by have := Hn7.out; omega
            have Hq := Lib.hid hq
            have zr := Lib.hid (show w.heap.size < wr.heap.size ∧ g3 < wr.heap.size from ⟨HR.out.lt, HF.out.lt⟩)
            obtain ⟨X, hX⟩ : ∃ X, newS l j = X := ⟨_, rfl⟩
            rw [hX] at HTk HF HDn HNs
            clear h4 hrow hx hkl hlt hj hX hq
            go_wp2_with (first | refine wpList_load_cells rfl _ _ rfl (ad.add (j * 2)) rfl _ Tryz.underlying56 [.string e.name, .int .i64 e.ino] Tryz.entSize HC.out ?_ | refine wpList_alloc_row rfl _ rfl _ Tryz.entZero ?_)
            apply Stop.go; intro w7 Hg7 Hb7
            go_wp2_with (refine wpList_store_arr rfl _ _ _ rfl _ #[.string e.name, .int .i64 e.ino] rfl rfl _ _ Hb7.out Tryz.entSize rfl (by simp [Value.oneCell']) ?_)
            apply Stop.go; intro w8 Ho8 Hb8
            have D8 := Lib.hid (bonly Hg7.out.1 Ho8.out (Nat.le_refl _))
            have HR8 := Lib.hid (HR.out.ext D8.out)
            have HF8 := Lib.hid (HF.out.ext D8.out)
            have W8 := Lib.hid (bt HW.out D8.out)
            have z8 := Lib.hid (show w.heap.size < wr.heap.size ∧ g3 < wr.heap.size ∧ wr.heap.size < w8.heap.size from ⟨zr.out.1, zr.out.2, Hb8.out.lt⟩)
            generalize wr.heap.size = gr at *
            clear Hg7 Hb7 Ho8 HR HF HW HC D8
            have c0 : w8.cell? ⟨gr, 0, none⟩ = some (.string e.name) := Hb8.out.cell 0
            go_wp2_with (refine wpList_load_arr rfl _ _ rfl _ rfl _ _ HF8.out _ _ Tryz.underlying82 (Tryz.blockFits HTk.out) ?_)
            refine (bfind_any X HTk.out e.name _).mono ?_; rintro e w9 ⟨rfl, hb9⟩
            have HR9 := Lib.hid (HR8.out.ext hb9)
            have HF9 := Lib.hid (HF8.out.ext hb9)
            have HS9 := Lib.hid (Hb8.out.ext hb9)
            have W9 := Lib.hid (bt W8.out hb9)
            have z9 := Lib.hid (show w.heap.size < w9.heap.size ∧ g3 < w9.heap.size ∧ gr < w9.heap.size by have := z8.out; have := hb9.size; omega)
            obtain ⟨F, hF⟩ : ∃ F, fndC X e.name = F := ⟨_, rfl⟩
            have HFs := Lib.hid (show F.size = 3 ∧ F.all (·.oneCell') = true by rw [← hF]; exact fndC_row _ _)
            obtain ⟨is, his⟩ : ∃ r, (findS X e.name).isSome = r := ⟨_, rfl⟩
            rw [hF, his]
            rw [his] at HDn
            clear hF his hb9 HR8 HF8 Hb8 W8 c0
            go_wp2_with (refine wpList_alloc_row rfl _ rfl _ Tryz.slotZero ?_)
            apply Stop.go; intro wa Hga Hba
            go_wp2_with (refine wpList_store_arr rfl _ _ _ rfl _ F rfl rfl _ _ Hba.out (by rw [HFs.out.1]; exact Tryz.slotSize) (by rw [HFs.out.1]; rfl) HFs.out.2 ?_)
            apply Stop.go; intro wb Hob Hbb
            have Db := Lib.hid (bonly Hga.out.1 Hob.out (Nat.le_refl _))
            have HRb := Lib.hid (HR9.out.ext Db.out)
            have HFb := Lib.hid (HF9.out.ext Db.out)
            have HSb := Lib.hid (HS9.out.ext Db.out)
            have Wb := Lib.hid (bt W9.out Db.out)
            generalize w9.heap.size = g9 at *
            clear Hga Hba Hob Hbb Db HR9 HF9 HS9 W9
            cases is
            · have HYL := Lib.hid (bytesE_len Hme.out)
              have HPL := Lib.hid (putS_len HTk.out Hq.out HYL.out)
              go_wp2_with fail
              refine WT.start 5 (S := fun w' : World => Blk w' g3 82 (bcells X) ∧ Blk w' gr 56 #[.string e.name, .int .i64 e.ino]) [false, false, false, false, false, false] 6 rfl rfl (by kernel_rfl) ⟨HFb.out.ext (bdrew wb 1), HSb.out.ext (bdrew wb 1)⟩ (fun hSn => ?_); obtain ⟨wS, hwS⟩ : ∃ x, (wb).drew = x := ⟨_, rfl⟩; have HE := Lib.hid (show Below (wb).heap.size (wb) wS from hwS ▸ bdrew wb 1); rw [hwS] at hSn ⊢; clear hwS
              refine WT.tv 0 rfl (fun w' hSw => run_load_arr _ _ rfl _ rfl _ _ hSw.1 _ _ Tryz.underlying82 (Tryz.blockFits HTk.out)) ?_; simp only [setL]
              refine WT.tk 1 ?_; simp only [setL]
              refine WT.tv 2 rfl (fun w' hSw => exec_load_blk _ _ rfl _ rfl _ _ hSw.2 _ Tryz.underlying56 rfl Tryz.entSize) ?_; simp only [setL]
              refine WT.only 3 _ rfl (by kernel_rfl) rfl (fun K hK => ?_)
              go_simp; refine (written_any e Hme.out _).mono ?_; rintro e wc ⟨rfl, hbc⟩; go_simp
              have HE := Lib.hid (bt HE.out hbc)
              have hSn := And.intro (hSn.1.ext hbc) (hSn.2.ext hbc); refine hK _ _ hSn ?_; clear hK; clear K; simp only [setL]
              refine WT.only 4 _ rfl (by kernel_rfl) rfl (fun K hK => ?_)
              go_simp; refine (blay_any X HTk.out j Hq.out _ HYL.out _).mono ?_; rintro e wd ⟨rfl, hbd⟩; go_simp
              have HE := Lib.hid (bt HE.out hbd)
              have hSn := And.intro (hSn.1.ext hbd) (hSn.2.ext hbd); refine hK _ _ hSn ?_; clear hK; clear K; simp only [setL]
              refine WT.last _ rfl (by kernel_rfl) rfl (fun K hK => ?_)
              refine ow_store _ _ _ rfl _ _ rfl rfl _ _ hSn.1 (Tryz.blockFits HPL.out) (by rw [bcells_size, bcells_size, HPL.out, HTk.out]) (oneCell_bcells _) ?_
              apply Stop.go; intro we Hoe Hbe
              have HRe := Lib.hid ((HRb.out.ext HE.out).only Hoe.out (by have := z3.out; omega))
              have We := Lib.hid (bonly (bt Wb.out HE.out) Hoe.out (by have := z3.out; omega))
              refine hK _ _ ?_; clear hK; clear K; simp only [setL]; refine WT.done (by kernel_rfl) ?_
              clear hSn HE hbc hbd Hoe HRb HFb HSb Wb
              go_wp2_with fail
              go_roundw
              case rel => exact ⟨j + 1, by have := Hlt.out; omega, by go_num, HDn.out, HRe.out, by rw [HNs.out]; exact Hbe.out, We.out⟩
              case measure => have := Hlt.out; simp [intOf]; omega
            · have HE := Lib.hid (HEd.out j (by rw [Hn.out]; exact Hlt.out) HDn.out)
              have HB := Lib.hid (newB_err (show errB l ≠ 0 by rw [HE.out]; decide))
              go_wp2_with (first | refine wpList_build_zero rfl _ rfl _ Tryz.blockZero _ _ Tryz.underlying82 Tryz.byteSize ?_ | refine wpList_store_arr rfl _ _ _ rfl _ _ rfl rfl _ _ HRb.out (Tryz.blockFits HzL.out) rfl (oneCell_bcells _) ?_)
              apply Stop.go; intro wc Hoc Hbc
              go_wp2_with ((with_reducible show bodyPost _ _ _ _ _ _); refine bodyPost_cell_tmp rfl _ rfl _ _ Hbc.out _ _ Tryz.underlying82 (Tryz.blockFits HzL.out) rfl _ rfl ?_)
              apply Stop.go
              rw [HE.out, HB.out]
              exact ⟨⟨rfl, rfl⟩, bonly Wb.out Hoc.out (Nat.le_refl _)⟩
          · have hjk : j = k := by omega
            subst hjk
            have d2 : decide (j < j) = false := by simp
            have d3 : decide ((j : Int) < j) = false := by simp
            have HE := Lib.hid (HEo.out (by rw [Hn.out]; exact HD.out))
            have HB := Lib.hid (show newB l = newS l j by rw [newB_ok HE.out, Hn.out])
            clear hj hlt
            go_wp2_with (first | refine wpList_load_arr rfl _ _ rfl _ rfl _ _ HF.out _ _ Tryz.underlying82 (Tryz.blockFits HTk.out) ?_ | refine wpList_store_arr rfl _ _ _ rfl _ _ rfl rfl _ _ HR.out (Tryz.blockFits HTk.out) (by rw [bcells_size, bcells_size, HTk.out, HzL.out]) (oneCell_bcells _) ?_)
            apply Stop.go; intro wc Hoc Hbc
            go_wp2_with ((with_reducible show bodyPost _ _ _ _ _ _); refine bodyPost_cell_tmp rfl _ rfl _ _ Hbc.out _ _ Tryz.underlying82 (Tryz.blockFits HTk.out) rfl _ rfl ?_)
            apply Stop.go
            rw [HE.out, HB.out]
            exact ⟨⟨rfl, rfl⟩, bonly HW.out Hoc.out (Nat.le_refl _)⟩

end Go.Proofs.YtkakihbfhmiabaaGreat
