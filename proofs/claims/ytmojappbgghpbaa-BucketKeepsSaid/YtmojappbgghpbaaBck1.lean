/-
  Contracts of package bucket: isSlot, isIno, slotAt, mayBe, none, raw, lay, written.
-/
import Derived.Test.YtmojappbgghpbaaBuckA
import Derived.Test.YtmojappbgghpbaaName2
import Derived.Test.YtmojappbgghpbaaZerA
import Derived.Test.YtmojappbgghpbaaHeldT
import Derived.Test.YtmojappbgghpbaaPatO
import Derived.Test.YtmojappbgghpbaaAppB
import Derived.Test.YtmojappbgghpbaaCell
namespace Go.Proofs.Ytmojappbgghpbaa
open Go.RowKit

theorem Try.entSize : (Try.prog.info? 39).map (·.size) = some 2 := by kernel_rfl
theorem Try.entZero : (Try.prog.info? 39).map (·.zero) = some (some (.agg #[.string ⟨#[]⟩, .int .i64 0])) := by kernel_rfl
theorem Try.b32Size : (Try.prog.info? 69).map (·.size) = some 32 := by kernel_rfl
theorem Try.b32Zero : (Try.prog.info? 69).map (·.zero) = some (some (.agg (bcells (zeros 32)))) := by kernel_rfl
theorem Try.b32Fits {l : List UInt8} (h : l.length = 32) : (Try.prog.info? 69).map (·.size) = some (bcells l).size := by rw [bcells_size, h]; exact Try.b32Size
/-- An entry as a value. -/
def ecells (e : En) : Array Value := #[.string e.name, .int .i64 e.ino]

/-! Plain: what the program's way of writing makes. -/
theorem written_with {e : En} (_h : mayE e = true) : nwithL (zeros 256) 0 2 e.ino.toNat = leBytes 2 e.ino.toNat ++ zeros 254 := by
  have := nwithL_zeros [] 0 256 2 e.ino.toNat rfl (by omega) (by omega) (by omega)
  rwa [List.nil_append, List.nil_append] at this
theorem written_lay {e : En} (h : mayE e = true) : layL (leBytes 2 e.ino.toNat ++ zeros 254) 2 (packN e.name) = bytesE e ++ zeros 224 := by
  have hp := packL_len' h
  have e1 : packN e.name = packL e.name.data.toList := by unfold packN; rw [if_pos (mayE_iff.1 h).1]
  have h1 := layL_zeros (leBytes 2 e.ino.toNat) (packL e.name.data.toList) 2 254 (leBytes_len _ _) (by omega) (by omega) (by omega)
  rw [e1]
  refine h1.trans ?_
  unfold bytesE
  rw [List.append_assoc, List.append_assoc, hp]
  congr 2
theorem written_copy {e : En} (h : mayE e = true) : splice (zeros 32) 0 ((bytesE e ++ zeros 224).take 32) = bytesE e := by
  have hl := bytesE_len h
  rw [List.take_append_of_le_length (by omega), List.take_of_length_le (by omega), splice_all _ _ (by rw [hl, zeros_len])]
theorem lay_put {b r : List UInt8} (hr : r.length = 32) {q : Nat} (hq : q < 7) : layL b ((32 + 32 * q : Nat) : Int) r = putS b q r := by
  unfold layL putS
  rw [if_pos (by unfold isPlaceB; simp; omega), Int.toNat_natCast, List.take_of_length_le (by omega)]

def slotB (k : Int) : Bool := decide (0 ≤ k ∧ k < 7)
theorem slotB_true {k : Int} (h : slotB k = true) : ∃ q : Nat, q < 7 ∧ k = (q : Int) := by
  unfold slotB at h
  have h := of_decide_eq_true h
  exact ⟨k.toNat, by omega, by omega⟩
theorem slotB_false {k : Int} (h : slotB k = false) : k < 0 ∨ 6 < k := by
  unfold slotB at h
  have h := of_decide_eq_false h
  omega
def inoB (k : Int) : Bool := decide (1 ≤ k ∧ k ≤ 128)
theorem isSlot_any (k : Int) (w : World) : Calls Try.prog 42 #[.int .i64 k] w fun e w' => e = .returned (.bool (slotB k)) ∧ w = w' := by
  by_cases h : 0 ≤ k
  · go_enter Try.func42, Try.ntmps42
    go_wp2
    go_ret
    simp [h, slotB]
  · go_enter Try.func42, Try.ntmps42
    go_wp2
    go_ret
    simp [slotB]
    omega
theorem isIno_any (k : Int) (w : World) : Calls Try.prog 44 #[.int .i64 k] w fun e w' => e = .returned (.bool (inoB k)) ∧ w = w' := by
  by_cases h : 1 ≤ k
  · go_enter Try.func44, Try.ntmps44
    go_wp2
    go_ret
    simp [h, inoB]
  · go_enter Try.func44, Try.ntmps44
    go_wp2
    go_ret
    simp [inoB]
    omega
theorem slotAt_any (q : Nat) (hq : q < 7) (w : World) : Calls Try.prog 43 #[.int .i64 q] w fun e w' => e = .returned (.int .i64 ((32 + 32 * q : Nat) : Int)) ∧ w = w' := by
  go_enter Try.func43, Try.ntmps43
  go_wp2
  go_ret
  simp
  omega

set_option maxHeartbeats 800000 in
theorem bmay_any (e : En) (hs : e.name.size ≤ maxLen) (w : World) :
    Calls Try.prog 30 #[.agg (ecells e)] w fun x w' => x = .returned (.bool (mayE e)) ∧ Below w.heap.size w w' := by
  have Hs := Lib.hid hs
  have HM : Hid (mayE e = (rightN e.name && inoB e.ino)) := Lib.hid rfl
  obtain ⟨s, i⟩ := e
  clear hs
  go_enter Try.func30, Try.ntmps30
  go_wp2_with (refine wpList_box_row rfl _ _ rfl _ rfl ?_)
  apply Stop.go; intro w1 Hg1 Hb1
  have c0 : w1.cell? ⟨w.heap.size, 0, none⟩ = some (.string s) := Hb1.out.cell 0
  have c1 : w1.cell? ⟨w.heap.size, 1, none⟩ = some (.int .i64 i) := Hb1.out.cell 1
  go_wp2_with fail
  refine (ncheck_any s Hs.out _).mono ?_; rintro e wx ⟨rfl, rfl⟩
  cases hr : rightN s
  · have HM := Lib.hid (show mayE ⟨s, i⟩ = false by rw [HM.out, hr]; rfl)
    clear hr
    rw [show errN false = 3 from rfl]
    go_wp2_with fail
    go_ret
    rw [HM.out]
    exact ⟨rfl, Hg1.out.1⟩
  · have HM := Lib.hid (show mayE ⟨s, i⟩ = inoB i by rw [HM.out, hr]; rfl)
    clear hr
    rw [show errN true = 0 from rfl]
    go_wp2_with fail
    refine (isIno_any i _).mono ?_; rintro e wx ⟨rfl, rfl⟩
    go_wp2_with fail
    go_ret
    rw [HM.out]
    exact ⟨rfl, Hg1.out.1⟩

def head4 : List UInt8 := [98, 107, 116, 33]
theorem head_lay : layL (zeros 256) 0 head4 = headB := by decide +kernel
set_option maxRecDepth 4000 in
set_option maxHeartbeats 800000 in
theorem bnone_any (w : World) : Calls Try.prog 31 #[] w (RetA w headB) := by
  have HhL := Lib.hid headB_len
  have HzL : Hid ((zeros 256).length = 256) := Lib.hid (zeros_len _)
  have HN := Lib.hid head_lay
  go_enter Try.func31, Try.ntmps31
  go_wp2_with (refine wpList_alloc_row rfl _ rfl _ Try.blockZero ?_)
  apply Stop.go; intro w1 Hg1 Hb1
  go_wp2_with (refine wpList_conv_text rfl _ _ _ rfl Try.underlying30 Try.underlying5 head4 _ rfl _ _ rfl ?_)
  apply Stop.go; intro w2 Hg2 Hr2
  go_wp2_with fail
  refine (nof_any _ 4 _ head4 rfl _ Hr2.out).mono ?_; rintro e w3 ⟨rfl, hb3⟩
  rw [HN.out]
  have HR3 := Lib.hid ((Hb1.out.ext Hg2.out.1).ext hb3)
  have E3 := Lib.hid (bt (bt Hg1.out.1 Hg2.out.1) hb3)
  clear hb3 Hg1 Hg2 Hb1 Hr2
  go_wp2_with (refine wpList_store_arr rfl _ _ _ rfl _ _ rfl rfl _ _ HR3.out (Try.blockFits HhL.out) (by rw [bcells_size, bcells_size, HhL.out, HzL.out]) (oneCell_bcells _) ?_)
  apply Stop.go; intro w5 Ho5 Hb5
  go_wp2_with ((with_reducible show bodyPost _ _ _ _ _ _); refine bodyPost_cell rfl _ rfl _ _ Hb5.out _ _ Try.underlying26 (Try.blockFits HhL.out) rfl ?_)
  apply Stop.go
  exact ⟨rfl, bonly E3.out Ho5.out (Nat.le_refl _)⟩

set_option maxHeartbeats 1600000 in
theorem braw_any (b : List UInt8) (hb : b.length = 256) (q : Nat) (hq : q < 7) (w : World) :
    Calls Try.prog 37 #[.agg (bcells b), .int .i64 q] w (RetA w (rawS b q)) := by
  have HbL := Lib.hid hb
  have HzL : Hid ((zeros 32).length = 32) := Lib.hid (zeros_len _)
  have HRL := Lib.hid (rawS_len hb hq)
  have HC := Lib.hid (rawS_copy hb hq)
  obtain ⟨X, HX⟩ : ∃ X, Hid (rawS b q = X) := ⟨_, Lib.hid rfl⟩
  rw [HX.out] at HC HRL
  go_enter Try.func37, Try.ntmps37
  go_wp2_with (refine wpList_box_row rfl _ _ rfl _ rfl ?_)
  apply Stop.go; intro w1 Hg1 Hb1
  go_wp2_with (refine wpList_alloc_row rfl _ rfl _ Try.b32Zero ?_)
  apply Stop.go; intro w2 Hg2 Hb2
  go_wp2_with (refine wpList_alloc_row rfl _ rfl _ Try.b32Zero ?_)
  apply Stop.go; intro w3 Hg3 Hb3
  have HB3 := Lib.hid ((Hb1.out.ext Hg2.out.1).ext Hg3.out.1)
  have HR3 := Lib.hid (Hb2.out.ext Hg3.out.1)
  have E3 := Lib.hid (bt (bt Hg1.out.1 Hg2.out.1) Hg3.out.1)
  have z3 := Lib.hid (show w.heap.size < w1.heap.size ∧ w1.heap.size < w2.heap.size by have := Hg1.out.2; have := Hg2.out.2; omega)
  generalize w1.heap.size = g1 at *
  generalize w2.heap.size = g2 at *
  clear Hb1 Hb2 Hg1 Hg2 Hg3 hb
  go_wp2_with fail
  refine WH.start (S := fun w' : World => Blk w' w.heap.size 26 (bcells b)) [false, false, false, false, false] 5 rfl rfl (by kernel_rfl) (HB3.out.ext (bdrew w3 1)) (fun hSn => ?_); obtain ⟨wS, hwS⟩ : ∃ x, (w3).drew = x := ⟨_, rfl⟩; have HE := Lib.hid (show Below (w3).heap.size (w3) wS from hwS ▸ bdrew w3 1); rw [hwS] at hSn ⊢; clear hwS
  refine WH.tk 0 ?_; simp only [setL]
  refine WH.tk 1 ?_; simp only [setL]
  refine WH.only 2 _ rfl (by kernel_rfl) rfl (fun K hK => ?_)
  go_simp; refine (slotAt_any q hq _).mono ?_; rintro e wa ⟨rfl, rfl⟩; go_simp
  have hSn := hSn; refine hK _ _ hSn ?_; clear hK; clear K; simp only [setL]
  refine WH.tv 3 rfl (fun w' hSw => exec_slice_l _ _ _ rfl _ _ Try.underlying26 Try.byteSize _ rfl _ _ rfl (32 + 32 * q) (by omega) (by omega)) ?_; simp only [setL]
  refine WH.only 4 _ rfl (by kernel_rfl) rfl (fun K hK => ?_)
  refine ow_copy _ _ _ _ rfl _ Try.underlying30 Try.byteSize g2 0 32 32 (zeros 32) _ rfl (Hb3.out.ext HE.out) (by rw [HzL.out]; omega) _ _ _ ((b.drop (32 + 32 * q)).take (256 - (32 + 32 * q))) rfl (by rw [List.length_take, List.length_drop, HbL.out]; omega) (RB.of_blk_at (HB3.out.ext HE.out) (32 + 32 * q) (256 - (32 + 32 * q))) ?_
  apply Stop.go; intro wb Hob Hbb
  rw [HC.out] at Hbb
  have hSn := hSn.only Hob.out (by have := z3.out; omega); refine hK _ _ hSn ?_; clear hK; clear K; simp only [setL]
  refine WH.done (by kernel_rfl) ?_
  have HRb := Lib.hid ((HR3.out.ext HE.out).only Hob.out (by have := z3.out; omega))
  have Eb := Lib.hid (bonly (bt E3.out HE.out) Hob.out (by have := z3.out; omega))
  clear HR3 HB3 hSn HE Hob E3 HC
  go_wp2_with (first | refine wpList_load_arr rfl _ _ rfl _ rfl _ _ Hbb.out _ _ Try.underlying69 (Try.b32Fits HRL.out) ?_ | refine wpList_store_arr rfl _ _ _ rfl _ _ rfl rfl _ _ HRb.out (Try.b32Fits HRL.out) (by simp only [bcells_size, HRL.out, HzL.out]) (oneCell_bcells _) ?_)
  apply Stop.go; intro w5 Ho5 Hb5
  go_wp2_with ((with_reducible show bodyPost _ _ _ _ _ _); refine bodyPost_cell rfl _ rfl _ _ Hb5.out _ _ Try.underlying69 (Try.b32Fits HRL.out) rfl ?_)
  apply Stop.go
  rw [HX.out]
  exact ⟨rfl, bonly Eb.out Ho5.out (by have := z3.out; omega)⟩

set_option maxHeartbeats 1600000 in
theorem blay_any (b : List UInt8) (hb : b.length = 256) (q : Nat) (hq : q < 7) (r : List UInt8) (hr : r.length = 32) (w : World) :
    Calls Try.prog 32 #[.agg (bcells b), .int .i64 q, .agg (bcells r)] w (RetA w (putS b q r)) := by
  have HbL := Lib.hid hb
  have HrL := Lib.hid hr
  have HzL : Hid ((zeros 256).length = 256) := Lib.hid (zeros_len _)
  have HPL := Lib.hid (putS_len hb hq hr)
  have HP := Lib.hid (lay_put (b := b) hr hq)
  obtain ⟨X, HX⟩ : ∃ X, Hid (putS b q r = X) := ⟨_, Lib.hid rfl⟩
  rw [HX.out] at HPL HP ⊢
  have hpl := slotAt_any q hq
  obtain ⟨o, Ho⟩ : ∃ o, Hid (32 + 32 * q = o) := ⟨_, Lib.hid rfl⟩
  rw [Ho.out] at hpl HP
  go_enter Try.func32, Try.ntmps32
  go_wp2_with (refine wpList_box_row rfl _ _ rfl _ rfl ?_)
  apply Stop.go; intro w1 Hg1 Hb1
  go_wp2_with (refine wpList_box_row rfl _ _ rfl _ rfl ?_)
  apply Stop.go; intro w2 Hg2 Hb2
  go_wp2_with (refine wpList_alloc_row rfl _ rfl _ Try.blockZero ?_)
  apply Stop.go; intro w3 Hg3 Hb3
  have HB3 := Lib.hid ((Hb1.out.ext Hg2.out.1).ext Hg3.out.1)
  have HR3 := Lib.hid (Hb2.out.ext Hg3.out.1)
  have E3 := Lib.hid (bt (bt Hg1.out.1 Hg2.out.1) Hg3.out.1)
  have z3 := Lib.hid (show w.heap.size < w1.heap.size ∧ w1.heap.size < w2.heap.size by have := Hg1.out.2; have := Hg2.out.2; omega)
  generalize w1.heap.size = g1 at *
  generalize w2.heap.size = g2 at *
  clear Hb1 Hb2 Hg1 Hg2 Hg3 hb hr
  go_wp2_with fail
  refine WH.start (S := fun w' : World => Blk w' w.heap.size 26 (bcells b)) [false, false, false, false, false, false] 6 rfl rfl (by kernel_rfl) (HB3.out.ext (bdrew w3 1)) (fun hSn => ?_); obtain ⟨wS, hwS⟩ : ∃ x, (w3).drew = x := ⟨_, rfl⟩; have HE := Lib.hid (show Below (w3).heap.size (w3) wS from hwS ▸ bdrew w3 1); rw [hwS] at hSn ⊢; clear hwS
  refine WH.tv 0 rfl (fun w' hSw => exec_load_blk _ _ rfl _ rfl _ _ (hSw) _ (Try.underlying26) rfl (Try.blockFits HbL.out)) ?_; simp only [setL]
  refine WH.tk 1 ?_; simp only [setL]
  refine WH.tv 3 rfl (fun w' hSw => exec_slice_all _ _ rfl 32 _ Try.underlying69 Try.byteSize g1 rfl (by decide)) ?_; simp only [setL]
  refine WH.only 2 _ rfl (by kernel_rfl) rfl (fun K hK => ?_)
  go_simp; refine (hpl _).mono ?_; rintro e wa ⟨rfl, rfl⟩; go_simp
  have hSn := hSn; refine hK _ _ hSn ?_; clear hK; clear K; simp only [setL]
  refine WH.only 4 _ rfl (by kernel_rfl) rfl (fun K hK => ?_)
  go_simp; refine (nlay_any b HbL.out (o : Int) _ 32 _ r HrL.out _ (RB.of_blk0 (HR3.out.ext HE.out))).mono ?_; rintro e wb ⟨rfl, hbb⟩; go_simp
  rw [HP.out]
  have HE := Lib.hid (bt HE.out hbb)
  have hSn := hSn.ext hbb; refine hK _ _ hSn ?_; clear hK; clear K; simp only [setL]
  refine WH.only 5 _ rfl (by kernel_rfl) rfl (fun K hK => ?_)
  refine ow_store _ _ _ rfl _ _ rfl rfl _ _ (Hb3.out.ext HE.out) (Try.blockFits HPL.out) (by rw [bcells_size, bcells_size, HPL.out, HzL.out]) (oneCell_bcells _) ?_
  apply Stop.go; intro wc Hoc Hbc
  have hSn := hSn.only Hoc.out (by have := z3.out; omega); refine hK _ _ hSn ?_; clear hK; clear K; simp only [setL]
  refine WH.done (by kernel_rfl) ?_
  go_wp2_with ((with_reducible show bodyPost _ _ _ _ _ _); refine bodyPost_cell rfl _ rfl _ _ Hbc.out _ _ Try.underlying26 (Try.blockFits HPL.out) rfl ?_)
  apply Stop.go
  exact ⟨rfl, bonly (bt E3.out HE.out) Hoc.out (by have := z3.out; omega)⟩

set_option maxHeartbeats 1600000 in
theorem written_any (e : En) (hm : mayE e = true) (w : World) :
    Calls Try.prog 33 #[.agg (ecells e)] w (RetA w (bytesE e)) := by
  have Hs := Lib.hid (show e.name.size ≤ maxLen by have := (rightN_size (mayE_iff.1 hm).1).2; unfold maxLen; omega)
  have HzL : Hid ((zeros 256).length = 256) := Lib.hid (zeros_len _)
  have Hz32 : Hid ((zeros 32).length = 32) := Lib.hid (zeros_len _)
  have Hz25 : Hid ((zeros 25).length = 25) := Lib.hid (zeros_len _)
  have HWi := Lib.hid (written_with hm)
  have HWl := Lib.hid (written_lay hm)
  have HWc := Lib.hid (written_copy hm)
  have HBL := Lib.hid (bytesE_len hm)
  have HPL := Lib.hid (packN_len e.name)
  have HI := Lib.hid (show 0 ≤ e.ino ∧ e.ino ≤ 128 by have := mayE_iff.1 hm; omega)
  have HU := Lib.hid (show IntKind.u64.wrap e.ino = (e.ino.toNat : Nat) by
    have h := HI.out
    rw [Int.toNat_of_nonneg h.1]
    exact IntWalk.u64_in _ (by omega))
  obtain ⟨s, i⟩ := e
  obtain ⟨W1, hW1⟩ : ∃ W1, leBytes 2 i.toNat ++ zeros 254 = W1 := ⟨_, rfl⟩
  have HL1 : Hid (W1.length = 256) := Lib.hid (by rw [← hW1, List.length_append, leBytes_len, zeros_len])
  obtain ⟨X, hX⟩ : ∃ X, bytesE ⟨s, i⟩ = X := ⟨_, rfl⟩
  obtain ⟨pk, hpk⟩ : ∃ p, packN s = p := ⟨_, rfl⟩
  simp only [hW1, hX, hpk] at HWi HWl HWc HBL HPL ⊢
  have HL2 : Hid ((X ++ zeros 224).length = 256) := Lib.hid (by rw [List.length_append, HBL.out, zeros_len])
  obtain ⟨W2, hW2⟩ : ∃ W2, X ++ zeros 224 = W2 := ⟨_, rfl⟩
  rw [hW2] at HWl HWc HL2
  have HP := Lib.hid (fun w => pack_any s Hs.out w)
  rw [hpk] at HP
  clear hW1 hW2 hX hpk hm
  go_enter Try.func33, Try.ntmps33
  go_wp2_with (refine wpList_box_row rfl _ _ rfl _ rfl ?_)
  apply Stop.go; intro w1 Hg1 Hb1
  go_wp2_with (refine wpList_alloc_row rfl _ rfl _ Try.b32Zero ?_)
  apply Stop.go; intro w2 Hg2 Hb2
  have HE2 := Lib.hid (Hb1.out.ext Hg2.out.1)
  have E2 := Lib.hid (bt Hg1.out.1 Hg2.out.1)
  have z2 := Lib.hid (show w.heap.size < w1.heap.size ∧ w1.heap.size < w2.heap.size by have := Hg1.out.2; have := Hg2.out.2; omega)
  generalize w1.heap.size = g1 at *
  clear Hb1 Hg1 Hg2
  have c0 : w2.cell? ⟨w.heap.size, 0, none⟩ = some (.string s) := HE2.out.cell 0
  go_wp2_with fail
  refine (HP.out _).mono ?_; rintro e w3 ⟨rfl, hb3⟩
  have HE3 := Lib.hid (HE2.out.ext hb3)
  have HR3 := Lib.hid (Hb2.out.ext hb3)
  have E3 := Lib.hid (bt E2.out hb3)
  have z3 := Lib.hid (show w.heap.size < g1 ∧ g1 < w3.heap.size by have := z2.out; have := hb3.size; omega)
  clear hb3 HE2 Hb2 E2 z2 c0 HP
  go_wp2_with (refine wpList_alloc_row rfl _ rfl _ Try.packZero ?_)
  apply Stop.go; intro w4 Hg4 Hb4
  go_wp2_with (refine wpList_store_arr rfl _ _ _ rfl _ _ rfl rfl _ _ Hb4.out (Try.packFits HPL.out) (by rw [bcells_size, bcells_size, HPL.out, Hz25.out]) (oneCell_bcells _) ?_)
  apply Stop.go; intro w5 Ho5 Hb5
  have HE5 := Lib.hid ((HE3.out.ext Hg4.out.1).only Ho5.out (by have := z3.out; omega))
  have HR5 := Lib.hid ((HR3.out.ext Hg4.out.1).only Ho5.out (by have := z3.out; omega))
  have E5 := Lib.hid (bonly (bt E3.out Hg4.out.1) Ho5.out (by have := z3.out; omega))
  have z5 := Lib.hid (show w.heap.size < g1 ∧ g1 < w3.heap.size ∧ w3.heap.size < w5.heap.size by have := z3.out; have := Hb5.out.lt; omega)
  generalize w3.heap.size = g3 at *
  clear Hg4 Hb4 Ho5 HE3 HR3 E3 z3
  have c1 : w5.cell? ⟨w.heap.size, 1, none⟩ = some (.int .i64 i) := HE5.out.cell 1
  go_wp2_with (refine wpList_build_zero rfl _ rfl _ Try.blockZero _ _ Try.underlying26 Try.byteSize ?_)
  refine (nwith_any (zeros 256) HzL.out 0 2 i i.toNat HU.out (by have := HI.out; omega) _).mono ?_; rintro e w6 ⟨rfl, hb6⟩
  rw [HWi.out]
  have HR6 := Lib.hid (HR5.out.ext hb6)
  have HK6 := Lib.hid (Hb5.out.ext hb6)
  have E6 := Lib.hid (bt E5.out hb6)
  have z6 := Lib.hid (show w.heap.size < g1 ∧ g1 < g3 ∧ g3 < w6.heap.size by have := z5.out; have := hb6.size; omega)
  clear hb6 HE5 HR5 Hb5 E5 z5 c1
  go_wp2_with (refine wpList_alloc_row rfl _ rfl _ Try.blockZero ?_)
  apply Stop.go; intro w7 Hg7 Hb7
  go_wp2_with (refine wpList_store_arr rfl _ _ _ rfl _ _ rfl rfl _ _ Hb7.out (Try.blockFits HL1.out) (by rw [bcells_size, bcells_size, HL1.out, HzL.out]) (oneCell_bcells _) ?_)
  apply Stop.go; intro w8 Ho8 Hb8
  have HR8 := Lib.hid ((HR6.out.ext Hg7.out.1).only Ho8.out (by have := z6.out; omega))
  have HK8 := Lib.hid ((HK6.out.ext Hg7.out.1).only Ho8.out (by have := z6.out; omega))
  have E8 := Lib.hid (bonly (bt E6.out Hg7.out.1) Ho8.out (by have := z6.out; omega))
  have z8 := Lib.hid (show w.heap.size < g1 ∧ g1 < g3 ∧ g3 < w6.heap.size ∧ w6.heap.size < w8.heap.size by have := z6.out; have := Hb8.out.lt; omega)
  generalize w6.heap.size = g6 at *
  clear Hg7 Hb7 Ho8 HR6 HK6 E6 z6
  go_wp2_with fail
  refine WT.start 3 (S := fun w' : World => Blk w' g6 26 (bcells W1)) [false, false, false, false] 4 rfl rfl (by kernel_rfl) (Hb8.out.ext (bdrew w8 1)) (fun hSn => ?_); obtain ⟨wS, hwS⟩ : ∃ x, (w8).drew = x := ⟨_, rfl⟩; have HE := Lib.hid (show Below (w8).heap.size (w8) wS from hwS ▸ bdrew w8 1); rw [hwS] at hSn ⊢; clear hwS
  refine WT.tv 0 rfl (fun w' hSw => run_load_arr _ _ rfl _ rfl _ _ hSw _ _ Try.underlying26 (Try.blockFits HL1.out)) ?_; simp only [setL]
  refine WT.tv 1 rfl (fun w' hSw => exec_slice_all _ _ rfl 25 _ Try.underlying90 Try.byteSize g3 rfl (by decide)) ?_; simp only [setL]
  refine WT.only 2 _ rfl (by kernel_rfl) rfl (fun K hK => ?_)
  go_simp; refine (nlay_any W1 HL1.out 2 _ 25 _ pk HPL.out _ (RB.of_blk0 (HK8.out.ext HE.out))).mono ?_; rintro e wb ⟨rfl, hbb⟩; go_simp
  rw [HWl.out]
  have HE := Lib.hid (bt HE.out hbb)
  have hSn := hSn.ext hbb; refine hK _ _ hSn ?_; clear hK; clear K; simp only [setL]
  refine WT.last _ rfl (by kernel_rfl) rfl (fun K hK => ?_)
  refine ow_store _ _ _ rfl _ _ rfl rfl _ _ hSn (Try.blockFits HL2.out) (by rw [bcells_size, bcells_size, HL2.out, HL1.out]) (oneCell_bcells _) ?_
  apply Stop.go; intro wc Hoc Hbc
  have HRc := Lib.hid ((HR8.out.ext HE.out).only Hoc.out (by have := z8.out; omega))
  have Ec := Lib.hid (bonly (bt E8.out HE.out) Hoc.out (by have := z8.out; omega))
  refine hK _ _ ?_; clear hK; clear K; simp only [setL]; refine WT.done (by kernel_rfl) ?_
  clear HE hSn hbb HR8 HK8 Hb8 E8 Hoc HI HU HWi HWl
  go_wp2_with (refine wpList_alloc_row rfl _ rfl _ Try.b32Zero ?_)
  apply Stop.go; intro wd Hgd Hbd
  have HRd := Lib.hid (HRc.out.ext Hgd.out.1)
  have HCd := Lib.hid (Hbc.out.ext Hgd.out.1)
  have Ed := Lib.hid (bt Ec.out Hgd.out.1)
  have zd := Lib.hid (show w.heap.size < g1 ∧ g1 < wc.heap.size ∧ g6 < wc.heap.size by have := z8.out; have := Hbc.out.lt; omega)
  generalize wc.heap.size = gc at *
  clear HRc Hbc Ec Hgd z8
  go_wp2_with fail
  refine WT.start 2 (S := fun w' : World => Blk w' gc 69 (bcells (zeros 32))) [false, false, false] 3 rfl rfl (by kernel_rfl) (Hbd.out.ext (bdrew wd 1)) (fun hSn => ?_); obtain ⟨wS2, hwS⟩ : ∃ x, (wd).drew = x := ⟨_, rfl⟩; have HE := Lib.hid (show Below (wd).heap.size (wd) wS2 from hwS ▸ bdrew wd 1); rw [hwS] at hSn ⊢; clear hwS
  refine WT.tv 0 rfl (fun w' hSw => exec_slice_all _ _ rfl 32 _ Try.underlying69 Try.byteSize gc rfl (by decide)) ?_; simp only [setL]
  refine WT.tv 1 rfl (fun w' hSw => exec_slice_all _ _ rfl 256 _ Try.underlying26 Try.byteSize g6 rfl (by decide)) ?_; simp only [setL]
  refine WT.last _ rfl (by kernel_rfl) rfl (fun K hK => ?_)
  refine ow_copy _ _ _ _ rfl _ Try.underlying30 Try.byteSize gc 0 32 32 (zeros 32) _ rfl hSn (by rw [Hz32.out]; omega) _ 256 256 W2 rfl HL2.out (RB.of_blk0 (HCd.out.ext HE.out)) ?_
  apply Stop.go; intro wb Hob Hbb
  rw [HWc.out] at Hbb
  have HRb := Lib.hid ((HRd.out.ext HE.out).only Hob.out (by have := zd.out; omega))
  have HEb := Lib.hid (bonly (bt Ed.out HE.out) Hob.out (by have := zd.out; omega))
  refine hK _ _ ?_; clear hK; clear K; simp only [setL]; refine WT.done (by kernel_rfl) ?_
  clear Hob HE hSn HRd HCd Ed Hbd HWc
  go_wp2_with (first | refine wpList_load_arr rfl _ _ rfl _ rfl _ _ Hbb.out _ _ Try.underlying69 (Try.b32Fits HBL.out) ?_ | refine wpList_store_arr rfl _ _ _ rfl _ _ rfl rfl _ _ HRb.out (Try.b32Fits HBL.out) (by simp only [bcells_size, HBL.out, Hz32.out]) (oneCell_bcells _) ?_)
  apply Stop.go; intro wf Hof Hbf
  go_wp2_with ((with_reducible show bodyPost _ _ _ _ _ _); refine bodyPost_cell rfl _ rfl _ _ Hbf.out _ _ Try.underlying69 (Try.b32Fits HBL.out) rfl ?_)
  apply Stop.go
  exact ⟨rfl, bonly HEb.out Hof.out (by have := zd.out; omega)⟩

end Go.Proofs.Ytmojappbgghpbaa
