/-
  Contracts of package bucket: entry, Find, Room, List.
-/
import Derived.Test.YtmojappbgghpbaaBck1
import Derived.Test.YtmojappbgghpbaaRowsN
import Derived.Test.YtmojappbgghpbaaStepA
namespace Go.Proofs.Ytmojappbgghpbaa
open Go.RowKit

theorem unpackS_size {L : List UInt8} (hL : L.length = 25) : (unpackS L).size ≤ maxLen := by
  unfold unpackS
  cases h : unpackB L
  · simp [maxLen]
    exact Nat.zero_le _
  · have h1 : (L.headD 0).toNat ≤ 24 := by
      unfold unpackB at h
      simp only [Bool.and_eq_true, decide_eq_true_eq] at h
      exact h.1
    have h2 := packCut_len hL h1
    have e : (ByteArray.mk (packCut L).toArray).size = (packCut L).length := by simp [ByteArray.size]
    rw [if_pos rfl, e, h2]
    unfold maxLen
    omega
theorem nameR_len {r : List UInt8} (hr : r.length = 32) : (nameR r).length = 25 := by
  unfold nameR
  rw [List.length_take, List.length_drop, hr]
  rfl
theorem nameR_copy {r : List UInt8} (hr : r.length = 32) : splice (zeros 25) 0 ((((r.drop 2).take (32 - 2))).take 25) = nameR r := by
  have e : ((r.drop 2).take (32 - 2)).take 25 = nameR r := by
    unfold nameR
    rw [List.take_take]
    rfl
  rw [e, splice_all _ _ (by rw [nameR_len hr, zeros_len])]
theorem inoR_of {r : List UInt8} (hr : r.length = 32) : getN (layL (zeros 256) 0 r) 0 2 4 = leVal (r.take 2) := by
  have h1 : layL (zeros 256) 0 r = r ++ zeros 224 := by
    have := layL_zeros [] r 0 256 rfl (by omega) (by omega) (by omega)
    rw [List.nil_append, List.nil_append, hr] at this
    exact this
  have hl : (r ++ zeros 224).length = 256 := by rw [List.length_append, hr, zeros_len]
  unfold getN
  rw [h1, hl, if_pos (by decide)]
  show leVal (((r ++ zeros 224).drop 0).take 2) = _
  rw [List.drop_zero, List.take_append_of_le_length (by omega)]
theorem text_eq (a b : ByteArray) : (a.toList == b.toList) = decide (a = b) := by
  rw [ByteArray.toList_eq, ByteArray.toList_eq, Bool.eq_iff_iff]
  simp only [beq_iff_eq, decide_eq_true_eq]
  constructor
  · intro h
    cases a
    cases b
    congr 1
    exact Array.toList_inj.1 h
  · rintro rfl
    rfl
/-- What Find and entry answer. -/
def entV (o : Option En) : En := o.getD ⟨⟨#[]⟩, 0⟩
theorem readE_no {r : List UInt8} (h : okR r = false) : readE r = none := by unfold readE; rw [h]; rfl
theorem readE_yes {r : List UInt8} (h : okR r = true) : readE r = some (enR r) := by unfold readE; rw [h]; rfl
def scells (k : Int) (e : En) : Array Value := #[.int .i64 k, .string e.name, .int .i64 e.ino]
theorem Try.slotSize : (Try.prog.info? 43).map (·.size) = some 3 := by kernel_rfl
theorem Try.slotZero : (Try.prog.info? 43).map (·.zero) = some (some (.agg #[.int .i64 0, .string ⟨#[]⟩, .int .i64 0])) := by kernel_rfl
theorem Try.slotInfo : (Try.prog.info? 43).map (fun i => (i.zero, i.size, i.bytes)) = some (some (.agg #[.int .i64 0, .string ⟨#[]⟩, .int .i64 0]), 3, 32) := by kernel_rfl

set_option maxRecDepth 4000 in
set_option maxHeartbeats 1600000 in
theorem entry_any (r : List UInt8) (hr : r.length = 32) (w : World) :
    Calls Try.prog 36 #[.agg (bcells r)] w fun e w' => e = .returned (.tuple #[.agg (ecells (entV (readE r))), .bool (readE r).isSome]) ∧ Below w.heap.size w w' := by
  have HrL := Lib.hid hr
  have Hz25 : Hid ((zeros 25).length = 25) := Lib.hid (zeros_len _)
  have HzL : Hid ((zeros 256).length = 256) := Lib.hid (zeros_len _)
  have HNL := Lib.hid (nameR_len hr)
  have HNC := Lib.hid (nameR_copy hr)
  have HI := Lib.hid (inoR_of hr)
  have Hsz := Lib.hid (unpackS_size (nameR_len hr))
  have HOK : Hid (okR r = (unpackB (nameR r) && (mayE ⟨unpackS (nameR r), ((leVal (r.take 2) : Nat) : Int)⟩ && bytesE ⟨unpackS (nameR r), ((leVal (r.take 2) : Nat) : Int)⟩ == r))) := Lib.hid rfl
  have HEN : Hid (enR r = ⟨unpackS (nameR r), ((leVal (r.take 2) : Nat) : Int)⟩) := Lib.hid rfl
  have HOL := Lib.hid (layL_len (zeros 256) 0 r (zeros_len _))
  obtain ⟨N, hN⟩ : ∃ N, nameR r = N := ⟨_, rfl⟩
  rw [hN] at HNL HNC Hsz HOK HEN
  clear hN
  go_enter Try.func36, Try.ntmps36
  go_wp2_with (refine wpList_box_row rfl _ _ rfl _ rfl ?_)
  apply Stop.go; intro w1 Hg1 Hb1
  go_wp2_with (refine wpList_alloc_row rfl _ rfl _ Try.entZero ?_)
  apply Stop.go; intro w2 Hg2 Hb2
  go_wp2_with (refine wpList_alloc_row rfl _ rfl _ Try.packZero ?_)
  apply Stop.go; intro w3 Hg3 Hb3
  have HB3 := Lib.hid ((Hb1.out.ext Hg2.out.1).ext Hg3.out.1)
  have HR3 := Lib.hid (Hb2.out.ext Hg3.out.1)
  have E3 := Lib.hid (bt (bt Hg1.out.1 Hg2.out.1) Hg3.out.1)
  have z3 := Lib.hid (show w.heap.size < w1.heap.size ∧ w1.heap.size < w2.heap.size by have := Hg1.out.2; have := Hg2.out.2; omega)
  generalize w1.heap.size = g1 at *
  generalize w2.heap.size = g2 at *
  clear Hb1 Hb2 Hg1 Hg2 Hg3 hr
  go_wp2_with fail
  refine WT.start 2 (S := fun w' : World => Blk w' g2 90 (bcells (zeros 25))) [false, false, false] 3 rfl rfl (by kernel_rfl) (Hb3.out.ext (bdrew w3 1)) (fun hSn => ?_); obtain ⟨wS, hwS⟩ : ∃ x, (w3).drew = x := ⟨_, rfl⟩; have HE := Lib.hid (show Below (w3).heap.size (w3) wS from hwS ▸ bdrew w3 1); rw [hwS] at hSn ⊢; clear hwS
  refine WT.tv 0 rfl (fun w' hSw => exec_slice_all _ _ rfl 25 _ Try.underlying90 Try.byteSize g2 rfl (by decide)) ?_; simp only [setL]
  refine WT.tv 1 rfl (fun w' hSw => exec_slice_l _ _ _ rfl _ _ Try.underlying69 Try.byteSize _ rfl _ _ rfl 2 (by omega) (by omega)) ?_; simp only [setL]
  refine WT.last _ rfl (by kernel_rfl) rfl (fun K hK => ?_)
  refine ow_copy _ _ _ _ rfl _ Try.underlying30 Try.byteSize g2 0 25 25 (zeros 25) _ rfl hSn (by rw [Hz25.out]; omega) _ _ _ ((r.drop 2).take (32 - 2)) rfl (by rw [List.length_take, List.length_drop, HrL.out]; omega) (RB.of_blk_at (HB3.out.ext HE.out) 2 (32 - 2)) ?_
  apply Stop.go; intro wb Hob Hbb
  rw [HNC.out] at Hbb
  have HBb := Lib.hid ((HB3.out.ext HE.out).only Hob.out (by have := z3.out; omega))
  have HRb := Lib.hid ((HR3.out.ext HE.out).only Hob.out (by have := z3.out; omega))
  have Eb := Lib.hid (bonly (bt E3.out HE.out) Hob.out (by have := z3.out; omega))
  refine hK _ _ ?_; clear hK; clear K; simp only [setL]; refine WT.done (by kernel_rfl) ?_
  clear Hob HE hSn HB3 HR3 E3 Hb3 HNC
  go_wp2_with (refine wpList_load_arr rfl _ _ rfl _ rfl _ _ Hbb.out _ _ Try.underlying90 (Try.packFits HNL.out) ?_)
  refine (unpack_any N HNL.out _).mono ?_; rintro e w4 ⟨rfl, hb4⟩
  have HB4 := Lib.hid (HBb.out.ext hb4)
  have HR4 := Lib.hid (HRb.out.ext hb4)
  have E4 := Lib.hid (bt Eb.out hb4)
  have z4 := Lib.hid (show w.heap.size < g1 ∧ g1 < w4.heap.size by have := z3.out; have := HR4.out.lt; omega)
  clear hb4 HBb HRb Hbb Eb z3
  cases hu : unpackB N
  · have H0 := Lib.hid (readE_no (show okR r = false by rw [HOK.out, hu]; rfl))
    clear hu
    rw [show errN false = 3 from rfl]
    go_wp2_with (first | refine wpList_store_arr rfl _ _ _ rfl _ #[.string ⟨#[]⟩, .int .i64 0] rfl rfl _ _ HR4.out Try.entSize rfl (by simp [Value.oneCell']) ?_)
    apply Stop.go; intro wc Hoc Hbc
    go_wp2_with ((with_reducible show bodyPost _ _ _ _ _ _); refine bodyPost_struct_tmp rfl _ rfl _ _ Hbc.out _ Try.underlying39 rfl Try.entSize rfl _ rfl ?_)
    apply Stop.go
    rw [H0.out]
    exact ⟨⟨rfl, rfl⟩, bonly E4.out Hoc.out (by have := z4.out; omega)⟩
  · have HOK := Lib.hid (show okR r = (mayE ⟨unpackS N, ((leVal (r.take 2) : Nat) : Int)⟩ && bytesE ⟨unpackS N, ((leVal (r.take 2) : Nat) : Int)⟩ == r) by rw [HOK.out, hu]; rfl)
    obtain ⟨s, hs⟩ : ∃ s, unpackS N = s := ⟨_, rfl⟩
    obtain ⟨v, hv⟩ : ∃ v, leVal (r.take 2) = v := ⟨_, rfl⟩
    rw [hs] at HOK HEN Hsz ⊢
    rw [hv] at HOK HEN HI
    clear hu hs hv
    rw [show errN true = 0 from rfl]
    go_wp2_with (refine wpList_slice_arr_all rfl _ _ rfl 32 _ Try.underlying69 Try.byteSize w.heap.size rfl (by omega) ?_)
    refine (nof_any _ 32 _ r HrL.out _ (RB.of_blk0 HB4.out)).mono ?_; rintro e w5 ⟨rfl, hb5⟩
    have HB5 := Lib.hid (HB4.out.ext hb5)
    have HR5 := Lib.hid (HR4.out.ext hb5)
    have E5 := Lib.hid (bt E4.out hb5)
    clear hb5 HB4 HR4 E4
    go_wp2_with fail
    refine (nat_any _ HOL.out 0 2 _).mono ?_; rintro e w6 ⟨rfl, hb6⟩
    rw [HI.out]
    have HB6 := Lib.hid (HB5.out.ext hb6)
    have HR6 := Lib.hid (HR5.out.ext hb6)
    have E6 := Lib.hid (bt E5.out hb6)
    have z6 := Lib.hid (show w.heap.size < g1 ∧ g1 < w6.heap.size from ⟨z4.out.1, HR6.out.lt⟩)
    clear hb6 HB5 HR5 E5 HI HOL
    go_wp2_with (refine wpList_alloc_row rfl _ rfl _ Try.entZero ?_)
    apply Stop.go; intro w7 Hg7 Hb7
    go_wp2_with (refine wpList_store_arr rfl _ _ _ rfl _ (ecells ⟨s, (v : Int)⟩) rfl rfl _ _ Hb7.out Try.entSize rfl (by simp [ecells, Value.oneCell']) ?_)
    apply Stop.go; intro w8 Ho8 Hb8
    have HB8 := Lib.hid ((HB6.out.ext Hg7.out.1).only Ho8.out (by have := z6.out; omega))
    have HR8 := Lib.hid ((HR6.out.ext Hg7.out.1).only Ho8.out (by have := z6.out; omega))
    have E8 := Lib.hid (bonly (bt E6.out Hg7.out.1) Ho8.out (by have := z6.out; omega))
    generalize w6.heap.size = g6 at *
    clear Hg7 Hb7 Ho8 HB6 HR6 E6
    go_wp2_with fail
    cases hm : mayE ⟨s, (v : Int)⟩
    · have H0 := Lib.hid (readE_no (show okR r = false by rw [HOK.out, hm]; rfl))
      refine WH.start (S := fun w' : World => Blk w' g6 39 (ecells ⟨s, (v : Int)⟩)) [false, false, false, false, false, false, false, false, false] 9 rfl rfl (by kernel_rfl) (Hb8.out.ext (bdrew w8 1)) (fun hSn => ?_); obtain ⟨wS3, hwS⟩ : ∃ x, (w8).drew = x := ⟨_, rfl⟩; have HE := Lib.hid (show Below (w8).heap.size (w8) wS3 from hwS ▸ bdrew w8 1); rw [hwS] at hSn ⊢; clear hwS
      refine WH.tv 0 rfl (fun w' hSw => exec_load_blk _ _ rfl _ rfl _ _ (hSw) _ (Try.underlying39) rfl (Try.entSize)) ?_; simp only [setL]
      refine WH.only 1 _ rfl (by kernel_rfl) rfl (fun K hK => ?_)
      go_simp; refine (bmay_any ⟨s, (v : Int)⟩ Hsz.out _).mono ?_; rintro e wd ⟨rfl, hbd⟩; go_simp
      clear hm
      have HE := Lib.hid (bt HE.out hbd)
      have hSn := hSn.ext hbd; refine hK _ _ hSn ?_; clear hK; clear K; simp only [setL]
      refine WH.tk 2 ?_; simp only [setL]
      refine WH.tk 3 ?_; simp only [setL]
      refine WH.skip 4 _ rfl (by kernel_rfl) (fun _ _ _ h => h) rfl (by assumption) ?_; simp only [setL]
      refine WH.skip 6 _ rfl (by kernel_rfl) (fun _ _ _ h => h) rfl (by assumption) ?_; simp only [setL]
      refine WH.onlySkip 5 _ rfl (by kernel_rfl) rfl (by assumption) ?_; simp only [setL]
      refine WH.skip 7 _ rfl (by kernel_rfl) (fun _ _ _ h => h) rfl (by assumption) ?_; simp only [setL]
      refine WH.tk 8 ?_; simp only [setL]
      refine WH.done (by kernel_rfl) ?_
      have HR9 := Lib.hid (HR8.out.ext HE.out)
      have E9 := Lib.hid (bt E8.out HE.out)
      clear HR8 HB8 Hb8 E8 HE hSn hbd
      go_wp2_with (first | refine wpList_store_arr rfl _ _ _ rfl _ #[.string ⟨#[]⟩, .int .i64 0] rfl rfl _ _ HR9.out Try.entSize rfl (by simp [Value.oneCell']) ?_)
      apply Stop.go; intro wc Hoc Hbc
      go_wp2_with ((with_reducible show bodyPost _ _ _ _ _ _); refine bodyPost_struct_tmp rfl _ rfl _ _ Hbc.out _ Try.underlying39 rfl Try.entSize rfl _ rfl ?_)
      apply Stop.go
      rw [H0.out]
      exact ⟨⟨rfl, rfl⟩, bonly E9.out Hoc.out (by have := z6.out; omega)⟩
    · have Hm := Lib.hid hm
      have HYL := Lib.hid (bytesE_len hm)
      have HW := Lib.hid (fun w => written_any ⟨s, (v : Int)⟩ hm w)
      have HOK := Lib.hid (show okR r = (bytesE ⟨s, (v : Int)⟩ == r) by rw [HOK.out, hm]; rfl)
      obtain ⟨Y, hY⟩ : ∃ Y, bytesE ⟨s, (v : Int)⟩ = Y := ⟨_, rfl⟩
      rw [hY] at HYL HW HOK
      obtain ⟨o, ho⟩ : ∃ o, okR r = o := ⟨_, rfl⟩
      have Ho := Lib.hid ho
      have Hneq : Hid ((!(Y == r)) = !o) := Lib.hid (by rw [← HOK.out, ho])
      clear hm hY ho
      refine WH.start (S := fun w' : World => Blk w' g6 39 (ecells ⟨s, (v : Int)⟩) ∧ Blk w' w.heap.size 69 (bcells r)) [false, false, false, false, false, false, false, false, false] 9 rfl rfl (by kernel_rfl) ⟨Hb8.out.ext (bdrew w8 1), HB8.out.ext (bdrew w8 1)⟩ (fun hSn => ?_); obtain ⟨wS3, hwS⟩ : ∃ x, (w8).drew = x := ⟨_, rfl⟩; have HE := Lib.hid (show Below (w8).heap.size (w8) wS3 from hwS ▸ bdrew w8 1); rw [hwS] at hSn ⊢; clear hwS
      refine WH.tv 0 rfl (fun w' hSw => exec_load_blk _ _ rfl _ rfl _ _ (hSw.1) _ (Try.underlying39) rfl (Try.entSize)) ?_; simp only [setL]
      refine WH.only 1 _ rfl (by kernel_rfl) rfl (fun K hK => ?_)
      go_simp; refine (bmay_any ⟨s, (v : Int)⟩ Hsz.out _).mono ?_; rintro e wd ⟨rfl, hbd⟩; go_simp
      rw [Hm.out]
      have HE := Lib.hid (bt HE.out hbd)
      have hSn := And.intro (hSn.1.ext hbd) (hSn.2.ext hbd); refine hK _ _ hSn ?_; clear hK; clear K; simp only [setL]
      refine WH.tk 2 ?_; simp only [setL]
      refine WH.tk 3 ?_; simp only [setL]
      refine WH.tv 4 rfl (fun w' hSw => exec_load_blk _ _ rfl _ rfl _ _ (hSw.1) _ (Try.underlying39) rfl (Try.entSize)) ?_; simp only [setL]
      refine WH.tv 6 rfl (fun w' hSw => exec_load_blk _ _ rfl _ rfl _ _ (hSw.2) _ (Try.underlying69) rfl (Try.b32Fits HrL.out)) ?_; simp only [setL]
      refine WH.only 5 _ rfl (by kernel_rfl) rfl (fun K hK => ?_)
      go_simp; refine (HW.out _).mono ?_; rintro e we ⟨rfl, hbe⟩; go_simp
      have HE := Lib.hid (bt HE.out hbe)
      have hSn := And.intro (hSn.1.ext hbe) (hSn.2.ext hbe); refine hK _ _ hSn ?_; clear hK; clear K; simp only [setL]
      refine WH.tv 7 rfl (fun w' hSw => exec_neq_arr _ _ _ _ rfl (by kernel_rfl) _ _ Try.underlying69 Try.underlying5 Try.byteSize Y r rfl rfl HYL.out HrL.out (!o) Hneq.out) ?_; simp only [setL]
      refine WH.tk 8 ?_; simp only [setL]
      refine WH.done (by kernel_rfl) ?_
      have HR9 := Lib.hid (HR8.out.ext HE.out)
      have E9 := Lib.hid (bt E8.out HE.out)
      have HQ9 := Lib.hid hSn.1
      clear HR8 HB8 Hb8 E8 HE hSn hbd hbe
      cases o
      · have H0 := Lib.hid (readE_no Ho.out)
        go_wp2_with (first | refine wpList_store_arr rfl _ _ _ rfl _ #[.string ⟨#[]⟩, .int .i64 0] rfl rfl _ _ HR9.out Try.entSize rfl (by simp [Value.oneCell']) ?_)
        apply Stop.go; intro wc Hoc Hbc
        go_wp2_with ((with_reducible show bodyPost _ _ _ _ _ _); refine bodyPost_struct_tmp rfl _ rfl _ _ Hbc.out _ Try.underlying39 rfl Try.entSize rfl _ rfl ?_)
        apply Stop.go
        rw [H0.out]
        exact ⟨⟨rfl, rfl⟩, bonly E9.out Hoc.out (by have := z6.out; omega)⟩
      · have H0 := Lib.hid (show readE r = some ⟨s, (v : Int)⟩ by rw [readE_yes Ho.out, HEN.out])
        go_wp2_with (first | refine wpList_load_blk rfl _ _ rfl _ rfl _ _ HQ9.out _ Try.underlying39 rfl Try.entSize ?_ | refine wpList_store_arr rfl _ _ _ rfl _ (ecells ⟨s, (v : Int)⟩) rfl rfl _ _ HR9.out Try.entSize rfl (by simp [ecells, Value.oneCell']) ?_)
        apply Stop.go; intro wc Hoc Hbc
        go_wp2_with ((with_reducible show bodyPost _ _ _ _ _ _); refine bodyPost_struct_tmp rfl _ rfl _ _ Hbc.out _ Try.underlying39 rfl Try.entSize rfl _ rfl ?_)
        apply Stop.go
        rw [H0.out]
        exact ⟨⟨rfl, rfl⟩, bonly E9.out Hoc.out (by have := z6.out; omega)⟩

def fndC (b : List UInt8) (s : ByteArray) : Array Value := match findS b s with
  | some k => scells k (entV (entS b k))
  | none => #[.int .i64 0, .string ⟨#[]⟩, .int .i64 0]
set_option maxRecDepth 4000 in
set_option maxHeartbeats 1600000 in
theorem bfind_any (b : List UInt8) (hb : b.length = 256) (s : ByteArray) (w : World) :
    Calls Try.prog 16 #[.agg (bcells b), .string s] w fun e w' => e = .returned (.tuple #[.agg (fndC b s), .bool (findS b s).isSome]) ∧ Below w.heap.size w w' := by
  have HbL := Lib.hid hb
  go_enter Try.func16, Try.ntmps16
  go_wp2_with (refine wpList_box_row rfl _ _ rfl _ rfl ?_)
  apply Stop.go; intro w1 Hg1 Hb1
  go_wp2_with (refine wpList_alloc_row rfl _ rfl _ Try.slotZero ?_)
  apply Stop.go; intro w2 Hg2 Hb2
  have HB2 := Lib.hid (Hb1.out.ext Hg2.out.1)
  have E2 := Lib.hid (bt Hg1.out.1 Hg2.out.1)
  have z2 := Lib.hid (show w.heap.size < w1.heap.size by have := Hg1.out.2; omega)
  generalize w1.heap.size = g1 at *
  clear Hb1 Hg1 Hg2 hb
  go_wp2_with fail
  go_loopw [9] (fun i wr => ∃ k : Nat, k ≤ 7 ∧ i = .int .i64 k ∧ (∀ j, j < k → hasS b s j = false) ∧ Blk wr w.heap.size 26 (bcells b) ∧ Blk wr g1 43 #[.int .i64 0, .string ⟨#[]⟩, .int .i64 0] ∧ Below w.heap.size w wr) (fun i _ => 7 - (intOf i).toNat)
  case atStart => exact ⟨0, Nat.zero_le _, rfl, fun j hj => absurd hj (by omega), HB2.out, Hb2.out, E2.out⟩
  case round =>
    obtain ⟨k, hk, rfl, hno, hbk, hsk, hek⟩ := hrel
    have HN := Lib.hid hno
    have HBk := Lib.hid hbk
    have HSk := Lib.hid hsk
    have HEk := Lib.hid hek
    clear hno hbk hsk hek
    by_cases hlt : k < 7
    · have d0 : decide ((k : Int) < 7) = true := by simp; omega
      go_wp2_with (refine wpList_load_arr rfl _ _ rfl _ rfl _ _ HBk.out _ _ Try.underlying26 (Try.blockFits HbL.out) ?_)
      refine (braw_any b HbL.out k hlt _).mono ?_; rintro e w3 ⟨rfl, hb3⟩
      have HB3 := Lib.hid (HBk.out.ext hb3)
      have HS3 := Lib.hid (HSk.out.ext hb3)
      have E3 := Lib.hid (bt HEk.out hb3)
      clear hb3 HBk HSk HEk
      go_wp2_with fail
      refine (entry_any (rawS b k) (rawS_len HbL.out hlt) _).mono ?_; rintro e w4 ⟨rfl, hb4⟩
      have HB4 := Lib.hid (HB3.out.ext hb4)
      have HS4 := Lib.hid (HS3.out.ext hb4)
      have E4 := Lib.hid (bt E3.out hb4)
      have z4 := Lib.hid (show w.heap.size < w4.heap.size ∧ g1 < w4.heap.size from ⟨HB4.out.lt, HS4.out.lt⟩)
      clear hb4 HB3 HS3 E3
      have HEs : Hid (entS b k = readE (rawS b k)) := Lib.hid rfl
      obtain ⟨o, ho⟩ : ∃ o, readE (rawS b k) = o := ⟨_, rfl⟩
      rw [ho] at HEs ⊢
      clear ho
      go_wp2_with (refine wpList_alloc_row rfl _ rfl _ Try.entZero ?_)
      apply Stop.go; intro w5 Hg5 Hb5
      go_wp2_with (refine wpList_store_arr rfl _ _ _ rfl _ (ecells (entV o)) rfl rfl _ _ Hb5.out Try.entSize rfl (by simp [ecells, Value.oneCell']) ?_)
      apply Stop.go; intro w6 Ho6 Hb6
      have HB6 := Lib.hid ((HB4.out.ext Hg5.out.1).only Ho6.out (by have := z4.out; omega))
      have HS6 := Lib.hid ((HS4.out.ext Hg5.out.1).only Ho6.out (by have := z4.out; omega))
      have E6 := Lib.hid (bonly (bt E4.out Hg5.out.1) Ho6.out (by have := z4.out; omega))
      generalize w4.heap.size = g4 at *
      clear Hg5 Hb5 Ho6 HB4 HS4 E4
      cases o with
      | none =>
        have HN1 := Lib.hid (hasS_no (s := s) HEs.out)
        rw [show (none : Option En).isSome = false from rfl]
        go_wp2_with fail
        go_roundw
        case rel =>
          refine ⟨k + 1, by omega, by go_num, fun j hj => ?_, HB6.out, HS6.out, E6.out⟩
          rcases Nat.lt_or_ge j k with h | h
          · exact HN.out j h
          · rw [show j = k from by omega]; exact HN1.out
        case measure => simp [intOf]; omega
      | some e =>
        have HN1 := Lib.hid (hasS_some (s := s) HEs.out)
        have c0 : w6.cell? ⟨g4, 0, none⟩ = some (.string e.name) := Hb6.out.cell 0
        rw [show (some e).isSome = true from rfl]
        cases heq : e.name.toList == s.toList
        · have HN1 := Lib.hid (show hasS b s k = false by rw [HN1.out, ← text_eq, heq])
          go_wp2_with fail
          go_roundw
          case rel =>
            refine ⟨k + 1, by omega, by go_num, fun j hj => ?_, HB6.out, HS6.out, E6.out⟩
            rcases Nat.lt_or_ge j k with h | h
            · exact HN.out j h
            · rw [show j = k from by omega]; exact HN1.out
          case measure => simp [intOf]; omega
        · have HF : Hid (findS b s = some k) := Lib.hid (fstB_some.2 ⟨hlt, by rw [HN1.out, ← text_eq, heq], HN.out⟩)
          have HC := Lib.hid (show fndC b s = scells k e by unfold fndC; rw [HF.out]; show scells k (entV (entS b k)) = _; rw [HEs.out]; rfl)
          have Hb6 : Hid (Blk w6 g4 39 #[.string e.name, .int .i64 e.ino]) := Hb6
          go_wp2_with (first | refine wpList_load_blk rfl _ _ rfl _ rfl _ _ Hb6.out _ Try.underlying39 rfl Try.entSize ?_ | refine wpList_store_arr rfl _ _ _ rfl _ (scells k e) rfl rfl _ _ HS6.out Try.slotSize rfl (by simp [scells, Value.oneCell']) ?_)
          apply Stop.go; intro wc Hoc Hbc
          go_wp2_with ((with_reducible show bodyPost _ _ _ _ _ _); refine bodyPost_struct_tmp rfl _ rfl _ _ Hbc.out _ Try.underlying43 rfl Try.slotSize rfl _ rfl ?_)
          apply Stop.go
          rw [HC.out, HF.out]
          exact ⟨⟨rfl, rfl⟩, bonly E6.out Hoc.out (by have := z2.out; omega)⟩
    · obtain rfl : k = 7 := by omega
      have d0 : decide (((7 : Nat) : Int) < 7) = false := by simp
      have HF := Lib.hid (fstB_none.2 HN.out)
      have z7 := Lib.hid (show w.heap.size < wr.heap.size from HBk.out.lt)
      have HFs : Hid (findS b s = none) := HF
      have HC := Lib.hid (show fndC b s = #[.int .i64 0, .string ⟨#[]⟩, .int .i64 0] by unfold fndC; rw [HFs.out])
      go_wp2_with (first | refine wpList_store_arr rfl _ _ _ rfl _ #[.int .i64 0, .string ⟨#[]⟩, .int .i64 0] rfl rfl _ _ HSk.out Try.slotSize rfl (by simp [Value.oneCell']) ?_)
      apply Stop.go; intro wc Hoc Hbc
      go_wp2_with ((with_reducible show bodyPost _ _ _ _ _ _); refine bodyPost_struct_tmp rfl _ rfl _ _ Hbc.out _ Try.underlying43 rfl Try.slotSize rfl _ rfl ?_)
      apply Stop.go
      rw [HC.out, HFs.out]
      exact ⟨⟨rfl, rfl⟩, bonly HEk.out Hoc.out (by have := z2.out; omega)⟩

end Go.Proofs.Ytmojappbgghpbaa
