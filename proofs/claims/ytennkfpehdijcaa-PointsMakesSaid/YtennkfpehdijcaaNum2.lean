import Derived.Test.YtennkfpehdijcaaNum1
import Derived.Test.YtennkfpehdijcaaRets
namespace Go.Proofs.Ytennkfpehdijcaa
open Go.RowKit

/-- The number that wd bytes from a on are, 0 if they are not there. -/
def getN (l : List UInt8) (a wd m : Int) : Nat := if fitsB l.length a wd m then leVal ((l.drop a.toNat).take wd.toNat) else 0
/-- A list with other bytes from a place on. -/
def layL (L : List UInt8) (a : Int) (l : List UInt8) : List UInt8 := if isPlaceB a then splice L a.toNat (l.take (256 - a.toNat)) else L
theorem layL_len (L : List UInt8) (a : Int) (l : List UInt8) (h : L.length = 256) : (layL L a l).length = 256 := by
  unfold layL
  split
  · rename_i hp
    simp only [isPlaceB, decide_eq_true_eq] at hp
    rw [splice_len _ _ _ (by simp; omega), h]
  · exact h
/-- The bytes with a number there. -/
def putL (l : List UInt8) (a wd : Int) (v : Nat) : List UInt8 := if fitsB l.length a wd 8 then splice l a.toNat (leBytes wd.toNat v) else []
/-- A block with a number there. -/
def nwithL (l : List UInt8) (a wd : Int) (v : Nat) : List UInt8 := if fitsB l.length a wd 4 then splice l a.toNat (leBytes wd.toNat v) else l
theorem nwithL_len (l : List UInt8) (a wd : Int) (v : Nat) : (nwithL l a wd v).length = l.length := by
  unfold nwithL
  split
  · rename_i hp
    simp only [fitsB, decide_eq_true_eq] at hp
    rw [splice_len _ _ _ (by rw [leBytes_len]; omega)]
  · rfl
/-- The bytes that are cut out. -/
def ncutL (l : List UInt8) (a n : Int) : List UInt8 := if isPlaceB a && decide (1 ≤ n) then (l.drop a.toNat).take n.toNat else []


set_option maxHeartbeats 400000 in
theorem nput_any (A : Option Addr) (n cap : Nat) (l : List UInt8) (hn : l.length = n) (hc : n ≤ 281474976710656) (a wd : Int) (v : Nat) (hv : v < 18446744073709551616) (w : World) (hr : RB w A l) :
    Calls Try.prog 30 #[.slice A n cap, .int .i64 a, .int .i64 wd, .int .u64 v] w (RetBB w (putL l a wd v) (fitsB n a wd 8)) := by
  have Hn := Lib.hid hn
  by_cases hf : fitsB n a wd 8 = true
  · have Hg := Lib.hid (show putL l a wd v = splice l a.toNat (leBytes wd.toNat v) by unfold putL; rw [hn, hf]; rfl)
    have h := hf
    simp only [fitsB, decide_eq_true_eq] at h
    obtain ⟨h1, h2, h3, h4⟩ := h
    obtain ⟨p, rfl⟩ := Int.eq_ofNat_of_zero_le h3
    obtain ⟨q, rfl⟩ := Int.eq_ofNat_of_zero_le (show 0 ≤ wd by omega)
    clear hn
    go_enter Try.func30, Try.ntmps30
    go_wp2_with fail
    refine (fits_any _ _ _ _ (by omega) (by omega) (by omega) _).mono ?_; rintro e w' ⟨rfl, rfl⟩
    go_wp2_with (refine wpList_make_bytes rfl _ _ _ _ rfl Try.underlying26 Try.byteInfo _ _ _ _ n rfl rfl rfl rfl (by omega) ?_)
    apply Stop.go; intro w1 Hg1 Hb1
    go_wp2_with (refine wpList_copy_bytes rfl _ _ _ _ rfl _ Try.underlying26 Try.byteSize _ _ _ _ _ _ rfl Hb1.out (by simp [zeros_len]) _ _ _ l rfl Hn.out (hr.below Hg1.out.1) ?_)
    apply Stop.go; intro w2 Ho2 Hb2
    go_wp2_with fail
    refine (nwrite_any _ p q _ v hv _ (by rw [splice_all _ _ (by simp [Hn.out, zeros_len])]; simp [Hn.out]; omega) (by omega) _ _ Hb2.out).mono ?_; rintro e w' ⟨rfl, ho3, hb3⟩
    have Ho3 := Lib.hid ho3
    have Hb3 := Lib.hid hb3
    clear ho3 hb3
    go_wp2_with fail
    go_ret2
    rw [Hg.out, hf]
    have e1 : splice (zeros n) 0 (List.take n l) = l := by
      rw [splice_all _ _ (by simp [Hn.out, zeros_len]), List.take_of_length_le (by rw [Hn.out]; omega)]
    have hb := Hb3.out
    rw [e1] at hb
    have hl : (splice l p (leBytes q v)).length = n := by rw [splice_len _ _ _ (by rw [leBytes_len, Hn.out]; omega), Hn.out]
    exact ⟨_, n, n, rfl, hl, by omega, by unfold maxLen; omega, RB.of_blk0 hb, (Hg1.out.1.trans (Ho2.out.below (Nat.le_refl _))).trans (Ho3.out.below (Nat.le_refl _))⟩
  · have hf' : fitsB n a wd 8 = false := by simpa using hf
    have Hg := Lib.hid (show putL l a wd v = [] by unfold putL; rw [hn, hf']; rfl)
    clear hn hf
    go_enter Try.func30, Try.ntmps30
    go_wp2_with fail
    refine (fits_any _ _ _ _ (by omega) (by omega) (by omega) _).mono ?_; rintro e w' ⟨rfl, rfl⟩
    go_wp2_with fail
    go_ret2
    rw [Hg.out, hf']
    exact ⟨none, 0, 0, rfl, rfl, by omega, by unfold maxLen; omega, RB.nil_ _ _, Below.refl _ _⟩


theorem i64_u64 (v : Nat) (h : v < 4294967296) : IntKind.i64.wrap (v : Int) = v := IntWalk.i64_in _ (by omega)
set_option maxHeartbeats 400000 in
theorem nat_any (L : List UInt8) (hL : L.length = 256) (a wd : Int) (w : World) :
    Calls Try.prog 28 #[.agg (bcells L), .int .i64 a, .int .i64 wd] w fun e w' => e = .returned (.int .i64 (getN L a wd 4 : Nat)) ∧ Below w.heap.size w w' := by
  have HL := Lib.hid hL
  by_cases hf : fitsB 256 a wd 4 = true
  · have Hg := Lib.hid (show getN L a wd 4 = leVal ((L.drop a.toNat).take wd.toNat) by unfold getN; rw [hL]; exact if_pos hf)
    have h := hf
    simp only [fitsB, decide_eq_true_eq] at h
    obtain ⟨h1, h2, h3, h4⟩ := h
    obtain ⟨p, rfl⟩ := Int.eq_ofNat_of_zero_le h3
    obtain ⟨q, rfl⟩ := Int.eq_ofNat_of_zero_le (show 0 ≤ wd by omega)
    have hlt : leVal ((L.drop p).take q) < 4294967296 := by
      refine Nat.lt_of_lt_of_le (leVal_lt _) ?_
      have : 8 * ((L.drop p).take q).length ≤ 32 := by simp; omega
      exact Nat.pow_le_pow_right (by omega) this
    clear hL
    go_enter Try.func28, Try.ntmps28
    go_wp2_with (refine wpList_box_row rfl _ _ rfl _ rfl ?_)
    apply Stop.go; intro w1 Hg1 Hb1
    go_wp2_with fail
    refine (fits_any _ _ _ _ (by omega) (by omega) (by omega) _).mono ?_; rintro e w' ⟨rfl, rfl⟩
    go_wp2_with (refine wpList_slice_arr_lh rfl _ _ _ _ rfl _ _ Try.underlying23 Try.byteSize _ rfl _ _ _ _ rfl rfl p (p + q) rfl (by omega) (by omega) (by omega) (by omega) ?_)
    refine (nread_any _ _ _ ((L.drop p).take q) (by rw [List.length_take, List.length_drop, HL.out]; omega) (by omega) _ (RB.of_blk_at Hb1.out p q)).mono ?_; rintro e w' ⟨rfl, rfl⟩
    go_wp2_with fail
    go_ret
    exact ⟨by rw [Hg.out]; rfl, Hg1.out.1⟩
  · have hf' : fitsB 256 a wd 4 = false := by simpa using hf
    have Hg := Lib.hid (show getN L a wd 4 = 0 by unfold getN; rw [hL]; exact if_neg hf)
    clear hL hf
    go_enter Try.func28, Try.ntmps28
    go_wp2_with (refine wpList_box_row rfl _ _ rfl _ rfl ?_)
    apply Stop.go; intro w1 Hg1 Hb1
    go_wp2_with fail
    refine (fits_any _ _ _ _ (by omega) (by omega) (by omega) _).mono ?_; rintro e w' ⟨rfl, rfl⟩
    go_wp2_with fail
    go_ret
    exact ⟨by rw [Hg.out]; rfl, Hg1.out.1⟩

set_option maxHeartbeats 400000 in
theorem nwith_any (L : List UInt8) (hL : L.length = 256) (a wd : Int) (v : Int) (V : Nat) (hv : IntKind.u64.wrap v = V) (hV : V < 18446744073709551616) (w : World) :
    Calls Try.prog 24 #[.agg (bcells L), .int .i64 a, .int .i64 wd, .int .i64 v] w (RetA w (nwithL L a wd V)) := by
  have HL := Lib.hid hL
  have HV := Lib.hid hv
  clear hv
  by_cases hf : fitsB 256 a wd 4 = true
  · have Hg := Lib.hid (show nwithL L a wd V = splice L a.toNat (leBytes wd.toNat V) by unfold nwithL; rw [hL]; exact if_pos hf)
    have h := hf
    simp only [fitsB, decide_eq_true_eq] at h
    obtain ⟨h1, h2, h3, h4⟩ := h
    obtain ⟨p, rfl⟩ := Int.eq_ofNat_of_zero_le h3
    obtain ⟨q, rfl⟩ := Int.eq_ofNat_of_zero_le (show 0 ≤ wd by omega)
    have HL3 : Hid ((splice L p (leBytes q V)).length = 256) := Lib.hid (by rw [splice_len _ _ _ (by rw [leBytes_len]; omega), hL])
    clear hL
    go_enter Try.func24, Try.ntmps24
    go_wp2_with (refine wpList_box_row rfl _ _ rfl _ rfl ?_)
    apply Stop.go; intro w1 Hg1 Hb1
    go_wp2_with (refine wpList_alloc_row rfl _ rfl _ Try.blockZero ?_)
    apply Stop.go; intro w2 Hg2 Hb2
    have z1 := Lib.hid Hg1.out.2
    have z2 := Lib.hid Hg2.out.2
    go_wp2_with fail
    refine (fits_any _ _ _ _ (by omega) (by omega) (by omega) _).mono ?_; rintro e w' ⟨rfl, rfl⟩
    go_wp2_with (refine wpList_slice_arr_lh rfl _ _ _ _ rfl _ _ Try.underlying23 Try.byteSize _ rfl _ _ _ _ rfl rfl p (p + q) rfl (by omega) (by omega) (by omega) (by omega) ?_)
    rw [HV.out]
    refine (nwrite_any _ p q _ V hV _ (by rw [HL.out]; omega) (by omega) _ _ (Hb1.out.below Hg2.out.1 (by rw [z1.out]; omega))).mono ?_; rintro e w' ⟨rfl, ho3, hb3⟩
    have Ho3 := Lib.hid ho3
    have Hb3 := Lib.hid hb3
    clear ho3 hb3
    go_wp2_with (first | refine wpList_load_arr rfl _ _ rfl _ rfl _ _ Hb3.out _ _ Try.underlying23 (Try.blockFits HL3.out) ?_ | refine wpList_store_arr rfl _ _ _ rfl _ _ rfl rfl _ _ (Hb2.out.only Ho3.out (by rw [z1.out]; omega)) (Try.blockFits HL3.out) (by rw [bcells_size, bcells_size, HL3.out, zeros_len]) (oneCell_bcells _) ?_)
    apply Stop.go; intro w4 Ho4 Hb4
    go_wp2_with ((with_reducible show bodyPost _ _ _ _ _ _); refine bodyPost_cell rfl _ rfl _ _ Hb4.out _ _ Try.underlying23 (Try.blockFits HL3.out) rfl ?_)
    apply Stop.go
    rw [Hg.out]
    have z1 := z1.out
    have z2 := z2.out
    exact ⟨rfl, ((Hg1.out.1.trans (Hg2.out.1.mono (by omega))).trans (Ho3.out.below (by omega))).trans (Ho4.out.below (by omega))⟩
  · have hf' : fitsB 256 a wd 4 = false := by simpa using hf
    have Hg := Lib.hid (show nwithL L a wd V = L by unfold nwithL; rw [hL]; exact if_neg hf)
    clear hL hf
    go_enter Try.func24, Try.ntmps24
    go_wp2_with (refine wpList_box_row rfl _ _ rfl _ rfl ?_)
    apply Stop.go; intro w1 Hg1 Hb1
    go_wp2_with (refine wpList_alloc_row rfl _ rfl _ Try.blockZero ?_)
    apply Stop.go; intro w2 Hg2 Hb2
    have z1 := Lib.hid Hg1.out.2
    have z2 := Lib.hid Hg2.out.2
    go_wp2_with fail
    refine (fits_any _ _ _ _ (by omega) (by omega) (by omega) _).mono ?_; rintro e w' ⟨rfl, rfl⟩
    go_wp2_with (first | refine wpList_load_arr rfl _ _ rfl _ rfl _ _ (Hb1.out.below Hg2.out.1 (by rw [z1.out]; omega)) _ _ Try.underlying23 (Try.blockFits HL.out) ?_ | refine wpList_store_arr rfl _ _ _ rfl _ _ rfl rfl _ _ Hb2.out (Try.blockFits HL.out) (by rw [bcells_size, bcells_size, HL.out, zeros_len]) (oneCell_bcells _) ?_)
    apply Stop.go; intro w4 Ho4 Hb4
    go_wp2_with ((with_reducible show bodyPost _ _ _ _ _ _); refine bodyPost_cell rfl _ rfl _ _ Hb4.out _ _ Try.underlying23 (Try.blockFits HL.out) rfl ?_)
    apply Stop.go
    rw [Hg.out]
    have z1 := z1.out
    have z2 := z2.out
    exact ⟨rfl, (Hg1.out.1.trans (Hg2.out.1.mono (by omega))).trans (Ho4.out.below (by omega))⟩



end Go.Proofs.Ytennkfpehdijcaa
