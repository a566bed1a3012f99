/-
  Contracts of package name's Pack and Unpack, and of the document's answers to them.
-/
import Derived.Test.YtbajicgpjggkfaaGreatName1
import Derived.Test.YtbajicgpjggkfaaGreatGrG
import Derived.Test.YtbajicgpjggkfaaGreatGrX
import Derived.Test.YtbajicgpjggkfaaGreatGrC
namespace Go.Proofs.YtbajicgpjggkfaaGreat
open Go.RowKit

theorem Tryz.packByteInfo : (Tryz.prog.info? 5).map (fun i => (i.zero, i.size, i.bytes)) = some (some (.int .u8 0), 1, 1) := by kernel_rfl
theorem Tryz.packByte : (Tryz.prog.info? 5).map (·.size) = some 1 := by kernel_rfl
theorem Tryz.packSize : (Tryz.prog.info? 207).map (·.size) = some 25 := by kernel_rfl
theorem Tryz.packZero : (Tryz.prog.info? 207).map (·.zero) = some (some (.agg (bcells (zeros 25)))) := by kernel_rfl
theorem Tryz.packFits {l : List UInt8} (h : l.length = 25) : (Tryz.prog.info? 207).map (·.size) = some (bcells l).size := by rw [bcells_size, h]; exact Tryz.packSize
theorem Tryz.packGuard : Tryz.prog.eqGuardType Tryz.prog.depth 207 = false := by kernel_rfl

set_option maxHeartbeats 800000 in
theorem pack_any (s : ByteArray) (hs : s.size ≤ maxLen) (w : World) :
    Calls Tryz.prog 155 #[.string s] w fun e w' => e = .returned (.tuple #[.agg (bcells (packN s)), .int .i64 (errN (rightN s))]) ∧ Below w.heap.size w w' := by
  cases hr : rightN s
  · have Hr := Lib.hid hr
    have Hp := Lib.hid (show packN s = zeros 25 by unfold packN; rw [hr]; rfl)
    clear hr
    go_enter Tryz.func155, Tryz.ntmps155
    go_wp2_with (refine wpList_alloc_row rfl _ rfl _ Tryz.packZero ?_)
    apply Stop.go; intro w1 Hg1 Hb1
    go_wp2_with fail
    refine (isName_any s hs _).mono ?_; rintro e wx ⟨rfl, rfl⟩
    rw [Hr.out]
    go_wp2_with (first | refine wpList_build_zero rfl _ rfl _ Tryz.packZero _ _ Tryz.underlying207 Tryz.packByte ?_ | refine wpList_store_arr rfl _ _ _ rfl _ _ rfl rfl _ _ Hb1.out (Tryz.packFits (zeros_len 25)) rfl (oneCell_bcells _) ?_)
    apply Stop.go; intro w2 Ho2 Hb2
    go_wp2_with ((with_reducible show bodyPost _ _ _ _ _ _); refine bodyPost_cell_tmp rfl _ rfl _ _ Hb2.out _ _ Tryz.underlying207 (Tryz.packFits (zeros_len 25)) rfl _ rfl ?_)
    apply Stop.go
    rw [Hp.out]
    exact ⟨⟨rfl, rfl⟩, bonly Hg1.out.1 Ho2.out (Nat.le_refl _)⟩
  · have Hr := Lib.hid hr
    have hz := rightN_size hr
    have Hp := Lib.hid (show packN s = packL s.data.toList by unfold packN; rw [hr]; rfl)
    have Hl := Lib.hid (packL_len (l := s.data.toList) (by simp; omega))
    have Hs := Lib.hid (pack_splice (l := s.data.toList) (n := s.size) (by simp) hz.2)
    clear hr
    go_enter Tryz.func155, Tryz.ntmps155
    go_wp2_with (refine wpList_alloc_row rfl _ rfl _ Tryz.packZero ?_)
    apply Stop.go; intro w1 Hg1 Hb1
    go_wp2_with fail
    refine (isName_any s hs _).mono ?_; rintro e wx ⟨rfl, rfl⟩
    rw [Hr.out]
    go_wp2_with (refine wpList_alloc_row rfl _ rfl _ Tryz.packZero ?_)
    apply Stop.go; intro w2 Hg2 Hb2
    have c0 : w2.cell? ⟨w1.heap.size, 0, none⟩ = some (.int .u8 0) := Hb2.out.cell 0
    have f0 := Hb2.out.frozen 0
    have Ho3 : Hid (Only w2 (w2.setCell ⟨w1.heap.size, 0, none⟩ (.int .u8 (s.size : Int))) w1.heap.size) := Lib.hid ((Only.refl w2 _).setCell 0 _)
    have Hb3 : Hid (Blk (w2.setCell ⟨w1.heap.size, 0, none⟩ (.int .u8 (s.size : Int))) w1.heap.size 207 (bcells ((zeros 25).set 0 (UInt8.ofNat s.size)))) := Lib.hid (by
      have h := Hb2.out.set_ 0 (.int .u8 (((UInt8.ofNat s.size).toNat : Nat) : Int))
      rw [bcells_set] at h
      have e : (UInt8.ofNat s.size).toNat = s.size := by simp; omega
      rw [e] at h
      exact h)
    go_wp2_with (first | refine wpList_slice_arr_l rfl _ _ _ rfl _ _ Tryz.underlying207 Tryz.packByte _ rfl _ _ rfl 1 rfl (by omega) ?_ | refine wpList_copy_text rfl _ _ _ _ rfl _ Tryz.underlying70 Tryz.packByte _ _ _ _ _ _ rfl Hb3.out _ rfl (by omega) (by simp [zeros]) ?_)
    apply Stop.go; intro w4 Ho4 Hb4
    rw [Hs.out] at Hb4
    have Hlo := Lib.hid (show Below w.heap.size w w4 from (bonly (bt Hg1.out.1 Hg2.out.1) Ho3.out (by have h1 := Hg1.out.1.size; omega)).trans (Ho4.out.below (by have h1 := Hg1.out.1.size; omega)))
    have Hb5 := Lib.hid ((Hb1.out.ext Hg2.out.1).only Ho3.out (Nat.ne_of_lt Hb1.out.lt))
    have Hb6 := Lib.hid (Hb5.out.only Ho4.out (Nat.ne_of_lt Hb1.out.lt))
    go_wp2_with (first | refine wpList_load_arr rfl _ _ rfl _ rfl _ _ Hb4.out _ _ Tryz.underlying207 (Tryz.packFits Hl.out) ?_ | refine wpList_store_arr rfl _ _ _ rfl _ _ rfl rfl _ _ Hb6.out (Tryz.packFits Hl.out) (by rw [bcells_size, bcells_size, Hl.out, zeros_len]) (oneCell_bcells _) ?_)
    apply Stop.go; intro w7 Ho7 Hb7
    go_wp2_with ((with_reducible show bodyPost _ _ _ _ _ _); refine bodyPost_cell_tmp rfl _ rfl _ _ Hb7.out _ _ Tryz.underlying207 (Tryz.packFits Hl.out) rfl _ rfl ?_)
    apply Stop.go
    rw [Hp.out]
    exact ⟨⟨rfl, rfl⟩, bonly Hlo.out Ho7.out (Nat.le_refl _)⟩

set_option maxRecDepth 4000 in
set_option maxHeartbeats 1000000 in
theorem unpack_any (L : List UInt8) (hL : L.length = 25) (w : World) :
    Calls Tryz.prog 145 #[.agg (bcells L)] w fun e w' => e = .returned (.tuple #[.string (unpackS L), .int .i64 (errN (unpackB L))]) ∧ Below w.heap.size w w' := by
  have HL := Lib.hid hL
  obtain ⟨x, L', rfl⟩ : ∃ x L', L = x :: L' := by
    cases L with
    | nil => cases hL
    | cons x L' => exact ⟨x, L', rfl⟩
  have hx := x.toNat_lt
  by_cases h24 : x.toNat ≤ 24
  · have d1 : decide ((24 : Int) < x.toNat) = false := by simp; omega
    have Hc := Lib.hid (packCut_len hL h24)
    have Hd := Lib.hid (show packCut (x :: L') = ((x :: L').drop 1).take x.toNat from rfl)
    have Hu := Lib.hid (show unpackB (x :: L') = (rightB (packCut (x :: L')) && packL (packCut (x :: L')) == (x :: L')) by unfold unpackB; rw [decide_eq_true (show ((x :: L').headD 0).toNat ≤ 24 from h24)]; rfl)
    clear hL
    go_enter Tryz.func145, Tryz.ntmps145
    go_wp2_with (refine wpList_box_row rfl _ _ rfl _ rfl ?_)
    apply Stop.go; intro w1 Hg1 Hb1
    have c0 : w1.cell? ⟨w.heap.size, 0, none⟩ = some (.int .u8 (x.toNat : Int)) := by rw [Hb1.out.cell 0]; rfl
    have hlen : (packCut (x :: L')).length = 1 + x.toNat - 1 := by rw [Hc.out]; show x.toNat = _; omega
    have Hr1 : Hid (RB w1 (some ⟨w.heap.size, 1, none⟩) (packCut (x :: L'))) := Lib.hid (RB.of_blk_at Hb1.out 1 x.toNat)
    generalize hC : packCut (x :: L') = C at *
    have HC := Lib.hid hC
    clear hC
    have hsz : (ByteArray.mk C.toArray).size ≤ maxLen := by
      have e : (ByteArray.mk C.toArray).size = C.length := by simp [ByteArray.size]
      rw [e, hlen]
      unfold maxLen
      omega
    have Hsz := Lib.hid hsz
    have Hlen := Lib.hid hlen
    clear hsz hlen
    go_wp2_with (first | refine wpList_slice_arr_lh rfl _ _ _ _ rfl _ _ Tryz.underlying207 Tryz.packByte _ rfl _ _ _ _ rfl rfl 1 (1 + x.toNat) rfl (by omega) (by omega) (by omega) (by omega) ?_ | refine wpList_bytes_text rfl _ _ _ _ rfl Tryz.underlying70 Tryz.underlying5 Tryz.underlying9 _ _ _ rfl C Hlen.out Hr1.out ?_)
    refine (pack_any _ Hsz.out _).mono ?_; rintro e w2 ⟨rfl, hb2⟩
    have e1 : rightN (ByteArray.mk C.toArray) = rightB C := by unfold rightN; simp
    have e2 : packN (ByteArray.mk C.toArray) = if rightB C then packL C else zeros 25 := by unfold packN; rw [e1]
    rw [e1, e2]
    have Hb2 := Lib.hid hb2
    clear e1 e2 hb2 c0
    cases hr : rightB C
    · have Hu := Lib.hid (show unpackB (x :: L') = false by rw [Hu.out, hr]; rfl)
      have Hs := Lib.hid (show unpackS (x :: L') = ⟨#[]⟩ by unfold unpackS; rw [Hu.out]; rfl)
      clear hr
      rw [show errN false = 3 from rfl]
      go_wp2_with (refine wpList_alloc_row rfl _ rfl _ Tryz.packZero ?_)
      apply Stop.go; intro w3 Hg3 Hb3
      go_wp2_with (refine wpList_store_arr rfl _ _ _ rfl _ _ rfl rfl _ _ Hb3.out (Tryz.packFits (zeros_len 25)) rfl (oneCell_bcells _) ?_)
      apply Stop.go; intro w4 Ho4 Hb4
      go_wp2_with fail
      go_ret2
      rw [Hu.out, Hs.out]
      exact ⟨rfl, bonly (bt (bt Hg1.out.1 Hb2.out) Hg3.out.1) Ho4.out (bt Hg1.out.1 Hb2.out).size⟩
    · have Hp := Lib.hid (packL_len (l := C) (by have := Hc.out; simp at this; omega))
      rw [if_pos rfl, show errN true = 0 from rfl]
      obtain ⟨r, hxy⟩ : ∃ r, (packL C == (x :: L')) = r := ⟨_, rfl⟩
      have Hr := Lib.hid (show unpackB (x :: L') = r by rw [Hu.out, hr, Bool.true_and]; exact hxy)
      have Hs := Lib.hid (show unpackS (x :: L') = if r then ⟨C.toArray⟩ else ⟨#[]⟩ by unfold unpackS; rw [Hr.out, HC.out])
      have Hb1' := Lib.hid (Hb1.out.ext Hb2.out)
      generalize hP : packL C = P at *
      clear hr Hu Hd Hc HC hP
      go_wp2_with (refine wpList_alloc_row rfl _ rfl _ Tryz.packZero ?_)
      apply Stop.go; intro w3 Hg3 Hb3
      have Hb1' := Lib.hid (Hb1'.out.ext Hg3.out.1)
      go_wp2_with (refine wpList_store_arr rfl _ _ _ rfl _ _ rfl rfl _ _ Hb3.out (Tryz.packFits Hp.out) (by rw [bcells_size, bcells_size, Hp.out, zeros_len]) (oneCell_bcells _) ?_)
      apply Stop.go; intro w4 Ho4 Hb4
      have Hb1' := Lib.hid (Hb1'.out.only Ho4.out (by have h1 := Hb1.out.lt; have h2 := Hb2.out.size; omega))
      have Hfin := Lib.hid (bonly (bt (bt Hg1.out.1 Hb2.out) Hg3.out.1) Ho4.out (bt Hg1.out.1 Hb2.out).size)
      cases r
      all_goals
        have hneq : (!(P == (x :: L'))) = _ := congrArg not hxy
        clear hxy
        go_wp2_with (first | refine wpList_load_arr rfl _ _ rfl _ rfl _ _ Hb4.out _ _ Tryz.underlying207 (Tryz.packFits Hp.out) ?_ | refine wpList_load_arr rfl _ _ rfl _ rfl _ _ Hb1'.out _ _ Tryz.underlying207 (Tryz.packFits HL.out) ?_ | refine wpList_neq_arr rfl _ _ _ _ rfl Tryz.packGuard _ _ Tryz.underlying207 Tryz.underlying5 Tryz.packByte P (x :: L') rfl rfl Hp.out HL.out _ hneq ?_)
        go_ret2
        rw [Hr.out, Hs.out]
        exact ⟨rfl, Hfin.out⟩
  · have d1 : decide ((24 : Int) < x.toNat) = true := by simp; omega
    have Hu := Lib.hid (show unpackB (x :: L') = false by unfold unpackB; rw [decide_eq_false (show ¬ ((x :: L').headD 0).toNat ≤ 24 from h24)]; rfl)
    have Hs := Lib.hid (show unpackS (x :: L') = ⟨#[]⟩ by unfold unpackS; rw [Hu.out]; rfl)
    clear hL
    go_enter Tryz.func145, Tryz.ntmps145
    go_wp2_with (refine wpList_box_row rfl _ _ rfl _ rfl ?_)
    apply Stop.go; intro w1 Hg1 Hb1
    have c0 : w1.cell? ⟨w.heap.size, 0, none⟩ = some (.int .u8 (x.toNat : Int)) := by rw [Hb1.out.cell 0]; rfl
    go_wp2_with fail
    go_ret2
    rw [Hu.out, Hs.out]
    exact ⟨rfl, Hg1.out.1⟩

theorem own_oneN (w : World) (e : TypeId) (x : UInt8) (X : Int) (hX : X = (x.toNat : Int)) : OwnB (w.alloc (.cells #[.int .u8 X] e)) w.heap.size e (.slice (some ⟨w.heap.size, 0, none⟩) 1 1) [x] := by
  subst hX
  exact ⟨rfl, Or.inr ⟨w.heap.size, 1, _, rfl, Nat.le_refl _, heap_alloc_new w _, Nat.le_refl _, by unfold maxLen; omega, rfl, rfl⟩⟩
set_option maxHeartbeats 800000 in
theorem rpack_any (s : ByteArray) (hs : s.size ≤ 24) (w : World) :
    Calls Tryz.prog 95 #[.string s] w fun e w' => ∃ A c, e = .returned (.slice A 25 c) ∧ 25 ≤ c ∧ c ≤ maxLen ∧ RB w' A (packL s.data.toList) ∧ Below w.heap.size w w' := by
  have hl : s.data.toList.length = s.size := by simp
  have H0 := Lib.hid (packT_zero s.data.toList)
  have HA := Lib.hid (packT_all (l := s.data.toList) (by omega))
  have HN : Hid (∀ k, (packT s.data.toList k).length = k + 1) := Lib.hid fun k => packT_len _ k (by omega)
  go_enter Tryz.func95, Tryz.ntmps95
  go_wp2_with fail
  have Ho1 : Hid (OwnB (w.alloc (.cells #[.int .u8 (s.size : Int)] 5)) w.heap.size 5 (.slice (some ⟨w.heap.size, 0, none⟩) 1 1) [UInt8.ofNat s.data.toList.length]) := Lib.hid (own_oneN w _ _ _ (by simp; omega))
  have Hg1 := Lib.hid (Grew.alloc w (.cells #[.int .u8 (s.size : Int)] 5))
  generalize w.alloc (.cells #[.int .u8 (s.size : Int)] 5) = w1 at *
  go_loopw [3, 4] (fun o i wr => ∃ k : Nat, k ≤ 24 ∧ i = .int .i64 k ∧ OwnB wr w.heap.size 5 o (packT s.data.toList k) ∧ Below w.heap.size w wr) (fun _ i _ => 24 - (intOf i).toNat)
  case atStart => exact ⟨0, Nat.zero_le _, rfl, by rw [H0.out]; exact Ho1.out, Hg1.out.1⟩
  case round =>
    obtain ⟨k, hk, rfl, how, hbw⟩ := hrel
    have How := Lib.hid how
    have Hbw := Lib.hid hbw
    clear how hbw
    by_cases hlt : k < 24
    · have d0 : decide ((k : Int) < 24) = true := by simp; omega
      have hlen : (packT s.data.toList k).length + 1 ≤ 140737488355328 := by rw [HN.out]; omega
      by_cases hin : k < s.size
      · have d1 : decide ((k : Int) < s.size) = true := by simpa using hin
        have hb := (s[k]).toNat_lt
        have Hn := Lib.hid (packT_in s.data.toList k (by omega))
        go_wp2_with (at_builtin; refine wpList_append_byte rfl _ _ _ _ rfl Tryz.underlying70 Tryz.packByteInfo w.heap.size _ _ rfl How.out _ s[k] rfl rfl Hbw.out.size hlen ?_)
        apply Stop.go; intro v2 w2 How1 Hb1
        go_wp2_with fail
        go_roundw
        case rel => exact ⟨k + 1, by omega, by go_num, by rw [Hn.out]; exact How1.out, Hbw.out.trans Hb1.out⟩
        case measure => simp [intOf]; omega
      · have d1 : decide ((k : Int) < s.size) = false := by simpa using hin
        have Hn := Lib.hid (packT_out s.data.toList k (by omega))
        go_wp2_with (at_builtin; refine wpList_append_byte rfl _ _ _ _ rfl Tryz.underlying70 Tryz.packByteInfo w.heap.size _ _ rfl How.out _ 0 rfl rfl Hbw.out.size hlen ?_)
        apply Stop.go; intro v2 w2 How1 Hb1
        go_wp2_with fail
        go_roundw
        case rel => exact ⟨k + 1, by omega, by go_num, by rw [Hn.out]; exact How1.out, Hbw.out.trans Hb1.out⟩
        case measure => simp [intOf]; omega
    · obtain rfl : k = 24 := by omega
      have d0 : decide (((24 : Nat) : Int) < 24) = false := by simp
      go_wp2_with fail
      go_ret
      obtain ⟨A, c, hv, h1, h2, h3⟩ := How.out.read
      rw [HN.out] at hv h1
      rw [HA.out] at h3
      exact ⟨A, c, congrArg Ending.returned hv, h1, h2, h3, Hbw.out⟩

set_option maxRecDepth 4000 in
set_option maxHeartbeats 1000000 in
theorem runpack_any (ad : Addr) (cap : Nat) (hcap : 25 ≤ cap) (_hcm : cap ≤ maxLen) (L : List UInt8) (hL : L.length = 25) (w : World) (hr : RB w (some ad) L) :
    Calls Tryz.prog 52 #[.slice (some ad) 25 cap] w fun e w' => e = .returned (.tuple #[.string (unpackS L), .bool (unpackB L)]) ∧ Below w.heap.size w w' := by
  have HL := Lib.hid hL
  obtain ⟨x, L', rfl⟩ : ∃ x L', L = x :: L' := by
    cases L with
    | nil => cases hL
    | cons x L' => exact ⟨x, L', rfl⟩
  have hx := x.toNat_lt
  have hc0 : w.cell? ad = some (.int .u8 (x.toNat : Int)) := by
    obtain ⟨ad', e, hc⟩ := hr 0 (by simp)
    injection e with e
    subst e
    exact hc
  by_cases h24 : x.toNat ≤ 24
  · have d1 : decide ((24 : Int) < x.toNat) = false := by simp; omega
    have Hc := Lib.hid (packCut_len hL h24)
    have Hd := Lib.hid (show packCut (x :: L') = ((x :: L').drop 1).take x.toNat from rfl)
    have Hu := Lib.hid (show unpackB (x :: L') = (rightB (packCut (x :: L')) && packL (packCut (x :: L')) == (x :: L')) by unfold unpackB; rw [decide_eq_true (show ((x :: L').headD 0).toNat ≤ 24 from h24)]; rfl)
    have hlen : (packCut (x :: L')).length = 1 + x.toNat - 1 := by rw [Hc.out]; show x.toNat = _; omega
    have Hr := Lib.hid hr
    have Hr1 : Hid (RB w (some ⟨ad.block, ad.off + 1, none⟩) (packCut (x :: L'))) := Lib.hid (hr.cut 1 x.toNat)
    generalize hC : packCut (x :: L') = C at *
    have HC := Lib.hid hC
    clear hC hL hr
    have e25 : (ByteArray.mk C.toArray).size = C.length := by simp [ByteArray.size]
    have hsz : (ByteArray.mk C.toArray).size ≤ 24 := by
      rw [e25, hlen]
      omega
    have Hsz := Lib.hid hsz
    have Hlen := Lib.hid hlen
    clear hsz hlen e25
    have hsm : (ByteArray.mk C.toArray).size ≤ maxLen := by have := Hsz.out; unfold maxLen; omega
    have Hsm := Lib.hid hsm
    clear hsm
    go_enter Tryz.func52, Tryz.ntmps52
    go_wp2_with (refine wpList_bytes_text rfl _ _ _ _ rfl Tryz.underlying70 Tryz.underlying5 Tryz.underlying9 _ _ _ rfl C Hlen.out Hr1.out ?_)
    refine (nright_any _ Hsm.out _).mono ?_; rintro e wx ⟨rfl, rfl⟩
    have e1 : rightN (ByteArray.mk C.toArray) = rightB C := by unfold rightN; simp
    rw [e1]
    clear e1
    cases hr : rightB C
    · have Hu := Lib.hid (show unpackB (x :: L') = false by rw [Hu.out, hr]; rfl)
      have Hs := Lib.hid (show unpackS (x :: L') = ⟨#[]⟩ by unfold unpackS; rw [Hu.out]; rfl)
      clear hr
      go_wp2_with fail
      go_ret2
      rw [Hu.out, Hs.out]
      exact ⟨rfl, Below.refl _ _⟩
    · obtain ⟨r, hxy⟩ : ∃ r, decide (packL C = (x :: L')) = r := ⟨_, rfl⟩
      have Hq := Lib.hid (show unpackB (x :: L') = r by
        rw [Hu.out, hr, Bool.true_and, ← hxy, Bool.eq_iff_iff]
        simp)
      have Hs := Lib.hid (show unpackS (x :: L') = if r then ⟨C.toArray⟩ else ⟨#[]⟩ by unfold unpackS; rw [Hq.out, HC.out])
      have Hxy := Lib.hid hxy
      have Hpl := Lib.hid (packL_len (l := C) (by have := Hc.out; simp at this; omega))
      clear hr hxy Hu
      go_wp2_with fail
      refine (rpack_any _ Hsz.out _).mono ?_; rintro e w2 ⟨A2, c2, rfl, hc2, hm2, hr2, hb2⟩
      have e2 : (ByteArray.mk C.toArray).data.toList = C := rfl
      rw [e2] at hr2
      clear e2
      have Hr2 := Lib.hid hr2
      have Hb2 := Lib.hid hb2
      clear hr2 hb2
      go_wp2_with fail
      refine (same_any _ _ _ (packL C) Hpl.out _ _ _ (x :: L') HL.out (by unfold maxLen; omega) (by unfold maxLen; omega) _ Hr2.out (Hr.out.below Hb2.out)).mono ?_; rintro e w3 ⟨rfl, q, rfl⟩
      rw [Hxy.out]
      have Hfin := Lib.hid (bt Hb2.out (bdrew w2 q))
      generalize w2.drewN q = w3 at *
      cases r
      all_goals
        go_wp2_with fail
        go_ret2
        rw [Hq.out, Hs.out]
        exact ⟨rfl, Hfin.out⟩
  · have d1 : decide ((24 : Int) < x.toNat) = true := by simp; omega
    have Hu := Lib.hid (show unpackB (x :: L') = false by unfold unpackB; rw [decide_eq_false (show ¬ ((x :: L').headD 0).toNat ≤ 24 from h24)]; rfl)
    have Hs := Lib.hid (show unpackS (x :: L') = ⟨#[]⟩ by unfold unpackS; rw [Hu.out]; rfl)
    clear hL hr
    go_enter Tryz.func52, Tryz.ntmps52
    go_wp2_with fail
    go_ret2
    rw [Hu.out, Hs.out]
    exact ⟨rfl, Below.refl _ _⟩

end Go.Proofs.YtbajicgpjggkfaaGreat
