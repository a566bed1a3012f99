/-
  Texts of this claim joined: Name1, Name2.
-/
import Derived.Test.YtkakihbfhmiabaaGreatRows
import Derived.Test.YtkakihbfhmiabaaGreatGrAE
import Derived.BigQuiet
import Derived.Deep.QuietTactic
import Derived.Test.YtkakihbfhmiabaaGreatGrBA
import Derived.Test.YtkakihbfhmiabaaGreatGrAS
import Derived.Test.YtkakihbfhmiabaaGreatGrAC

/-
  Contracts of package name's functions of one or two texts that make nothing, and of the document's answers to them.
-/
namespace Go.Proofs.YtkakihbfhmiabaaGreat
open Go.RowKit

theorem any_take_next (s : ByteArray) (k : Nat) (hlt : k < s.size) : (s.data.toList.take (k + 1)).any badB = ((s.data.toList.take k).any badB || badB s[k]) := by
  have hk : k < s.data.toList.length := by simpa using hlt
  rw [List.take_succ_eq_append_getElem hk, List.any_append]
  simp
  rfl
theorem any_of_take {l : List UInt8} {k : Nat} (h : (l.take k).any badB = true) : l.any badB = true := by
  rw [List.any_eq_true] at h ⊢
  obtain ⟨x, hx, h⟩ := h
  exact ⟨x, List.mem_of_mem_take hx, h⟩
theorem badB_parts (b : UInt8) : badB b = (((b.toNat : Int) == 0) || ((b.toNat : Int) == 47)) := by
  unfold badB
  rw [Bool.eq_iff_iff]
  simp only [Bool.or_eq_true, beq_iff_eq]
  constructor
  · rintro (rfl | rfl)
    · exact Or.inl rfl
    · exact Or.inr rfl
  · rintro (h | h)
    · exact Or.inl (UInt8.toNat_inj.1 (by simpa using h))
    · exact Or.inr (UInt8.toNat_inj.1 (by simp; omega))
theorem rightN_eq {s : ByteArray} (h1 : ¬ s.size < 1) (h2 : ¬ 24 < s.size) (h3 : (s.toList == [46]) = false) (h4 : (s.toList == [46, 46]) = false) : rightN s = !s.data.toList.any badB := by
  have hl : s.data.toList.length = s.size := by simp
  rw [ByteArray.toList_eq] at h3 h4
  unfold rightN rightB
  rw [decide_eq_true (by omega), decide_eq_true (by omega), h3, h4]
  rfl
theorem rightN_stop {s : ByteArray} (h : (s.toList == [46]) = true) : rightN s = false := by
  rw [ByteArray.toList_eq] at h
  unfold rightN rightB
  rw [h]
  simp
theorem rightN_stops {s : ByteArray} (h : (s.toList == [46, 46]) = true) : rightN s = false := by
  rw [ByteArray.toList_eq] at h
  unfold rightN rightB
  rw [h]
  simp

set_option maxHeartbeats 800000 in
theorem isName_any (s : ByteArray) (hs : s.size ≤ maxLen) (w : World) :
    Calls Tryz.prog 150 #[.string s] w fun e w' => e = .returned (.bool (rightN s)) ∧ w = w' := by
  unfold maxLen at hs
  by_cases h1 : s.size < 1
  · have HR := Lib.hid (rightN_short h1)
    have d1 : decide ((s.size : Int) < 1) = true := by simp; omega
    go_enter Tryz.func150, Tryz.ntmps150
    go_wp2_with fail
    go_ret
    rw [HR.out]
    exact ⟨rfl, rfl⟩
  have d1 : decide ((s.size : Int) < 1) = false := by simp; omega
  by_cases h2 : 24 < s.size
  · have HR := Lib.hid (rightN_long h2)
    have d2 : decide ((24 : Int) < s.size) = true := by simp; omega
    go_enter Tryz.func150, Tryz.ntmps150
    go_wp2_with fail
    go_ret
    rw [HR.out]
    exact ⟨rfl, rfl⟩
  have d2 : decide ((24 : Int) < s.size) = false := by simp; omega
  cases h3 : s.toList == [46]
  · cases h4 : s.toList == [46, 46]
    · have HR := Lib.hid (rightN_eq h1 h2 h3 h4)
      go_enter Tryz.func150, Tryz.ntmps150
      go_wp2_with fail
      go_loop [22] (fun i => ∃ k : Nat, k ≤ s.size ∧ i = .int .i64 k ∧ (s.data.toList.take k).any badB = false) (fun i => s.size - (intOf i).toNat)
      case atStart => exact ⟨0, Nat.zero_le _, rfl, rfl⟩
      case round =>
        obtain ⟨k, hk, rfl, hall⟩ := hrel
        have Hall := Lib.hid hall
        clear hall
        by_cases hlt : k < s.size
        · have d0 : decide ((k : Int) < s.size) = true := by simpa using hlt
          have Hn := Lib.hid (any_take_next s k hlt)
          have hbb := badB_parts s[k]
          have hb := (s[k]).toNat_lt
          cases c0 : ((s[k].toNat : Int) == 0)
          · cases c47 : ((s[k].toNat : Int) == 47)
            · have Hn2 := Lib.hid (show (s.data.toList.take (k + 1)).any badB = false by rw [Hn.out, Hall.out, hbb, c0, c47]; rfl)
              clear hbb
              go_wp2_with fail
              go_round
              case rel => exact ⟨k + 1, by omega, by go_num, Hn2.out⟩
              case measure => simp [intOf]; omega
            · have Hn2 := Lib.hid (any_of_take (show (s.data.toList.take (k + 1)).any badB = true by rw [Hn.out, hbb, c0, c47]; simp))
              clear hbb
              go_wp2_with fail
              go_ret
              rw [HR.out, Hn2.out]
              exact ⟨rfl, rfl⟩
          · have Hn2 := Lib.hid (any_of_take (show (s.data.toList.take (k + 1)).any badB = true by rw [Hn.out, hbb, c0]; simp))
            clear hbb
            go_wp2_with fail
            go_ret
            rw [HR.out, Hn2.out]
            exact ⟨rfl, rfl⟩
        · have d0 : decide ((k : Int) < s.size) = false := by simpa using hlt
          have Hn2 := Lib.hid (show s.data.toList.any badB = false by
            have h := Hall.out
            rwa [List.take_of_length_le (by simp; omega)] at h)
          go_wp2_with fail
          go_ret
          rw [HR.out, Hn2.out]
          exact ⟨rfl, rfl⟩
    · have HR := Lib.hid (rightN_stops h4)
      go_enter Tryz.func150, Tryz.ntmps150
      go_wp2_with fail
      go_ret
      rw [HR.out]
      exact ⟨rfl, rfl⟩
  · have HR := Lib.hid (rightN_stop h3)
    go_enter Tryz.func150, Tryz.ntmps150
    go_wp2_with fail
    go_ret
    rw [HR.out]
    exact ⟨rfl, rfl⟩


def errN (b : Bool) : Int := if b then 0 else 3
set_option maxHeartbeats 400000 in
theorem ncheck_any (s : ByteArray) (hs : s.size ≤ maxLen) (w : World) :
    Calls Tryz.prog 119 #[.string s] w fun e w' => e = .returned (.int .i64 (errN (rightN s))) ∧ w = w' := by
  cases hr : rightN s
  all_goals
    have Hr := Lib.hid hr
    clear hr
    go_enter Tryz.func119, Tryz.ntmps119
    go_wp2_with fail
    refine (isName_any s hs _).mono ?_; rintro e wx ⟨rfl, rfl⟩
    rw [Hr.out]
    go_wp2_with fail
    go_ret
    exact ⟨rfl, rfl⟩


end Go.Proofs.YtkakihbfhmiabaaGreat

/-
  Contracts of package name's Pack and Unpack, and of the document's answers to them.
-/
namespace Go.Proofs.YtkakihbfhmiabaaGreat
open Go.RowKit

theorem Tryz.packByteInfo : (Tryz.prog.info? 5).map (fun i => (i.zero, i.size, i.bytes)) = some (some (.int .u8 0), 1, 1) := by kernel_rfl
theorem Tryz.packByte : (Tryz.prog.info? 5).map (·.size) = some 1 := by kernel_rfl
theorem Tryz.packSize : (Tryz.prog.info? 171).map (·.size) = some 25 := by kernel_rfl
theorem Tryz.packZero : (Tryz.prog.info? 171).map (·.zero) = some (some (.agg (bcells (zeros 25)))) := by kernel_rfl
theorem Tryz.packFits {l : List UInt8} (h : l.length = 25) : (Tryz.prog.info? 171).map (·.size) = some (bcells l).size := by rw [bcells_size, h]; exact Tryz.packSize
theorem Tryz.packGuard : Tryz.prog.eqGuardType Tryz.prog.depth 171 = false := by kernel_rfl

set_option maxHeartbeats 800000 in
theorem pack_any (s : ByteArray) (hs : s.size ≤ maxLen) (w : World) :
    Calls Tryz.prog 124 #[.string s] w fun e w' => e = .returned (.tuple #[.agg (bcells (packN s)), .int .i64 (errN (rightN s))]) ∧ Below w.heap.size w w' := by
  cases hr : rightN s
  · have Hr := Lib.hid hr
    have Hp := Lib.hid (show packN s = zeros 25 by unfold packN; rw [hr]; rfl)
    clear hr
    go_enter Tryz.func124, Tryz.ntmps124
    go_wp2_with (refine wpList_alloc_row rfl _ rfl _ Tryz.packZero ?_)
    apply Stop.go; intro w1 Hg1 Hb1
    go_wp2_with fail
    refine (isName_any s hs _).mono ?_; rintro e wx ⟨rfl, rfl⟩
    rw [Hr.out]
    go_wp2_with (first | refine wpList_build_zero rfl _ rfl _ Tryz.packZero _ _ Tryz.underlying171 Tryz.packByte ?_ | refine wpList_store_arr rfl _ _ _ rfl _ _ rfl rfl _ _ Hb1.out (Tryz.packFits (zeros_len 25)) rfl (oneCell_bcells _) ?_)
    apply Stop.go; intro w2 Ho2 Hb2
    go_wp2_with ((with_reducible show bodyPost _ _ _ _ _ _); refine bodyPost_cell_tmp rfl _ rfl _ _ Hb2.out _ _ Tryz.underlying171 (Tryz.packFits (zeros_len 25)) rfl _ rfl ?_)
    apply Stop.go
    rw [Hp.out]
    exact ⟨⟨rfl, rfl⟩, bonly Hg1.out.1 Ho2.out (Nat.le_refl _)⟩
  · have Hr := Lib.hid hr
    have hz := rightN_size hr
    have Hp := Lib.hid (show packN s = packL s.data.toList by unfold packN; rw [hr]; rfl)
    have Hl := Lib.hid (packL_len (l := s.data.toList) (by simp; omega))
    have Hs := Lib.hid (pack_splice (l := s.data.toList) (n := s.size) (by simp) hz.2)
    clear hr
    go_enter Tryz.func124, Tryz.ntmps124
    go_wp2_with (refine wpList_alloc_row rfl _ rfl _ Tryz.packZero ?_)
    apply Stop.go; intro w1 Hg1 Hb1
    go_wp2_with fail
    refine (isName_any s hs _).mono ?_; rintro e wx ⟨rfl, rfl⟩
    rw [Hr.out]
    go_wp2_with (refine wpList_alloc_row rfl _ rfl _ Tryz.packZero ?_)
    apply Stop.go; intro w2 Hg2 Hb2
    have c0 : w2.cell? ⟨w1.heap.size, 0, none⟩ = some (.int .u8 0) := Hb2.out.cell 0
    have f0 := Hb2.out.frozen 0
    have Ho3 : Hid (Only w2 (w2.setCell ⟨w1.heap.size, 0, none⟩ (.int .u8 (s.size : Int))) w1.heap.size) := Lib.hid ((Only.refl w2 _).setCell 0 _)
    have Hb3 : Hid (Blk (w2.setCell ⟨w1.heap.size, 0, none⟩ (.int .u8 (s.size : Int))) w1.heap.size 171 (bcells ((zeros 25).set 0 (UInt8.ofNat s.size)))) := Lib.hid (by
      have h := Hb2.out.set_ 0 (.int .u8 (((UInt8.ofNat s.size).toNat : Nat) : Int))
      rw [bcells_set] at h
      have e : (UInt8.ofNat s.size).toNat = s.size := by simp; omega
      rw [e] at h
      exact h)
    go_wp2_with (first | refine wpList_slice_arr_l rfl _ _ _ rfl _ _ Tryz.underlying171 Tryz.packByte _ rfl _ _ rfl 1 rfl (by omega) ?_ | refine wpList_copy_text rfl _ _ _ _ rfl _ Tryz.underlying26 Tryz.packByte _ _ _ _ _ _ rfl Hb3.out _ rfl (by omega) (by simp [zeros]) ?_)
    apply Stop.go; intro w4 Ho4 Hb4
    rw [Hs.out] at Hb4
    have Hlo := Lib.hid (show Below w.heap.size w w4 from (bonly (bt Hg1.out.1 Hg2.out.1) Ho3.out (by have h1 := Hg1.out.1.size; omega)).trans (Ho4.out.below (by have h1 := Hg1.out.1.size; omega)))
    have Hb5 := Lib.hid ((Hb1.out.ext Hg2.out.1).only Ho3.out (Nat.ne_of_lt Hb1.out.lt))
    have Hb6 := Lib.hid (Hb5.out.only Ho4.out (Nat.ne_of_lt Hb1.out.lt))
    go_wp2_with (first | refine wpList_load_arr rfl _ _ rfl _ rfl _ _ Hb4.out _ _ Tryz.underlying171 (Tryz.packFits Hl.out) ?_ | refine wpList_store_arr rfl _ _ _ rfl _ _ rfl rfl _ _ Hb6.out (Tryz.packFits Hl.out) (by rw [bcells_size, bcells_size, Hl.out, zeros_len]) (oneCell_bcells _) ?_)
    apply Stop.go; intro w7 Ho7 Hb7
    go_wp2_with ((with_reducible show bodyPost _ _ _ _ _ _); refine bodyPost_cell_tmp rfl _ rfl _ _ Hb7.out _ _ Tryz.underlying171 (Tryz.packFits Hl.out) rfl _ rfl ?_)
    apply Stop.go
    rw [Hp.out]
    exact ⟨⟨rfl, rfl⟩, bonly Hlo.out Ho7.out (Nat.le_refl _)⟩

set_option maxRecDepth 4000 in
set_option maxHeartbeats 1000000 in
theorem unpack_any (L : List UInt8) (hL : L.length = 25) (w : World) :
    Calls Tryz.prog 151 #[.agg (bcells L)] w fun e w' => e = .returned (.tuple #[.string (unpackS L), .int .i64 (errN (unpackB L))]) ∧ Below w.heap.size w w' := by
  have HL := Lib.hid hL
  obtain ⟨x, L', rfl⟩ : ∃ x L', L = x :: L' := by
    cases L with
    | nil => cases hL
    | cons x L' => exact ⟨x, L', rfl⟩
  have hx := x.toNat_lt
  by_cases h24 : x.toNat ≤ 24
  · have d1 : decide ((24 : Int) < x.toNat) = false := by simp; omega
    have Hc := Lib.hid (packCut_len hL h24)
    have Hd := Lib.hid (show packCut (x :: L') = ((x :: L').drop 1).take x.toNat from rfl)
    have Hu := Lib.hid (show unpackB (x :: L') = (rightB (packCut (x :: L')) && packL (packCut (x :: L')) == (x :: L')) by unfold unpackB; rw [decide_eq_true (show ((x :: L').headD 0).toNat ≤ 24 from h24)]; rfl)
    clear hL
    go_enter Tryz.func151, Tryz.ntmps151
    go_wp2_with (refine wpList_box_row rfl _ _ rfl _ rfl ?_)
    apply Stop.go; intro w1 Hg1 Hb1
    have c0 : w1.cell? ⟨w.heap.size, 0, none⟩ = some (.int .u8 (x.toNat : Int)) := by rw [Hb1.out.cell 0]; rfl
    have hlen : (packCut (x :: L')).length = 1 + x.toNat - 1 := by rw [Hc.out]; show x.toNat = _; omega
    have Hr1 : Hid (RB w1 (some ⟨w.heap.size, 1, none⟩) (packCut (x :: L'))) := Lib.hid (RB.of_blk_at Hb1.out 1 x.toNat)
    generalize hC : packCut (x :: L') = C at *
    have HC := Lib.hid hC
    clear hC
    have hsz : (ByteArray.mk C.toArray).size ≤ maxLen := by
      have e : (ByteArray.mk C.toArray).size = C.length := by simp [ByteArray.size]
      rw [e, hlen]
      unfold maxLen
      omega
    have Hsz := Lib.hid hsz
    have Hlen := Lib.hid hlen
    clear hsz hlen
    go_wp2_with (first | refine wpList_slice_arr_lh rfl _ _ _ _ rfl _ _ Tryz.underlying171 Tryz.packByte _ rfl _ _ _ _ rfl rfl 1 (1 + x.toNat) rfl (by omega) (by omega) (by omega) (by omega) ?_ | refine wpList_bytes_text rfl _ _ _ _ rfl Tryz.underlying26 Tryz.underlying5 Tryz.underlying9 _ _ _ rfl C Hlen.out Hr1.out ?_)
    refine (pack_any _ Hsz.out _).mono ?_; rintro e w2 ⟨rfl, hb2⟩
    have e1 : rightN (ByteArray.mk C.toArray) = rightB C := by unfold rightN; simp
    have e2 : packN (ByteArray.mk C.toArray) = if rightB C then packL C else zeros 25 := by unfold packN; rw [e1]
    rw [e1, e2]
    have Hb2 := Lib.hid hb2
    clear e1 e2 hb2 c0
    cases hr : rightB C
    · have Hu := Lib.hid (show unpackB (x :: L') = false by rw [Hu.out, hr]; rfl)
      have Hs := Lib.hid (show unpackS (x :: L') = ⟨#[]⟩ by unfold unpackS; rw [Hu.out]; rfl)
      clear hr
      rw [show errN false = 3 from rfl]
      go_wp2_with (refine wpList_alloc_row rfl _ rfl _ Tryz.packZero ?_)
      apply Stop.go; intro w3 Hg3 Hb3
      go_wp2_with (refine wpList_store_arr rfl _ _ _ rfl _ _ rfl rfl _ _ Hb3.out (Tryz.packFits (zeros_len 25)) rfl (oneCell_bcells _) ?_)
      apply Stop.go; intro w4 Ho4 Hb4
      go_wp2_with fail
      go_ret2
      rw [Hu.out, Hs.out]
      exact ⟨rfl, bonly (bt (bt Hg1.out.1 Hb2.out) Hg3.out.1) Ho4.out (bt Hg1.out.1 Hb2.out).size⟩
    · have Hp := Lib.hid (packL_len (l := C) (by have := Hc.out; simp at this; omega))
      rw [if_pos rfl, show errN true = 0 from rfl]
      obtain ⟨r, hxy⟩ : ∃ r, (packL C == (x :: L')) = r := ⟨_, rfl⟩
      have Hr := Lib.hid (show unpackB (x :: L') = r by rw [Hu.out, hr, Bool.true_and]; exact hxy)
      have Hs := Lib.hid (show unpackS (x :: L') = if r then ⟨C.toArray⟩ else ⟨#[]⟩ by unfold unpackS; rw [Hr.out, HC.out])
      have Hb1' := Lib.hid (Hb1.out.ext Hb2.out)
      generalize hP : packL C = P at *
      clear hr Hu Hd Hc HC hP
      go_wp2_with (refine wpList_alloc_row rfl _ rfl _ Tryz.packZero ?_)
      apply Stop.go; intro w3 Hg3 Hb3
      have Hb1' := Lib.hid (Hb1'.out.ext Hg3.out.1)
      go_wp2_with (refine wpList_store_arr rfl _ _ _ rfl _ _ rfl rfl _ _ Hb3.out (Tryz.packFits Hp.out) (by rw [bcells_size, bcells_size, Hp.out, zeros_len]) (oneCell_bcells _) ?_)
      apply Stop.go; intro w4 Ho4 Hb4
      have Hb1' := Lib.hid (Hb1'.out.only Ho4.out (by have h1 := Hb1.out.lt; have h2 := Hb2.out.size; omega))
      have Hfin := Lib.hid (bonly (bt (bt Hg1.out.1 Hb2.out) Hg3.out.1) Ho4.out (bt Hg1.out.1 Hb2.out).size)
      cases r
      all_goals
        have hneq : (!(P == (x :: L'))) = _ := congrArg not hxy
        clear hxy
        go_wp2_with (first | refine wpList_load_arr rfl _ _ rfl _ rfl _ _ Hb4.out _ _ Tryz.underlying171 (Tryz.packFits Hp.out) ?_ | refine wpList_load_arr rfl _ _ rfl _ rfl _ _ Hb1'.out _ _ Tryz.underlying171 (Tryz.packFits HL.out) ?_ | refine wpList_neq_arr rfl _ _ _ _ rfl Tryz.packGuard _ _ Tryz.underlying171 Tryz.underlying5 Tryz.packByte P (x :: L') rfl rfl Hp.out HL.out _ hneq ?_)
        go_ret2
        rw [Hr.out, Hs.out]
        exact ⟨rfl, Hfin.out⟩
  · have d1 : decide ((24 : Int) < x.toNat) = true := by simp; omega
    have Hu := Lib.hid (show unpackB (x :: L') = false by unfold unpackB; rw [decide_eq_false (show ¬ ((x :: L').headD 0).toNat ≤ 24 from h24)]; rfl)
    have Hs := Lib.hid (show unpackS (x :: L') = ⟨#[]⟩ by unfold unpackS; rw [Hu.out]; rfl)
    clear hL
    go_enter Tryz.func151, Tryz.ntmps151
    go_wp2_with (refine wpList_box_row rfl _ _ rfl _ rfl ?_)
    apply Stop.go; intro w1 Hg1 Hb1
    have c0 : w1.cell? ⟨w.heap.size, 0, none⟩ = some (.int .u8 (x.toNat : Int)) := by rw [Hb1.out.cell 0]; rfl
    go_wp2_with fail
    go_ret2
    rw [Hu.out, Hs.out]
    exact ⟨rfl, Hg1.out.1⟩



end Go.Proofs.YtkakihbfhmiabaaGreat
