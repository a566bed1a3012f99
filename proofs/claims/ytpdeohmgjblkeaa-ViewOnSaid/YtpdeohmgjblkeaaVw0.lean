/-
  Contracts of the law's own functions of layer 21: To, Same, small.
-/
import Derived.Test.YtpdeohmgjblkeaaViewA
import Derived.Test.YtpdeohmgjblkeaaGrB
import Derived.Test.YtpdeohmgjblkeaaSup2
import Derived.Test.YtpdeohmgjblkeaaTab2
import Derived.Test.YtpdeohmgjblkeaaChart3
namespace Go.Proofs.Ytpdeohmgjblkeaa
open Go.RowKit
set_option maxRecDepth 10000

theorem OwnK.of_blk {w : World} {B g : Nat} {e : TypeId} {L : List (List UInt8)} (hL : Bks L) (hg : Blk w g e (bcells L.flatten)) (hb : B ≤ g) (hm : L.length ≤ maxLen) : OwnK w B e (.slice (some ⟨g, 0, none⟩) L.length L.length) L :=
  ⟨hL, by rw [List.length_map, flat_len hL], Or.inr ⟨g, L.length, bcells L.flatten, rfl, hb, hg, Nat.le_refl _, hm, by rw [bcells_size, flat_len hL], by unfold bcells; rw [List.toList_toArray, List.take_of_length_le (by rw [List.length_map, flat_len hL]; omega)]⟩⟩
/-- A result that is a list of blocks of the call's own. -/
def RetK (w : World) (L : List (List UInt8)) (e : Ending) (w' : World) : Prop := ∃ v, e = .returned v ∧ OwnK w' w.heap.size 49 v L ∧ Below w.heap.size w w'

theorem one_flat (d : List UInt8) : ([d] : List (List UInt8)).flatten = d := by simp
theorem one_bks {d : List UInt8} (h : d.length = 256) : Bks [d] := fun x hx => by rw [List.mem_singleton] at hx; subst hx; exact h
set_option maxHeartbeats 1600000 in
theorem to21_any (A : Option Addr) (n cap : Nat) (L : List (List UInt8)) (hn : L.length = n) (hL : Bks L) (hm : n ≤ 1099511627) (w : World) (hr : RK w A L) :
    Calls Try.prog 8 #[.slice A n cap] w (RetK w L) := by
  have Hn := Lib.hid hn
  have Hr := Lib.hid hr
  have HL := Lib.hid hL
  clear hn hr hL
  go_enter Try.func8, Try.ntmps8
  go_wp2_with fail
  go_loopw [3, 4] (fun v i wr => ∃ k : Nat, k ≤ n ∧ i = .int .i64 k ∧ Hid (OwnK wr w.heap.size 49 v (L.take k)) ∧ Hid (Below w.heap.size w wr)) (fun _ i _ => n - (intOf i).toNat)
  case atStart => exact ⟨0, Nat.zero_le _, rfl, Lib.hid (OwnK.nil_ _ _ _), Lib.hid (Below.refl _ _)⟩
  case round =>
    obtain ⟨k, hk, rfl, HO, E⟩ := hrel
    by_cases hlt : k < n
    · have hkl : k < L.length := by rw [Hn.out]; exact hlt
      obtain ⟨ad, rfl⟩ := Hr.out.addr (by omega)
      have HR := Lib.hid (Hr.out.below E.out)
      have HT := Lib.hid (List.take_succ_eq_append_getElem hkl)
      have HX := Lib.hid (HL.out.get hkl)
      have HTl := Lib.hid (show (L.take k).length = k by rw [List.length_take]; omega)
      have p0 : (0 : Int) ≤ (k : Int) := by omega
      go_wp2_with (first | refine wpList_load_bk rfl _ _ rfl ad k rfl L HL.out hkl HR.out _ Try.underlying48 rfl Try.arr256Size ?_ | refine wpList_build_bk rfl _ _ _ rfl Try.underlying33 Try.blockInfo (L[k]'hkl) HX.out rfl ?_)
      apply Stop.go; intro w2 Hg2 Hb2
      have HO2 := Lib.hid (HO.out.ext Hg2.out.1)
      have E2 := Lib.hid (bt E.out Hg2.out.1)
      have Hb2 := Lib.hid (show RK w2 (some ⟨wr.heap.size, 0, none⟩) [L[k]'hkl] from RK.of_blk (one_bks HX.out) (by rw [one_flat]; exact Hb2.out))
      clear Hg2 HO E HR
      go_wp2_with (at_builtin; refine wpList_append_bk rfl _ _ _ _ rfl Try.underlying33 _ Try.blockInfo ((bcells_size _).trans (zeros_len 256)) w.heap.size _ (L.take k) HO2.out ⟨wr.heap.size, 0, none⟩ 1 1 [L[k]'hkl] (one_bks HX.out) rfl Hb2.out rfl rfl E2.out.size (by rw [HTl.out]; omega) ?_)
      apply Stop.go; intro v3 w3 HO3 HB3
      have HO3 := Lib.hid (show OwnK w3 w.heap.size 49 v3 (L.take (k + 1)) by first | exact HO3.out | (rw [HT.out]; exact HO3.out))
      have E3 := Lib.hid (E2.out.trans HB3.out)
      clear HB3 HO2 E2 Hb2
      go_wp2_with fail
      go_roundw
      case rel => exact ⟨k + 1, by omega, by go_num, HO3, E3⟩
      case measure => simp [intOf]; omega
    · obtain rfl : k = n := by omega
      rw [List.take_of_length_le (by rw [Hn.out]; omega)] at HO
      go_wp2_with fail
      go_ret
      exact ⟨_, rfl, HO.out, E.out⟩

set_option maxHeartbeats 1600000 in
theorem same21_any (A : Option Addr) (n cap : Nat) (K : List (List UInt8)) (hn : K.length = n) (hK : Bks K) (A' : Option Addr) (n' cap' : Nat) (L : List (List UInt8)) (hn' : L.length = n') (hL : Bks L) (hm : n ≤ maxLen) (hm' : n' ≤ maxLen) (w : World) (hr : RK w A K) (hr' : RK w A' L) :
    Calls Try.prog 16 #[.slice A n cap, .slice A' n' cap'] w fun e w' => e = .returned (.bool (decide (K = L))) ∧ Below w.heap.size w w' := by
  unfold maxLen at hm hm'
  have Hn := Lib.hid hn
  have Hn' := Lib.hid hn'
  have Hr := Lib.hid hr
  have Hr' := Lib.hid hr'
  have HK := Lib.hid hK
  have HL := Lib.hid hL
  by_cases hne : n = n'
  · subst hne
    clear hn hn' hr hr' hK hL
    have hb : ((n : Int) != (n : Int)) = false := by simp
    go_enter Try.func16, Try.ntmps16
    go_wp2_with fail
    go_loopw [5] (fun i wr => ∃ k : Nat, k ≤ n ∧ i = .int .i64 k ∧ Hid (K.take k = L.take k) ∧ Hid (Below w.heap.size w wr)) (fun i _ => n - (intOf i).toNat)
    case atStart => exact ⟨0, Nat.zero_le _, rfl, Lib.hid rfl, Lib.hid (Below.refl _ _)⟩
    case round =>
      obtain ⟨k, hk, rfl, Heq, E⟩ := hrel
      by_cases hlt : k < n
      · have hkl : k < K.length := by rw [Hn.out]; exact hlt
        have hkl' : k < L.length := by rw [Hn'.out]; exact hlt
        obtain ⟨ad, rfl⟩ := Hr.out.addr (by omega)
        obtain ⟨ad', rfl⟩ := Hr'.out.addr (by omega)
        have Htk := Lib.hid (List.take_succ_eq_append_getElem hkl)
        have Htk' := Lib.hid (List.take_succ_eq_append_getElem hkl')
        have Hdif := Lib.hid (show K = L → K[k] = L[k] from fun h => by subst h; rfl)
        have HXL := Lib.hid (HK.out.get hkl)
        have HYL := Lib.hid (HL.out.get hkl')
        have p0 : (0 : Int) ≤ (k : Int) := by omega
        obtain ⟨r, Hrr⟩ : ∃ r, Hid ((K[k] == L[k]) = r) := ⟨_, Lib.hid rfl⟩
        have Hrn := Lib.hid (show (K[k] != L[k]) = !r by rw [bne, Hrr.out])
        go_wp2_with fail
        refine WH.start (S := fun w' : World => Below w.heap.size w w') [false, false, false, false, false, false, false, false, false] 9 rfl rfl (by kernel_rfl) (bt E.out (bdrew wr 1)) (fun hSn => ?_); obtain ⟨wS, hwS⟩ : ∃ x, (wr).drew = x := ⟨_, rfl⟩; have HE := Lib.hid (show Below (wr).heap.size (wr) wS from hwS ▸ bdrew wr 1); rw [hwS] at hSn ⊢; clear hwS
        refine WH.tk 0 ?_; simp only [setL]
        refine WH.tk 1 ?_; simp only [setL]
        refine WH.tk 2 ?_; simp only [setL]
        refine WH.tv 3 rfl (fun w' hSw => exec_load_bk _ _ rfl ad k rfl K HK.out hkl (Hr.out.below hSw) _ Try.underlying49 rfl Try.blockSize) ?_; simp only [setL]
        refine WH.tk 4 ?_; simp only [setL]
        refine WH.tk 5 ?_; simp only [setL]
        refine WH.tk 6 ?_; simp only [setL]
        refine WH.tv 7 rfl (fun w' hSw => exec_load_bk _ _ rfl ad' k rfl L HL.out hkl' (Hr'.out.below hSw) _ Try.underlying48 rfl Try.arr256Size) ?_; simp only [setL]
        refine WH.tv 8 rfl (fun w' hSw => exec_neq_arr _ _ _ _ rfl (by kernel_rfl) _ _ Try.underlying49 Try.underlying5 Try.byteSize K[k] L[k] rfl rfl HXL.out HYL.out (!r) Hrn.out) ?_; simp only [setL]
        refine WH.done (by kernel_rfl) ?_
        cases r
        · have hne : K[k] ≠ L[k] := fun h => by
            have := Hrr.out
            rw [h, beq_self_eq_true] at this
            cases this
          have Hne := Lib.hid (decide_eq_false (fun h : K = L => hne (Hdif.out h)))
          clear hne
          go_wp2_with fail
          go_ret
          rw [Hne.out]
          exact ⟨rfl, hSn⟩
        · have he : K[k] = L[k] := by simpa using Hrr.out
          have Heq2 := Lib.hid (show K.take (k + 1) = L.take (k + 1) by rw [Htk.out, Htk'.out, Heq.out, he])
          have E2 := Lib.hid hSn
          clear he hSn
          go_wp2_with fail
          go_roundw
          case rel => exact ⟨k + 1, by omega, by go_num, Heq2, E2⟩
          case measure => simp [intOf]; omega
      · have he : K = L := by
          have h := Heq.out
          rwa [List.take_of_length_le (by rw [Hn.out]; omega), List.take_of_length_le (by rw [Hn'.out]; omega)] at h
        have He := Lib.hid (decide_eq_true he)
        clear he
        go_wp2_with fail
        go_ret
        rw [He.out]
        exact ⟨rfl, E.out⟩
  · have hb : ((n : Int) != (n' : Int)) = true := by simp; omega
    clear hn hn' hr hr' hK hL
    go_enter Try.func16, Try.ntmps16
    go_wp2_with fail
    go_ret
    rw [decide_eq_false (fun h => hne (by rw [← Hn.out, ← Hn'.out, h]))]
    exact ⟨rfl, Below.refl _ _⟩

theorem rc_lits21 {w : World} {t : TypeId} (l : List Int) : RC (w.alloc (.cells (ivals l).toArray t)) (some ⟨w.heap.size, 0, none⟩) (ivals l) := RC.of_blk (Blk.new w t _) _ (by rw [List.toList_toArray, List.take_length])
def lay16 : Lay14 := ⟨16, 8, 0⟩
def ino21 : List Int := [2, 1, 0, 1, 0, 0, 0, 0, 0, 0, 0]
/-- A device just formatted, without anything. -/
def smallL : List (List UInt8) := (((List.replicate 16 (zeros 256)).set 0 lay16.blk).set 2 (withT (zeros 256) 0 ino21)).set 1 (blockL 256 (makeF [0, 1, 2]))
theorem smallL_bks : Bks smallL := (((Bks.same 16 (zeros_len 256)).set 0 (Lay14.blk_len _)).set 2 (withT_len (zeros_len 256) 0 ino21)).set 1 (blockL_len _ _)
theorem smallL_len : smallL.length = 16 := rfl
set_option maxHeartbeats 1600000 in
theorem small_any (w : World) : Calls Try.prog 22 #[] w (RetK w smallL) := by
  have HzL : Hid ((zeros 256).length = 256) := Lib.hid (zeros_len _)
  obtain ⟨L0, HL0⟩ : ∃ L, Hid (List.replicate 16 (zeros 256) = L) := ⟨_, Lib.hid rfl⟩
  have HB0 := Lib.hid (show Bks L0 by rw [← HL0.out]; exact Bks.same 16 (zeros_len 256))
  have HN0 := Lib.hid (show L0.length = 16 by rw [← HL0.out]; rfl)
  have HP := Lib.hid (show lay16.may = true ∧ lay16.merge < 18446744073709551616 from ⟨by decide, by decide⟩)
  have HPL := Lib.hid (Lay14.blk_len lay16)
  have HZ2 := Lib.hid (show ∀ h : 2 < (L0.set 0 lay16.blk).length, (L0.set 0 lay16.blk)[2] = zeros 256 from fun h => by
    rw [List.getElem_set_ne (by omega)]
    simp only [← HL0.out, List.getElem_replicate])
  have HWL := Lib.hid (withT_len (zeros_len 256) 0 ino21)
  have HCL := Lib.hid (blockL_len 256 (makeF [0, 1, 2]))
  have HS := Lib.hid (show ((L0.set 0 lay16.blk).set 2 (withT (zeros 256) 0 ino21)).set 1 (blockL 256 (makeF [0, 1, 2])) = smallL by rw [← HL0.out]; rfl)
  have HP1 := Lib.hid (fun w => put14_any lay16 HP.out.2 w)
  have HP2 := Lib.hid (fun w => twith_any (zeros 256) HzL.out 0 ino21 rfl w)
  have HP3 := Lib.hid (fun A c w h => make_any A 3 c [0, 1, 2] rfl (by unfold maxLen; omega) w h)
  generalize lay16.blk = P1 at *
  generalize withT (zeros 256) 0 ino21 = P2 at *
  generalize blockL 256 (makeF [0, 1, 2]) = P3 at *
  obtain ⟨e1, He1⟩ : ∃ e, Hid (okArg lay16.may = e) := ⟨_, Lib.hid rfl⟩
  rw [He1.out] at HP1
  obtain ⟨e2, He2⟩ : ∃ e, Hid (errT 0 ino21 = e) := ⟨_, Lib.hid rfl⟩
  rw [He2.out] at HP2
  clear HP
  go_enter Try.func22, Try.ntmps22
  go_wp2_with (refine wpList_make_bkL rfl _ _ _ _ rfl Try.underlying33 Try.blockInfo _ _ _ _ 16 rfl rfl rfl rfl (by omega) L0 HL0.out ?_)
  apply Stop.go; intro w1 Hg1 Hb1
  have E1 := Lib.hid Hg1.out.1
  clear Hg1 HL0
  go_wp2_with fail
  refine (HP1.out _).mono ?_; rintro e w2 ⟨rfl, hb2⟩
  have Hb2 := Lib.hid (Hb1.out.ext hb2)
  have E2 := Lib.hid (bt E1.out hb2)
  clear hb2 Hb1 E1 HP1
  go_wp2_with (refine wpList_store_bk rfl _ _ _ rfl Try.blockSize w.heap.size 0 rfl P1 rfl HPL.out _ L0 HB0.out (by rw [HN0.out]; omega) Hb2.out ?_)
  apply Stop.go; intro w3 Ho3 Hb3
  have E3 := Lib.hid (bonly E2.out Ho3.out (Nat.le_refl _))
  have HB1 := Lib.hid (HB0.out.set 0 HPL.out)
  have HN1 := Lib.hid (show (L0.set 0 P1).length = 16 by rw [List.length_set, HN0.out])
  generalize L0.set 0 P1 = L1 at *
  clear Ho3 Hb2 E2 HB0 HN0
  have h2 : 2 < L1.length := by rw [HN1.out]; omega
  go_wp2_with (refine wpList_load_bk rfl _ _ rfl ⟨w.heap.size, 0, none⟩ 2 rfl L1 HB1.out h2 (RK.of_blk HB1.out Hb3.out) _ Try.underlying49 rfl Try.blockSize ?_)
  rw [HZ2.out h2]
  go_wp2_with fail
  refine (HP2.out _).mono ?_; rintro e w4 ⟨rfl, hb4⟩
  have Hb4 := Lib.hid (Hb3.out.ext hb4)
  have E4 := Lib.hid (bt E3.out hb4)
  clear hb4 Hb3 E3 HP2
  go_wp2_with (refine wpList_store_bk rfl _ _ _ rfl Try.blockSize w.heap.size 2 rfl P2 rfl HWL.out _ L1 HB1.out h2 Hb4.out ?_)
  apply Stop.go; intro w5 Ho5 Hb5
  have E5 := Lib.hid (bonly E4.out Ho5.out (Nat.le_refl _))
  have HB2 := Lib.hid (HB1.out.set 2 HWL.out)
  have HN2 := Lib.hid (show (L1.set 2 P2).length = 16 by rw [List.length_set, HN1.out])
  clear Ho5 Hb4 E4 h2 HZ2 HB1 HN1
  generalize L1.set 2 P2 = L2 at *
  go_wp2_with fail
  have hr6 : RC (w5.alloc (.cells (ivals [0, 1, 2]).toArray 3)) (some ⟨w5.heap.size, 0, none⟩) (ivals [0, 1, 2]) := rc_lits21 [0, 1, 2]
  have hbn : Below w5.heap.size w5 (w5.alloc (.cells (ivals [0, 1, 2]).toArray 3)) := (Below.refl _ _).alloc (Nat.le_refl _) _
  refine (HP3.out _ 3 _ hr6).mono ?_; rintro e w6 ⟨rfl, hb6⟩
  have hbn := bt hbn hb6
  have Hb6 := Lib.hid (Hb5.out.ext hbn)
  have E6 := Lib.hid (bt E5.out hbn)
  clear hb6 hr6 hbn Hb5 E5 HP3
  go_wp2_with (refine wpList_store_bk rfl _ _ _ rfl Try.blockSize w.heap.size 1 rfl P3 rfl HCL.out _ L2 HB2.out (by rw [HN2.out]; omega) Hb6.out ?_)
  apply Stop.go; intro w7 Ho7 Hb7
  have E7 := Lib.hid (bonly E6.out Ho7.out (Nat.le_refl _))
  have HB3 := Lib.hid (HB2.out.set 1 HCL.out)
  clear Ho7 Hb6 E6
  rw [HS.out] at Hb7 HB3
  go_wp2_with fail
  go_ret
  exact ⟨_, rfl, OwnK.of_blk HB3.out Hb7.out (Nat.le_refl _) (by rw [smallL_len]; unfold maxLen; omega), E7.out⟩

end Go.Proofs.Ytpdeohmgjblkeaa
