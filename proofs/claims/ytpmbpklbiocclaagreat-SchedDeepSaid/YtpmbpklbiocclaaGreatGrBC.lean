/-
  Texts of this claim joined: Ref13, Sch13.
-/
import Derived.Test.YtpmbpklbiocclaaGreatRef12b
import Derived.Test.YtpmbpklbiocclaaGreatGrAV
import Derived.Test.YtpmbpklbiocclaaGreatGrBA
import Derived.Test.YtpmbpklbiocclaaGreatGrBB
import Derived.Test.YtpmbpklbiocclaaGreatGrAU
import Derived.Test.YtpmbpklbiocclaaGreatGrAB

/-
  The contracts of the document's At and Step (stage 13).
-/
namespace Go.Proofs.YtpmbpklbiocclaaGreat
open Go.RowKit

theorem atZ_range13 (m : Int) (x : Nat) (h : 1 ≤ m) : 0 ≤ atZ m x ∧ atZ m x < m := by
  unfold atZ
  have := Int.natCast_nonneg (wholeW (mulW x (floatOfInt .f64 m)))
  generalize ((wholeW (mulW x (floatOfInt .f64 m)) : Nat) : Int) = W at *
  (repeat' split) <;> omega
def atB (b : Nat) (n : Nat) : Nat := (atZ (n : Int) b).toNat
theorem atB_spec {b n : Nat} (h : 0 < n) : (atB b n : Int) = atZ (n : Int) b ∧ atB b n < n := by
  have := atZ_range13 (n : Int) b (by omega)
  unfold atB
  omega

end Go.Proofs.YtpmbpklbiocclaaGreat

/-
  The contracts of package sched (stage 13).
-/
namespace Go.Proofs.YtpmbpklbiocclaaGreat
open Go.RowKit

section
variable {w : World} {ro : Nat → Option Rl} {c b g : Nat} {x : DC} {T : Nat}
set_option maxRecDepth 100000 in
set_option maxHeartbeats 4000000 in
theorem c_step (h : Cch w ro c b g x T) (hT : T ≤ 1000) (h16 : x.base.length = 16) (m : Nat) (hm : m < 18446744073709551616) :
    Calls Tryz.prog 10 #[.pointer (some ⟨c, 0, none⟩), .int .u64 (m : Int)] w fun e w' => e = .returned (.tuple #[.int .i64 (x.step (atB m)).2.1, .int .i64 (x.step (atB m)).2.2]) ∧ ∃ ro', Cch w' ro' c b g (x.step (atB m)).1 T ∧ Tr ro ro' w w' := by
  have H := Lib.hid h
  have HOk := Lib.hid h.ok
  have HN0 := Lib.hid (fun (h0 : blocksC x.list = []) => (show x.step (atB m) = (x, -1, 0) from by unfold DC.step; rw [if_pos h0]))
  have HN1 := Lib.hid (fun (h0 : blocksC x.list ≠ []) => (show x.step (atB m) = (x.flush ((blocksC x.list).getD (atB m (blocksC x.list).length) 0), (blocksC x.list).getD (atB m (blocksC x.list).length) 0, x.flushE ((blocksC x.list).getD (atB m (blocksC x.list).length) 0)) from by unfold DC.step; rw [if_neg h0]))
  have HBL := Lib.hid (show (blocksC x.list).length ≤ 1000 from by have h1 := blocksC_len x.list; have h2 := h.ok.wrote; have h3 := h.last; omega)
  have HB := Lib.hid (fun (k : Nat) (hk : k < (blocksC x.list).length) => (show -9223372036854775808 ≤ (blocksC x.list)[k] ∧ (blocksC x.list)[k] < 9223372036854775808 from by
    obtain ⟨d, hd, he⟩ := (blocksC_mem x.list _).1 (List.getElem_mem hk)
    have h1 := h.ok.blk d hd
    have h2 := h16
    omega))
  have CD := c_dirty h hT
  clear h
  go_enter Tryz.func10, Tryz.ntmps10
  go_wp2_with fail
  refine (CD).mono ?_; rintro e w1 ⟨v, rfl, hoi, hb1⟩
  have OLT := fun q (e : v.ownBlock = some q) => H.out.none_ge (OwnC.lt hoi q e).1
  obtain ⟨Ai, ci, ei, -, -, hri⟩ := hoi.ints
  obtain ⟨ni, hni⟩ : ∃ n, (blocksC x.list).length = n := ⟨_, rfl⟩
  rw [hni] at ei
  subst ei
  have HNI := Lib.hid hni
  have RI := Lib.hid hri
  have C1 := Lib.hid (H.out.ext hb1)
  have T1 := Lib.hid (Tr.of_below ro hb1)
  rw [hni] at HBL
  clear hri hoi hb1 hni CD
  by_cases h0 : ni = 0
  · have HX := Lib.hid (HN0.out (List.eq_nil_of_length_eq_zero (by rw [HNI.out, h0])))
    subst h0
    have CA := at_any ((0 : Nat) : Int) m (by decide) (by decide) hm
    rw [show atZ ((0 : Nat) : Int) m = -1 from by unfold atZ; rw [if_pos (by decide)]] at CA
    go_wp2_with fail
    refine (fromR_any m w1).mono ?_; rintro e w2 ⟨rfl, rfl⟩
    go_wp2_with fail
    refine (CA _).mono ?_; rintro e w3 ⟨rfl, rfl⟩
    go_wp2_with fail
    go_ret2
    rw [HX.out]
    exact ⟨rfl, ro, C1.out, T1.out⟩
  · have HX := Lib.hid (HN1.out (fun e => h0 (by rw [← HNI.out, e]; rfl)))
    have hpos : 0 < ni := by omega
    have hs := atB_spec (b := m) hpos
    rw [HNI.out] at HX
    have CA := at_any (ni : Int) m (by omega) (by have := HBL.out; omega) hm
    rw [← hs.1] at CA
    generalize atB m ni = k at *
    have hkl : k < (blocksC x.list).length := by rw [HNI.out]; exact hs.2
    have hbk := HB.out k hkl
    have LT := Lib.hid OLT
    obtain ⟨adi, rfl, kc⟩ := RI.out.int k hkl
    have HNR := Lib.hid (show ro adi.block = none from LT.out adi.block rfl)
    have hgd : (blocksC x.list).getD k 0 = (blocksC x.list)[k] := by rw [List.getD_eq_getElem?_getD, List.getElem?_eq_getElem hkl]; rfl
    rw [hgd] at HX
    generalize (blocksC x.list)[k] = no at *
    have zk : (k : Int) < ni := by omega
    have dk : decide ((k : Int) < 0) = false := decide_eq_false (by omega)
    have KC := Lib.hid kc
    clear hgd h0 hkl hs kc LT
    go_wp2_with fail
    refine (fromR_any m w1).mono ?_; rintro e w2 ⟨rfl, rfl⟩
    go_wp2_with fail
    refine (CA _).mono ?_; rintro e w3 ⟨rfl, rfl⟩
    go_wp2_with fail
    have C3 := Lib.hid (C1.out.ext (bdrew _ 1))
    have T3 := Lib.hid (T1.out.bel (bdrew _ 1))
    have KC3 := Lib.hid (show (w3.drewN 1).cell? (adi.add k) = some (.int .i64 no) from KC.out)
    refine WH.start (S := fun w' : World => w'.cell? (adi.add k) = some (.int .i64 no)) (List.replicate 12 false) 12 rfl rfl (by kernel_rfl) KC3.out (fun hSn => ?_)
    simp only [List.replicate]
    focus (
      obtain ⟨wS, hwS⟩ : ∃ y, w3.drew = y := ⟨_, rfl⟩
      rw [show w3.drewN 1 = wS from hwS] at C3 T3
      rw [hwS] at hSn ⊢
      clear hwS KC KC3
      refine WH.tk 0 ?_; simp only [setL]
      refine WH.tk 1 ?_; simp only [setL]
      refine WH.tk 2 ?_; simp only [setL]
      refine WH.tv 3 rfl (fun w' hSw => exec_load_cell _ _ rfl (adi.add k) rfl (.int .i64 no) hSw _ Tryz.underlying3 rfl) ?_; simp only [setL]
      refine WH.tk 4 ?_; simp only [setL]
      refine WH.tk 5 ?_; simp only [setL]
      refine WH.tk 6 ?_; simp only [setL]
      refine WH.tk 7 ?_; simp only [setL]
      refine WH.tv 8 rfl (fun w' hSw => exec_load_cell _ _ rfl (adi.add k) rfl (.int .i64 no) hSw _ Tryz.underlying3 rfl) ?_; simp only [setL]
      have CF := c_flush C3.out hT no hbk.1 hbk.2
      obtain ⟨y, hy⟩ : ∃ y, x.flush no = y := ⟨_, rfl⟩
      obtain ⟨ze, hze⟩ : ∃ z, x.flushE no = z := ⟨_, rfl⟩
      rw [hy, hze] at CF HX
      clear hy hze
      refine WH.only 9 _ rfl (by kernel_rfl) rfl (fun K hK => ?_); go_simp; refine (CF).mono ?_; rintro e w4 ⟨rfl, ro4, hc4, ht4⟩; go_simp
      have C4 := Lib.hid hc4
      have T4 := Lib.hid (T3.out.trans ht4)
      have hlt := block_lt_of_cell hSn
      have hS4 : w4.cell? (adi.add k) = some (.int .i64 no) := by
        rw [World.cell?_of_block (w := wS) (w' := w4) (a := adi.add k) (ht4.keep _ hlt (by rw [block_of_add]; exact HNR.out)).2]
        exact hSn
      clear hc4 ht4 CF hlt
      have hSn := hS4; refine hK _ _ hSn ?_; clear hK; clear K; simp only [setL]
      refine WH.tk 10 ?_; simp only [setL]
      refine WH.tk 11 ?_; simp only [setL]
      refine WH.done (by kernel_rfl) ?_
      clear hSn hS4
      go_wp2_with fail
      go_ret2
      rw [HX.out]
      exact ⟨rfl, ro4, C4.out, T4.out⟩)
end

end Go.Proofs.YtpmbpklbiocclaaGreat
