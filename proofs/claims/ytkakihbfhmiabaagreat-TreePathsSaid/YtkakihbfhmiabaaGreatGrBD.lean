/-
  Texts of this claim joined: Law25p, Law25lp.
-/
import Derived.Test.YtkakihbfhmiabaaGreatLaw25c
import Derived.Test.YtkakihbfhmiabaaGreatGrBB
import Derived.BigQuiet
import Derived.Deep.QuietTactic
import Derived.Test.YtkakihbfhmiabaaGreatGrAK
import Derived.ChangeMaps5

/-
  Layer 25: the walk of TreePaths.
-/
namespace Go.Proofs.YtkakihbfhmiabaaGreat
open Go.RowKit
set_option maxRecDepth 10000

def RcAt (A : Option Addr) (P : List ByteArray) (w : World) : Prop := RC w A (svals P)
theorem rc_at {w : World} {ap : Addr} {P : List ByteArray} (h : RC w (some ap) (svals P)) {k : Nat} {s : ByteArray} (hk : P[k]? = some s) : w.cell? (ap.add k) = some (.string s) := by
  obtain ⟨hkl, rfl⟩ := List.getElem?_eq_some_iff.1 hk
  obtain ⟨ad, e, hc⟩ := h.str k hkl
  injection e with e
  subst e
  exact hc
set_option maxHeartbeats 12800000 in
theorem treePaths_any (A : Option Addr) (n cap : Nat) (L : List (List UInt8)) (hn : L.length = n) (hL : Bks L) (hm : n ≤ maxLen) (w : World) (hr : RK w A L) :
    Calls Tryz.prog 5 #[.slice A n cap] w fun e w' => e = .returned (.bool true) ∧ Below w.heap.size w w' := by
  unfold maxLen at hm
  have Hn := Lib.hid hn
  have Hr := Lib.hid hr
  have HL := Lib.hid hL
  have hw := fun w => works25_any w
  clear hn hr hL
  by_cases hbig : 60 < n
  · have d0 : decide ((60 : Int) < (n : Int)) = true := by simp; omega
    clear hbig
    go_enter Tryz.func5, Tryz.ntmps5
    go_wp2_with fail
    refine (hw _).mono ?_; rintro e w1 ⟨rfl, hb1⟩
    go_wp2_with fail
    go_ret
    exact ⟨rfl, hb1⟩
  · have d0 : decide ((60 : Int) < (n : Int)) = false := by simp; omega
    have HTL := Lib.hid (fun no => bkV_len HL.out no)
    have HT := Lib.hid (fun (w : World) h => to21_any A n cap L Hn.out HL.out (by omega) w h)
    have HC1 := Lib.hid (fun A c w h => vof_any A n c L Hn.out HL.out (by omega) w h)
    clear hbig
    go_enter Tryz.func5, Tryz.ntmps5
    go_wp2_with fail
    refine (HT.out _ Hr.out).mono ?_; rintro e w1 ⟨v1, rfl, hv1, hb1⟩
    obtain ⟨A1, c1, rfl, hc1, hm1, hr1⟩ := hv1.read
    rw [Hn.out]
    have HR1 := Lib.hid hr1
    have E1 := Lib.hid hb1
    clear hv1 hc1 hm1 hr1 hb1 HT
    go_wp2_with fail
    refine (HC1.out A1 c1 _ HR1.out).mono ?_; rintro e w2 ⟨f, rfl, hb2, hf2⟩
    have HF2 := Lib.hid hf2
    have E2 := Lib.hid (bt E1.out hb2)
    clear hb2 hf2 HR1 E1 HC1
    go_wp2_with (refine wpList_alloc_row rfl _ rfl _ Tryz.viewZero ?_)
    apply Stop.go; intro w3 Hg3 Hb3
    go_wp2_with (refine wpList_store_arr rfl _ _ _ rfl _ (vval (layV L) f) rfl rfl _ _ Hb3.out Tryz.viewSize rfl (FV.one HF2.out) ?_)
    apply Stop.go; intro w4 Ho4 Hb4
    have D4 := Lib.hid (bonly Hg3.out.1 Ho4.out (Nat.le_refl _))
    have HF4 := Lib.hid (HF2.out.below D4.out)
    have E4 := Lib.hid (bt E2.out D4.out)
    generalize w2.heap.size = g2 at *
    clear Hg3 Hb3 Ho4 D4 HF2 E2
    cases hlw : layW L with
    | none =>
      have e13 : okSup (none : Option Lay14).isSome = 13 := rfl
      rw [e13]
      clear e13 hlw HF4 Hb4
      go_wp2_with fail
      refine (hw _).mono ?_; rintro e w8 ⟨rfl, hb8⟩
      go_wp2_with fail
      go_ret
      exact ⟨rfl, bt E4.out hb8⟩
    | some l =>
      have Hlv := Lib.hid (layV_some hlw)
      rw [Hlv.out] at HF4 Hb4
      have e13 : okSup (some l).isSome = 0 := rfl
      rw [e13]
      have HTr := Lib.hid (fun w h => tree_of_any l f (bkV L) HTL.out w h)
      have HLe := Lib.hid (treeP_len (l := l) (T := bkV L))
      have HGo := Lib.hid ((treeP_good (l := l) (T := bkV L)).goes)
      have HAl := Lib.hid (treeP_all (l := l) (T := bkV L))
      have HWf := Lib.hid (treeP_wf (l := l) (T := bkV L))
      have HSz := Lib.hid (treeP_size (l := l) (T := bkV L))
      have HFw := Lib.hid (fun n h => Nat.le_trans (treeP_few (l := l) (T := bkV L) (n := n) h) (show 224 ≤ 4096 by decide))
      generalize treeP l (bkV L) = t at *
      generalize bkV L = T at *
      obtain ⟨m, Hm⟩ : ∃ m, Hid (t.length = m) := ⟨_, Lib.hid rfl⟩
      have hm4 : m ≤ 128 := by rw [← Hm.out]; exact HLe.out
      clear hlw Hlv e13 HTL
      go_wp2_with (refine wpList_load_blk rfl _ _ rfl _ rfl _ _ Hb4.out _ Tryz.underlying44 rfl Tryz.viewSize ?_)
      refine (HTr.out _ HF4.out).mono ?_; rintro e w5 ⟨vt, rfl, hvt, hb5⟩
      obtain ⟨At, ct, rfl, _, _, hrt⟩ := hvt.read
      rw [Hm.out]
      have HRt := Lib.hid hrt
      have E5 := Lib.hid (bt E4.out hb5)
      clear hvt hb5 hrt Hb4 HF4 E4 HTr
      have HPl := Lib.hid (show (pathP t).length ≤ allN t from Nat.le_trans (sortS_len _) (outP_len t))
      have HPr := Lib.hid (show RiseS (pathP t) from sortS_rises _)
      have HPg := Lib.hid (fun s (h : s ∈ pathP t) => HGo.out s ((sortS_mem _ s).1 h))
      have HPz := Lib.hid (fun s (h : s ∈ pathP t) => show s.size ≤ 4096 by
        have h1 : s ∈ outP t := (sortS_mem _ s).1 h
        unfold outP at h1
        cases hf : fstI t 1 with
        | none => rw [hf] at h1; simp at h1
        | some r =>
          rw [hf] at h1
          simp only at h1
          split at h1
          · have h2 := out_size HSz.out (fun r k i w h => wayW_size HSz.out r k i w h) r t.length s h1
            have h3 : t.length * (24 + 1) ≤ 128 * 25 := Nat.mul_le_mul_right _ HLe.out
            omega
          · simp at h1)
      have HPa := Lib.hid (fun w h => tpaths_any At m ct t Hm.out (by omega) HFw.out HAl.out HWf.out 24 HSz.out (by omega) w h)
      generalize pathP t = P at *
      obtain ⟨pn, Hpn⟩ : ∃ n, Hid (P.length = n) := ⟨_, Lib.hid rfl⟩
      have HAl9 := Lib.hid (fun k => Nat.le_trans (allN_take t k) HAl.out)
      have hpn : pn ≤ 100000 := by rw [← Hpn.out]; exact Nat.le_trans HPl.out HAl.out
      go_wp2_with fail
      refine (HPa.out _ HRt.out).mono ?_; rintro e w6 ⟨vp, rfl, hvp, hb6⟩
      obtain ⟨Ap, cp, rfl, _, _, hrp⟩ := hvp.strs
      rw [Hpn.out]
      have HRt6 := Lib.hid (HRt.out.below hb6)
      have HRp := Lib.hid hrp
      have E6 := Lib.hid (bt E5.out hb6)
      clear hvp hb6 hrp HRt E5 HPa HGo
      go_wp2_with fail
      go_loopw [7, 8] (fun a z wr => ∃ k : Nat, k ≤ m ∧ a = .int .i64 ((allN (t.take k) : Nat) : Int) ∧ z = .int .i64 k ∧ Hid (wr = w6)) (fun _ z _ => m - (intOf z).toNat)
      case atStart => exact ⟨0, Nat.zero_le _, by simp [allN], rfl, Lib.hid (by trivial)⟩
      case round =>
        obtain ⟨k, hk, rfl, rfl, Hw6⟩ := hrel
        have hw6 : w6 = wr := Hw6.out.symm
        clear Hw6
        subst hw6
        by_cases hlt : k < m
        · have d1 : decide ((k : Int) < (m : Int)) = true := by simp; omega
          have p0 : (0 : Int) ≤ (k : Int) := by omega
          have p1 : (k : Int) < (m : Int) := by omega
          obtain ⟨nd, hnd⟩ : ∃ nd, t[k]? = some nd := ⟨_, List.getElem?_eq_getElem (by rw [Hm.out]; exact hlt)⟩
          obtain ⟨ad, x, rfl, hx, hc⟩ := HRt6.out.node hnd
          have c6 : w6.cell? ⟨(ad.add (k * 7)).block, (ad.add (k * 7)).off + 6, none⟩ = some (.slice x.S nd.names.length x.d) := by
            rw [node_at hc 6 _ rfl, hx.sn]
          have HNx := Lib.hid (allN_next hnd)
          have hb1 := HAl9.out (k + 1)
          rw [HNx.out] at hb1
          generalize allN (t.take k) = C at *
          generalize nd.names.length = q at *
          clear hnd hx hc
          go_wp2_with fail
          go_roundw
          case rel => exact ⟨k + 1, by omega, by rw [HNx.out]; go_num, by go_num, Lib.hid (by trivial)⟩
          case measure => simp [intOf]; omega
        · have hkm : m = k := by omega
          subst hkm
          have d1 : decide ((m : Int) < (m : Int)) = false := by simp
          have HT := Lib.hid (show t.take m = t by rw [← Hm.out, List.take_length])
          rw [HT.out]
          have HPn := Lib.hid (show pn ≤ allN t by rw [← Hpn.out]; exact HPl.out)
          obtain ⟨N, HN⟩ : ∃ N, Hid (allN t = N) := ⟨_, Lib.hid rfl⟩
          rw [HN.out] at HPn ⊢
          go_wp2_with fail
          go_loopw [9] (fun z wq => ∃ i : Nat, i ≤ pn ∧ z = .int .i64 i ∧ Hid (Below w6.heap.size w6 wq)) (fun z _ => pn - (intOf z).toNat)
          case atStart => exact ⟨0, Nat.zero_le _, rfl, Lib.hid (Below.refl _ _)⟩
          case round =>
            obtain ⟨i, hi, rfl, F⟩ := hrel
            by_cases hlt : i < pn
            · have d2 : decide ((i : Int) < (pn : Int)) = true := by simp; omega
              have q0 : (0 : Int) ≤ (i : Int) := by omega
              have q1 : (i : Int) < (pn : Int) := by omega
              obtain ⟨s, hs⟩ : ∃ s, P[i]? = some s := ⟨_, List.getElem?_eq_getElem (by rw [Hpn.out]; exact hlt)⟩
              have HSs := Lib.hid hs
              have hsm := List.mem_of_getElem? hs
              obtain ⟨l', hlne, hsj, hlr, hla⟩ := HPg.out s hsm
              have HSj := Lib.hid hsj
              have HLr := Lib.hid hlr
              have HLa := Lib.hid hla
              have hs4 := HPz.out s hsm
              have HS0 := Lib.hid (SP.start hlne)
              have HLn := Lib.hid (show l'.length ≤ 4096 by
                have h1 := bytesJ_len l'
                rw [← joinA_size, ← hsj] at h1
                omega)
              have hpi : i < P.length := by rw [Hpn.out]; exact hlt
              obtain ⟨ap, hap, hcp⟩ := HRp.out.str i hpi
              subst hap
              clear hcp
              clear hs hsm hlne hsj hlr hla hpi
              go_wp2_with fail
              go_loopw [10, 11, 12] (fun a b z wq => ∃ (j bg k : Nat) (v : Value), v = a ∧ b = .int .i64 bg ∧ z = .int .i64 k ∧ Hid (SP l' j bg k) ∧ Hid (OwnC wq w6.heap.size 9 v (svals (l'.take j))) ∧ Hid (Below w6.heap.size w6 wq)) (fun _ _ z _ => s.size + 1 - (intOf z).toNat)
              case atStart => exact ⟨0, 1, 1, _, rfl, rfl, rfl, HS0, Lib.hid (OwnC.nil_ _ _ _), F⟩
              case round =>
                clear F
                obtain ⟨j, bg, k, v, rfl, rfl, rfl, HSP, HO, F⟩ := hrel
                have cs := rc_at (HRp.out.below F.out) HSs.out
                have s1 : (bg : Int) ≤ (k : Int) := by have := HSP.out.lo; omega
                have s0 : (0 : Int) ≤ (bg : Int) := by omega
                by_cases hk : k ≤ s.size
                · have d3 : decide ((k : Int) ≤ (s.size : Int)) = true := by simp; omega
                  have dN : decide (k ≤ s.size) = true := by simp; omega
                  have s2 : (k : Int) ≤ (s.size : Int) := by omega
                  rcases HSP.out.step HLr.out HSj.out hk with ⟨nm, hnm, hex, hsp, hend⟩ | ⟨b, hkl, hb, hne, hsp⟩
                  · have HSn := Lib.hid hsp
                    have HTk := Lib.hid (show svals (l'.take j) ++ [.string nm] = svals (l'.take (j + 1)) by
                      obtain ⟨hjl, e⟩ := List.getElem?_eq_some_iff.1 hnm
                      rw [List.take_succ_eq_append_getElem hjl, e, svals_snoc])
                    have hjb : (svals (l'.take j)).length ≤ 4096 := by
                      rw [svals_len, List.length_take]
                      have := HLn.out
                      omega
                    have HL1 := Lib.hid (show (svals (l'.take j)).length + 1 ≤ maxLen by unfold maxLen; omega)
                    have HL2 := Lib.hid (show ((svals (l'.take j)).length + 1) * 16 ≤ 140737488355328 by omega)
                    have Z := Lib.hid F.out.size
                    clear hnm hsp hjb HSP
                    rcases hend with hke | ⟨hkl, hb⟩
                    focus
                      have e1 : ((k : Int) == (s.size : Int)) = true := by simp; omega
                      have eN : (k == s.size) = true := by simp; omega
                      clear hke
                      go_wp2_with (at_builtin; refine wpList_append_oneS rfl _ _ _ _ rfl Tryz.underlying34 (.string ⟨#[]⟩) 16 Tryz.strInfo25 rfl w6.heap.size _ _ rfl HO.out (.string nm) rfl rfl Z.out HL1.out HL2.out ?_)
                    rotate_left
                    focus
                      have e1 : ((k : Int) == (s.size : Int)) = false := by simp; omega
                      have eN : (k == s.size) = false := by simp; omega
                      have hix := fun w => idx_text (P := Tryz.prog) Tryz.underlying9 hb w
                      clear hb
                      go_wp2_with (at_builtin; refine wpList_append_oneS rfl _ _ _ _ rfl Tryz.underlying34 (.string ⟨#[]⟩) 16 Tryz.strInfo25 rfl w6.heap.size _ _ rfl HO.out (.string nm) rfl rfl Z.out HL1.out HL2.out ?_)
                    all_goals
                      apply Stop.go; intro v6 w7 HO6 HS6 HN6
                      have F6 := Lib.hid (F.out.trans (HS6.out.below (fun q hq => (HO.out.lt q hq).1) F.out.size))
                      rw [HTk.out] at HO6
                      clear HS6 HN6 HO F cs
                      go_wp2_with fail
                      go_roundw
                      case rel => exact ⟨j + 1, k + 1, k + 1, _, rfl, by go_num, by go_num, HSn, HO6, F6⟩
                      case measure => simp [intOf]; omega
                  · have HSn := Lib.hid hsp
                    have e1 : ((k : Int) == (s.size : Int)) = false := by simp; omega
                    have eN : (k == s.size) = false := by simp; omega
                    have hix := fun w => idx_text (P := Tryz.prog) Tryz.underlying9 hb w
                    have e2 : ((b.toNat : Int) == 47) = false := by
                      rw [beq_eq_false_iff_ne]
                      intro e
                      exact hne (UInt8.toNat_inj.1 (by simpa using Int.ofNat.inj e))
                    clear hb hne hsp HSP
                    go_wp2_with fail
                    go_roundw
                    case rel => exact ⟨j, bg, k + 1, _, rfl, rfl, by go_num, HSn, HO, F⟩
                    case measure => simp [intOf]; omega
                · have d3 : decide ((k : Int) ≤ (s.size : Int)) = false := by simp; omega
                  have dN : decide (k ≤ s.size) = false := by simp; omega
                  obtain ⟨hjl, _⟩ := HSP.out.len (by rw [← joinA_size, ← HSj.out]; omega)
                  rw [show l'.take j = l' by rw [hjl, List.take_length]] at HO
                  obtain ⟨Al, cl, rfl, _, _, hrl⟩ := HO.out.strs
                  have HRl := Lib.hid hrl
                  have HAt := Lib.hid (tat_any At m ct t Hm.out (by omega) HFw.out Al l'.length cl l' rfl (by unfold maxLen; have := HLn.out; omega) wr (HRt6.out.below F.out) hrl)
                  rw [HLa.out] at HAt
                  clear hjl hrl HSP HO s0 s1
                  go_wp2_with fail
                  refine (HAt.out).mono ?_; rintro e wd ⟨⟨ia, rfl, hia⟩, hbd⟩
                  have Fd := Lib.hid (bt F.out hbd)
                  have HRd := Lib.hid (HRp.out.below Fd.out)
                  clear hia hbd F HAt HRl cs
                  rcases Nat.eq_zero_or_pos i with hi0 | hip
                  focus
                    have g0 : decide ((0 : Int) < (i : Int)) = false := by simp; omega
                    have gN : decide (0 < i) = false := by simp; omega
                    clear hi0
                    go_wp2_with fail
                    refine WH.start (S := RcAt (some ap) P) [false, false, false, false, false, false, false, false, false, false, false, false, false, false, false, false, false, false] 18 rfl rfl (by kernel_rfl) (show RcAt (some ap) P wd.drew from RC.below HRd.out (bdrew wd 1)) (fun hSn => ?_); obtain ⟨wS, hwS⟩ : ∃ x, (wd).drew = x := ⟨_, rfl⟩; have HE := Lib.hid (show Below (wd).heap.size (wd) wS from hwS ▸ bdrew wd 1); rw [hwS] at hSn ⊢; clear hwS
                    refine WH.tk 0 ?_; simp only [setL]
                    refine WH.tk 1 ?_; simp only [setL]
                    refine WH.tk 2 ?_; simp only [setL]
                    refine WH.tk 3 ?_; simp only [setL]
                    refine WH.tk 4 ?_; simp only [setL]
                    refine WH.tk 5 ?_; simp only [setL]
                    refine WH.skip 6 _ rfl (by kernel_rfl) (fun _ _ _ h => h) rfl (by assumption) ?_; simp only [setL]
                    refine WH.skip 7 _ rfl (by kernel_rfl) (fun _ _ _ h => h) rfl (by assumption) ?_; simp only [setL]
                    refine WH.skip 8 _ rfl (by kernel_rfl) (fun _ _ _ h => h) rfl (by assumption) ?_; simp only [setL]
                    refine WH.skip 9 _ rfl (by kernel_rfl) (fun _ _ _ h => h) rfl (by assumption) ?_; simp only [setL]
                    refine WH.skip 10 _ rfl (by kernel_rfl) (fun _ _ _ h => h) rfl (by assumption) ?_; simp only [setL]
                    refine WH.skip 11 _ rfl (by kernel_rfl) (fun _ _ _ h => h) rfl (by assumption) ?_; simp only [setL]
                    refine WH.skip 12 _ rfl (by kernel_rfl) (fun _ _ _ h => h) rfl (by assumption) ?_; simp only [setL]
                    refine WH.skip 13 _ rfl (by kernel_rfl) (fun _ _ _ h => h) rfl (by assumption) ?_; simp only [setL]
                    refine WH.skip 14 _ rfl (by kernel_rfl) (fun _ _ _ h => h) rfl (by assumption) ?_; simp only [setL]
                    refine WH.skip 15 _ rfl (by kernel_rfl) (fun _ _ _ h => h) rfl (by assumption) ?_; simp only [setL]
                    refine WH.tk 16 ?_; simp only [setL]
                    refine WH.tk 17 ?_; simp only [setL]
                    refine WH.done (by kernel_rfl) ?_
                  rotate_left
                  focus
                    obtain ⟨i', hii⟩ : ∃ i', i = i' + 1 := ⟨i - 1, by omega⟩
                    have Hii := Lib.hid hii
                    have Hi9 := Lib.hid (show i < 100000 by omega)
                    have g0 : decide ((0 : Int) < (i : Int)) = true := by simp; omega
                    have gN : decide (0 < i) = true := by simp; omega
                    have r0 : (0 : Int) ≤ (i' : Int) := by omega
                    have r1 : (i' : Int) < (pn : Int) := by omega
                    obtain ⟨sp, hsp⟩ : ∃ sp, P[i']? = some sp := ⟨_, List.getElem?_eq_getElem (by rw [Hpn.out]; omega)⟩
                    have HSp := Lib.hid hsp
                    have b1 : Op.bytesLess sp.toList s.toList = true := by
                      have h1 := List.pairwise_iff_getElem.1 HPr.out i' i (List.getElem?_eq_some_iff.1 hsp).1 (List.getElem?_eq_some_iff.1 HSs.out).1 (by omega)
                      rwa [(List.getElem?_eq_some_iff.1 hsp).2, (List.getElem?_eq_some_iff.1 HSs.out).2] at h1
                    clear hsp hii hip
                    go_wp2_with fail
                    refine WH.start (S := RcAt (some ap) P) [false, false, false, false, false, false, false, false, false, false, false, false, false, false, false, false, false, false] 18 rfl rfl (by kernel_rfl) (show RcAt (some ap) P wd.drew from RC.below HRd.out (bdrew wd 1)) (fun hSn => ?_); obtain ⟨wS, hwS⟩ : ∃ x, (wd).drew = x := ⟨_, rfl⟩; have HE := Lib.hid (show Below (wd).heap.size (wd) wS from hwS ▸ bdrew wd 1); rw [hwS] at hSn ⊢; clear hwS
                    refine WH.tk 0 ?_; simp only [setL]
                    refine WH.tk 1 ?_; simp only [setL]
                    refine WH.tk 2 ?_; simp only [setL]
                    refine WH.tk 3 ?_; simp only [setL]
                    refine WH.tk 4 ?_; simp only [setL]
                    refine WH.tk 5 ?_; simp only [setL]
                    refine WH.tk 6 ?_; simp only [setL]
                    refine WH.tk 7 ?_; simp only [setL]
                    refine WH.tv 8 rfl (fun w' hSw => exec_sub25 _ _ _ _ rfl i i' rfl rfl Hii.out (by have := Hi9.out; omega)) ?_; simp only [setL]
                    refine WH.tk 9 ?_; simp only [setL]
                    refine WH.tv 10 rfl (fun w' hSw => exec_load_cell _ _ rfl (ap.add i') rfl (.string sp) (rc_at hSw HSp.out) _ Tryz.underlying9 rfl) ?_; simp only [setL]
                    refine WH.tk 11 ?_; simp only [setL]
                    refine WH.tk 12 ?_; simp only [setL]
                    refine WH.tk 13 ?_; simp only [setL]
                    refine WH.tv 14 rfl (fun w' hSw => exec_load_cell _ _ rfl (ap.add i) rfl (.string s) (rc_at hSw HSs.out) _ Tryz.underlying9 rfl) ?_; simp only [setL]
                    refine WH.tk 15 ?_; simp only [setL]
                    refine WH.tk 16 ?_; simp only [setL]
                    refine WH.tk 17 ?_; simp only [setL]
                    refine WH.done (by kernel_rfl) ?_
                  all_goals
                    have Fe := Lib.hid (bt Fd.out HE.out)
                    go_wp2_with fail
                    go_roundw
                    case rel => exact ⟨i + 1, by omega, by go_num, Fe⟩
                    case measure => simp [intOf]; omega
            · obtain rfl : i = pn := by omega
              have d2 : decide ((i : Int) < (i : Int)) = false := by simp
              have hle := HPn.out
              have d3 : decide ((i : Int) ≤ (N : Int)) = true := by simp; omega
              have dN : decide (i ≤ N) = true := by simp; omega
              have Ee := Lib.hid (bt E6.out F.out)
              clear hle
              go_wp2_with fail
              refine (hw _).mono ?_; rintro e w9 ⟨rfl, hb9⟩
              go_wp2_with fail
              go_ret
              exact ⟨rfl, bt Ee.out hb9⟩

end Go.Proofs.YtkakihbfhmiabaaGreat

/-
  Whatever the argument of TreePaths is, it answers true and leaves it. No condition.
-/
namespace Go.Proofs.YtkakihbfhmiabaaGreat
open Go.ChangeShapes Go.WideShapes Go.ChangeAt Go.RowKit Go.ChangeMaps

set_option maxRecDepth 100000 in
theorem treePaths_lifted (os : Os) (started : os.Started) (H : Type) (enc : TypeId × Value → H) :
    ReturnsInHanded {} Tryz.checked os 5 .any (Rows.treePathsSpec.pre6 enc Tryz.prog Tryz.f5 Rows.treePathsRow.domain false) (Rows.treePathsSpec.post enc Tryz.prog Tryz.f5 false true false false) := by
  refine returnsInHanded_of_change (C := Tryz.checked) Tryz.own started (by kernel_rfl) Tryz.func5 (ChangeSpec.witness6 (enc := enc) (C := Tryz.checked) false ⟨#[], #[.slice none 0 0], []⟩ 8 (by kernel_rfl) (by kernel_rfl) (by kernel_rfl) (by kernel_rfl)) ?_; intro W base args ds gs before hval0 hW hcnd _; have hval : ∀ (j : Nat) t v, Tryz.f5.params[j]? = some t → args[j]? = some v → Value.okWide Tryz.prog W .any base t v := hval0; have hW' := hW; obtain ⟨p, q, hA0, hV, rfl, hfz, hnd⟩ := hW; have hA : DataW.TrodAll enc Tryz.prog W 0 (fun _ => true) true Tryz.f5.params.toList args.toList ds p := hA0; rw [Tryz.params5] at hA hval; obtain ⟨rfl, rfl⟩ := trodVars_none hV; clear hA0 hval0
  obtain ⟨v0, d0, rfl, rfl, h0⟩ := trodAll_one hA
  obtain ⟨A, n, c, L, rfl, hn, hc, hm, hL, hr⟩ := open_blocks Tryz.underlying38 Tryz.underlying81 Tryz.underlying5 (by kernel_rfl) (by kernel_rfl) (hval 0 _ v0 rfl rfl) h0
  refine (treePaths_any A n c L hn hL (Nat.le_trans hc hm) W hr).mono fun e W' ⟨he, hb⟩ => ?_
  subst he
  exact ⟨_, rfl, law_post Tryz.laidOut (readable_all (by kernel_rfl)) rfl rfl Tryz.underlying4 rfl hW' hb⟩

theorem treePaths_holds : Rows.TreePathsSaid := OpenClaim.holds_of_wide 5 Tryz.f5 rfl rfl rfl rfl rfl rfl rfl ⟨rfl, rfl, rfl, rfl, rfl⟩ rfl rfl rfl rfl rfl (by kernel_rfl) Tryz.func5 (by kernel_rfl) (of_decide_eq_true (by kernel_rfl)) (by unfold Func.isWrapper; first | (rw [if_pos (by decide +kernel)]; kernel_rfl) | (rw [if_neg (by decide +kernel)]; exact ⟨rfl, rfl⟩)) (fun os started H enc _ => treePaths_lifted os started H enc)

end Go.Proofs.YtkakihbfhmiabaaGreat
