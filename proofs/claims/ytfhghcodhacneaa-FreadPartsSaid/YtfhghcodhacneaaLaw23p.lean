/-
  Layer 23: the walk of FreadParts.
-/
import Derived.Test.YtfhghcodhacneaaLaw23w
import Derived.Test.YtfhghcodhacneaaAppY
import Derived.Test.YtfhghcodhacneaaVw0
import Derived.Test.YtfhghcodhacneaaVw2
namespace Go.Proofs.Ytfhghcodhacneaa
open Go.RowKit
set_option maxRecDepth 10000

set_option maxHeartbeats 6400000 in
theorem freadParts_any (A : Option Addr) (n cap : Nat) (L : List (List UInt8)) (hn : L.length = n) (hL : Bks L) (hm : n ≤ maxLen) (ino : Int) (cut : Nat) (hcut : cut < 65536) (w : World) (hr : RK w A L) :
    Calls Try.prog 4 #[.slice A n cap, .int .i64 ino, .int .u16 (cut : Int)] w fun e w' => e = .returned (.bool true) ∧ Below w.heap.size w w' := by
  unfold maxLen at hm
  have Hn := Lib.hid hn
  have Hr := Lib.hid hr
  have HL := Lib.hid hL
  clear hn hr hL
  by_cases hbig : 60 < n
  · have d0 : decide ((60 : Int) < (n : Int)) = true := by simp; omega
    clear hbig
    go_enter Try.func4, Try.ntmps4
    go_wp2_with fail
    refine (works23_any _).mono ?_; rintro e w1 ⟨rfl, hb1⟩
    go_wp2_with fail
    go_ret
    exact ⟨rfl, hb1⟩
  · have d0 : decide ((60 : Int) < (n : Int)) = false := by simp; omega
    have hn6 : n ≤ 60 := by omega
    have HTL := Lib.hid (fun no => bkV_len HL.out no)
    have HT := Lib.hid (fun (w : World) h => to21_any A n cap L Hn.out HL.out (by omega) w h)
    have HC1 := Lib.hid (fun A c w h => vof_any A n c L Hn.out HL.out (by omega) w h)
    clear hbig
    go_enter Try.func4, Try.ntmps4
    go_wp2_with fail
    refine (HT.out _ Hr.out).mono ?_; rintro e w1 ⟨v1, rfl, hv1, hb1⟩
    obtain ⟨A1, c1, rfl, hc1, hm1, hr1⟩ := hv1.read
    rw [Hn.out]
    have HR1 := Lib.hid hr1
    have E1 := Lib.hid hb1
    clear hv1 hc1 hm1 hr1 hb1 HT
    go_wp2_with fail
    refine (HC1.out A1 c1 _ HR1.out).mono ?_; rintro e w2 ⟨f, rfl, hb2, hf2⟩
    have HF2 := Lib.hid hf2
    have E2 := Lib.hid (bt E1.out hb2)
    clear hb2 hf2 HR1 E1 HC1
    go_wp2_with (refine wpList_alloc_row rfl _ rfl _ Try.viewZero ?_)
    apply Stop.go; intro w3 Hg3 Hb3
    go_wp2_with (refine wpList_store_arr rfl _ _ _ rfl _ (vval (layV L) f) rfl rfl _ _ Hb3.out Try.viewSize rfl (FV.one HF2.out) ?_)
    apply Stop.go; intro w7 Ho4 Hb7
    have D4 := Lib.hid (bonly Hg3.out.1 Ho4.out (Nat.le_refl _))
    have HF7 := Lib.hid (HF2.out.below D4.out)
    have E7 := Lib.hid (bt E2.out D4.out)
    generalize w2.heap.size = g2 at *
    clear Hg3 Hb3 Ho4 D4 HF2 E2
    cases hlw : layW L with
    | none =>
      have e13 : okSup (none : Option Lay14).isSome = 13 := rfl
      rw [e13]
      clear e13 hlw HF7 Hb7
      go_wp2_with fail
      refine (works23_any _).mono ?_; rintro e w8 ⟨rfl, hb8⟩
      go_wp2_with fail
      go_ret
      exact ⟨rfl, bt E7.out hb8⟩
    | some l =>
      have Hlv := Lib.hid (layV_some hlw)
      rw [Hlv.out] at HF7 Hb7
      have e13 : okSup (some l).isSome = 0 := rfl
      rw [e13]
      have HCI := Lib.hid (fun w h => vinode_any l f (bkV L) HTL.out ino w h)
      have HXL := Lib.hid (vIno_len l (bkV L) ino)
      have HfL : Hid (freeI.length = 11) := Lib.hid rfl
      generalize vIno l (bkV L) ino = X at *
      obtain ⟨S, HS⟩ : ∃ S, Hid (sizeR X = S) := ⟨_, Lib.hid rfl⟩
      have hS : S ≤ 34304 := by rw [← HS.out]; exact sizeR_le X
      have HCS := Lib.hid (fun w => fsize_any X HXL.out w)
      have HCA := Lib.hid (fun w h => fallR_any l f (bkV L) HTL.out X HXL.out w h)
      rw [HS.out] at HCS HCA
      obtain ⟨k, Hk⟩ : ∃ k, Hid (cut % (S + 1) = k) := ⟨_, Lib.hid rfl⟩
      have hk : k ≤ S := by have := Hk.out; have := Nat.mod_lt cut (show 0 < S + 1 by omega); omega
      have HC0 := Lib.hid (fun w h => fread_any l f (bkV L) HTL.out X HXL.out 0 (k : Int) (by omega) (by omega) w h)
      have HC2 := Lib.hid (fun w h => fread_any l f (bkV L) HTL.out X HXL.out (k : Int) 34304 (by omega) (by omega) w h)
      have e0 : readR l (bkV L) X 0 (k : Int) = segR l (bkV L) X 0 k := by
        unfold readR
        rw [if_neg (by omega), HS.out]
        congr 1
        omega
      have e2 : readR l (bkV L) X (k : Int) 34304 = segR l (bkV L) X (0 + k) (S - k) := by
        unfold readR
        rw [if_neg (by omega), HS.out, Nat.zero_add]
        congr 1
        omega
      rw [e0] at HC0
      rw [e2] at HC2
      have HAd := Lib.hid (show segR l (bkV L) X 0 k ++ segR l (bkV L) X (0 + k) (S - k) = segR l (bkV L) X 0 S by rw [segR_add, show k + (S - k) = S from by omega])
      have HL0 := Lib.hid (show (segR l (bkV L) X 0 k).length = k from segR_len _ _)
      have HL1 := Lib.hid (show (segR l (bkV L) X (0 + k) (S - k)).length = S - k from segR_len _ _)
      have HLA := Lib.hid (show (segR l (bkV L) X 0 S).length = S from segR_len _ _)
      generalize segR l (bkV L) X 0 S = all at *
      generalize segR l (bkV L) X 0 k = ra at *
      generalize segR l (bkV L) X (0 + k) (S - k) = rb at *
      generalize bkV L = T at *
      clear Hlv e13 hlw e0 e2 HS HTL
      go_wp2_with (refine wpList_load_blk rfl _ _ rfl _ rfl _ _ Hb7.out _ Try.underlying34 rfl Try.viewSize ?_)
      refine (HCI.out _ HF7.out).mono ?_; rintro e w8 ⟨rfl, hb8⟩
      have HV8 := Lib.hid (Hb7.out.ext hb8)
      have HF8 := Lib.hid (HF7.out.below hb8)
      have E8 := Lib.hid (bt E7.out hb8)
      clear hb8 HF7 Hb7 E7 HCI
      go_wp2_with (refine wpList_alloc_row rfl _ rfl _ Try.inoZero ?_)
      apply Stop.go; intro w9 Hg9 Hb9
      go_wp2_with (refine wpList_store_arr rfl _ _ _ rfl _ _ rfl rfl _ _ Hb9.out (Try.inoFits HXL.out) (by simp only [icells_size, HXL.out, HfL.out]) (oneCell_icells _) ?_)
      apply Stop.go; intro wa Hoa HIa
      have D := Lib.hid (bonly Hg9.out.1 Hoa.out (Nat.le_refl _))
      have HVa := Lib.hid (HV8.out.ext D.out)
      have HFa := Lib.hid (HF8.out.below D.out)
      have Ea := Lib.hid (bt E8.out D.out)
      generalize w8.heap.size = gi at *
      clear Hg9 Hb9 Hoa D HV8 HF8 E8
      go_wp2_with (first | refine wpList_load_blk rfl _ _ rfl _ rfl _ _ HVa.out _ Try.underlying34 rfl Try.viewSize ?_ | refine wpList_load_blk rfl _ _ rfl _ rfl _ _ HIa.out _ Try.underlying42 rfl (Try.inoFits HXL.out) ?_)
      refine (HCA.out _ HFa.out).mono ?_; rintro e wb ⟨A2, n2, c2, rfl, h1, h2, h3, h4, hbb⟩
      obtain rfl : S = n2 := HLA.out.symm.trans h1
      have HRA := Lib.hid h4
      have HVb := Lib.hid (HVa.out.ext hbb)
      have HIb := Lib.hid (HIa.out.ext hbb)
      have HFb := Lib.hid (HFa.out.below hbb)
      have Eb := Lib.hid (bt Ea.out hbb)
      clear h1 h2 h3 h4 hbb HVa HIa HFa Ea HCA
      go_wp2_with (refine wpList_load_blk rfl _ _ rfl _ rfl _ _ HIb.out _ Try.underlying42 rfl (Try.inoFits HXL.out) ?_)
      refine (HCS.out _).mono ?_; rintro e wc ⟨rfl, hbc⟩
      have HRA := Lib.hid (HRA.out.below hbc)
      have HVc := Lib.hid (HVb.out.ext hbc)
      have HIc := Lib.hid (HIb.out.ext hbc)
      have HFc := Lib.hid (HFb.out.below hbc)
      have Ec := Lib.hid (bt Eb.out hbc)
      clear hbc HVb HIb HFb Eb
      have hwS : IntKind.i64.wrap ((S : Int) + 1) = ((S + 1 : Nat) : Int) := IntWalk.i64_in _ (by omega)
      go_wp2_with (refine wpList_rem_nat rfl _ _ _ _ rfl cut (S + 1) rfl rfl (by omega) (by omega) ?_; rw [Hk.out])
      refine WH.start (S := fun w' : World => Blk w' g2 34 (vval l f) ∧ FV w' l f T ∧ Blk w' gi 42 (icells X)) [false, false, false, false, false, false, false, false, false, false] 10 rfl rfl (by kernel_rfl) ⟨HVc.out.ext (bdrew wc 1), HFc.out.below (bdrew wc 1), HIc.out.ext (bdrew wc 1)⟩ (fun hSn => ?_); obtain ⟨wS, hwS⟩ : ∃ x, (wc).drew = x := ⟨_, rfl⟩; have HE := Lib.hid (show Below (wc).heap.size (wc) wS from hwS ▸ bdrew wc 1); rw [hwS] at hSn ⊢; clear hwS
      refine WH.tv 0 rfl (fun w' hSw => exec_load_blk _ _ rfl _ rfl _ _ (hSw.1) _ (Try.underlying34) rfl (Try.viewSize)) ?_; simp only [setL]
      refine WH.tv 1 rfl (fun w' hSw => exec_load_blk _ _ rfl _ rfl _ _ (hSw.2.2) _ (Try.underlying42) rfl (Try.inoFits HXL.out)) ?_; simp only [setL]
      refine WH.tk 2 ?_; simp only [setL]
      refine WH.tv 4 rfl (fun w' hSw => exec_load_blk _ _ rfl _ rfl _ _ (hSw.1) _ (Try.underlying34) rfl (Try.viewSize)) ?_; simp only [setL]
      refine WH.tv 5 rfl (fun w' hSw => exec_load_blk _ _ rfl _ rfl _ _ (hSw.2.2) _ (Try.underlying42) rfl (Try.inoFits HXL.out)) ?_; simp only [setL]
      refine WH.tk 6 ?_; simp only [setL]
      refine WH.only 3 _ rfl (by kernel_rfl) rfl (fun K hK => ?_)
      go_simp; refine (HC0.out _ hSn.2.1).mono ?_; rintro e wd ⟨A3, n3, c3, rfl, h1, h2, h3, h4, hbd⟩; go_simp
      obtain rfl : k = n3 := HL0.out.symm.trans h1
      have HR3 := Lib.hid h4
      have HE := Lib.hid (bt HE.out hbd)
      clear h1 h2 h3 h4
      have hSn := And.intro (hSn.1.ext hbd) (And.intro (hSn.2.1.below hbd) (hSn.2.2.ext hbd)); refine hK _ _ hSn ?_; clear hK; clear K; simp only [setL]
      refine WH.only 7 _ rfl (by kernel_rfl) rfl (fun K hK => ?_)
      go_simp; refine (HC2.out _ hSn.2.1).mono ?_; rintro e we ⟨A4, n4, c4, rfl, h1, h2, h3, h4, hbe⟩; go_simp
      obtain rfl : S - k = n4 := HL1.out.symm.trans h1
      have HR4 := Lib.hid h4
      have HR3 := Lib.hid (HR3.out.below hbe)
      have HE := Lib.hid (bt HE.out hbe)
      clear h1 h2 h3 h4
      have hSn := And.intro (hSn.1.ext hbe) (And.intro (hSn.2.1.below hbe) (hSn.2.2.ext hbe)); refine hK _ _ hSn ?_; clear hK; clear K; simp only [setL]
      refine WH.tk 8 ?_; simp only [setL]
      refine WH.tk 9 ?_; simp only [setL]
      refine WH.done (by kernel_rfl) ?_
      have HIe := Lib.hid hSn.2.2
      have HRA := Lib.hid (HRA.out.below HE.out)
      have Ee := Lib.hid (bt Ec.out HE.out)
      clear hSn HE hbd hbe HVc HFc HIc Ec HC0 HC2
      go_wp2_with (refine wpList_load_blk rfl _ _ rfl _ rfl _ _ HIe.out _ Try.underlying42 rfl (Try.inoFits HXL.out) ?_)
      refine (HCS.out _).mono ?_; rintro e wf ⟨rfl, hbf⟩
      have HRA := Lib.hid (HRA.out.below hbf)
      have HR3 := Lib.hid (HR3.out.below hbf)
      have HR4 := Lib.hid (HR4.out.below hbf)
      have Ef := Lib.hid (bt Ee.out hbf)
      clear hbf HIe Ee HCS HXL HfL
      have hd0 : Below wf.heap.size wf (wf.alloc (.cells #[] 5)) := (Below.refl _ _).alloc (Nat.le_refl _) _
      have HO0 := Lib.hid (OwnB.empty wf 5)
      have HR30 := Lib.hid (HR3.out.below hd0)
      have HD0 := Lib.hid hd0
      have Z0 := Lib.hid hd0.size
      clear hd0 HR3
      go_wp2_with (at_builtin; refine wpList_append_ownY rfl _ _ _ _ rfl Try.underlying44 Try.byteInfo wf.heap.size _ [] rfl HO0.out Z0.out _ _ _ ra rfl HL0.out HR30.out (by simp; omega) ?_)
      apply Stop.go; intro v5 wg HO5 HB5
      have D5 := Lib.hid (HD0.out.trans HB5.out)
      have HR45 := Lib.hid (HR4.out.below D5.out)
      have Z5 := Lib.hid D5.out.size
      clear HO0 HR30 HD0 Z0 HB5 HR4
      go_wp2_with (at_builtin; refine wpList_append_ownY rfl _ _ _ _ rfl Try.underlying44 Try.byteInfo wf.heap.size _ ra rfl HO5.out Z5.out _ _ _ rb rfl HL1.out HR45.out (by have := HL0.out; omega) ?_)
      apply Stop.go; intro v6 wh HO6 HB6
      rw [HAd.out] at HO6
      have D6 := Lib.hid (D5.out.trans HB6.out)
      have HRA6 := Lib.hid (HRA.out.below D6.out)
      obtain ⟨A6, c6, rfl, hc6, hm6, hr6⟩ := HO6.out.read
      rw [HLA.out] at hc6 ⊢
      have HR6 := Lib.hid hr6
      have Eh := Lib.hid (bt Ef.out D6.out)
      clear HO5 HR45 Z5 HO6 HB6 HRA D5 D6 hr6 Ef
      go_wp2_with fail
      refine (same_any A6 S c6 all HLA.out A2 S c2 all HLA.out (by unfold maxLen; omega) (by unfold maxLen; omega) _ HR6.out HRA6.out).mono ?_; rintro e wi ⟨rfl, mi, rfl⟩
      rw [show decide (all = all) = true by simp]
      clear HR6 HRA6
      go_wp2_with fail
      refine (works23_any _).mono ?_; rintro e wj ⟨rfl, hbj⟩
      go_wp2_with fail
      go_ret
      exact ⟨rfl, bt (bt Eh.out (bdrew wh mi)) hbj⟩

end Go.Proofs.Ytfhghcodhacneaa
