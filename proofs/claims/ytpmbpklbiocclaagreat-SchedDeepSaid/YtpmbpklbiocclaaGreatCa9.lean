/-
  The program's: Put, walked.
-/
import Derived.Test.YtpmbpklbiocclaaGreatGrAM
namespace Go.Proofs.YtpmbpklbiocclaaGreat
open Go.RowKit

def CS.putBad (S : CS) (p : Pt) (needs : List Int) : Bool := !p.right || !needs.all fun x => madeB S.last x
def CS.putE (S : CS) (no : Int) (p : Pt) (needs : List Int) : Int := if S.putBad p needs then 1 else S.knE no
def RetPut (w : World) (ro : Nat → Option Rl) (A : CA) (S : CS) (no : Int) (p : Pt) (needs : List Int) (e : Ending) (w' : World) : Prop :=
  (S.putE no p needs ≠ 0 ∧ e = .returned (.tuple #[.int .i64 0, .int .i64 (S.putE no p needs)]) ∧ HP w' ro A S ∧ Tr ro ro w w') ∨
  (S.putE no p needs = 0 ∧ ∃ ro' A', e = .returned (.tuple #[.int .i64 (S.last + 1), .int .i64 0]) ∧ HP w' ro' A' ((S.known no).put no p needs) ∧ Tr ro ro' w w' ∧ A.like A')
theorem RB.tr {w w' : World} {ro ro' : Nat → Option Rl} {Ad : Option Addr} {l : List UInt8} (h : RB w Ad l) (k : Tr ro ro' w w') (hn : ∀ ad, Ad = some ad → ro ad.block = none) : RB w' Ad l := fun j hj => by
  obtain ⟨ad, e, hc⟩ := h j hj
  refine ⟨ad, e, ?_⟩
  have hb : (ad.add j).block = ad.block := block_of_add ad j
  have hlt := block_lt_of_cell hc
  rw [hb] at hlt
  rw [← hc]
  unfold World.cell?
  rw [hb, (k.keep ad.block hlt (hn ad e)).2]
theorem PV.tr {w w' : World} {ro ro' : Nat → Option Rl} {p : Pt} {Ad : Option Addr} {n c : Nat} (h : PV w p Ad n c) (k : Tr ro ro' w w') (hn : ∀ ad, Ad = some ad → ro ad.block = none) : PV w' p Ad n c := ⟨h.lo, h.hi, h.len, h.cap, h.max, h.read.tr k hn⟩
theorem CS.known_last (S : CS) (no : Int) : (S.known no).last = S.last := by unfold CS.known; split <;> rfl
theorem CS.known_lf (S : CS) (no : Int) : (S.known no).lf = S.lf := by unfold CS.known; split <;> rfl
section
variable {w : World} {ro : Nat → Option Rl} {A : CA} {S : CS}
set_option maxRecDepth 100000 in
set_option maxHeartbeats 8000000 in
theorem put_any (h : HP w ro A S) (hB : S.Bd) (no : Int) (hlo : -9223372036854775808 ≤ no) (hhi : no < 9223372036854775808) (hrd : S.dev.rd < 4611686018427387904) (hnb : A.nb < 1000000) (hnl : A.nl < 1000000)
    (p : Pt) (Ap : Option Addr) (np cp : Nat) (hp : PV w p Ap np cp) (An : Option Addr) (nn cn : Nat) (needs : List Int) (hn : needs.length = nn) (hm : nn ≤ 50000) (hnr : RC w An (ivals needs)) (hbn : ∀ x ∈ needs, -9223372036854775808 ≤ x ∧ x < 9223372036854775808) (hfp : ∀ ad, Ap = some ad → ro ad.block = none) (hfn : 0 < nn → ∀ ad, An = some ad → ro ad.block = none) :
    Calls Tryz.prog 21 #[ptr A.ca, .int .i64 no, .agg #[.int .i64 p.at_, .slice Ap np cp], .slice An nn cn] w (RetPut w ro A S no p needs) := by
  have H := Lib.hid h
  have HB := Lib.hid hB
  have Hp := Lib.hid hp
  have Hn := Lib.hid hn
  have Hr := Lib.hid hnr
  have Hbn := Lib.hid hbn
  have Hfp := Lib.hid hfp
  have Hfn := Lib.hid hfn
  have Hf0 : Hid (0 < (ivals needs).length → ∀ ad, An = some ad → ro ad.block = none) := Lib.hid (fun h => Hfn.out (by rw [ivals_len, Hn.out] at h; exact h))
  clear h hB hp hn hnr hbn hfp hfn
  unfold ptr
  go_enter Tryz.func21, Tryz.ntmps21
  go_wp2_with (refine wpList_box_ptr rfl _ _ rfl _ rfl ?_)
  apply Stop.go; intro w1 Hg1 Hb1
  go_wp2_with (refine wpList_box_row rfl _ _ rfl _ rfl ?_)
  apply Stop.go; intro w2 Hg2 Hb2
  have E2 := Lib.hid (bt Hg1.out.1 Hg2.out.1)
  have H2 := Lib.hid (H.out.ext E2.out)
  have B1 := Lib.hid (Hb1.out.ext Hg2.out.1)
  have n1 : ro w.heap.size = none := H.out.none_ge (Nat.le_refl _)
  have n2 : ro w1.heap.size = none := H.out.none_ge Hg1.out.1.size
  have N1 := Lib.hid n1
  have N2 := Lib.hid n2
  have hne : w1.heap.size ≠ w.heap.size := by have := Hg1.out.2; omega
  have T2 := Lib.hid (Tr.of_below ro E2.out)
  clear n1 n2
  go_wp2_with (refine wpList_load_blk rfl _ _ rfl _ rfl _ _ Hb2.out _ Tryz.underlying64 rfl Tryz.patSize ?_)
  refine (check_any p Ap np cp _ (Hp.out.below E2.out)).mono ?_; rintro e w3 ⟨rfl, hb3⟩
  have H3 := Lib.hid (H2.out.ext hb3)
  have T3 := Lib.hid (T2.out.bel hb3)
  have B1 := Lib.hid (B1.out.ext hb3)
  have B2 := Lib.hid (Hb2.out.ext hb3)
  have E3 := Lib.hid (bt E2.out hb3)
  clear hb3
  cases hpr : p.right
  · have hbad : S.putE no p needs = 1 := by unfold CS.putE CS.putBad; rw [hpr]; rfl
    have HX := Lib.hid hbad
    have hc : checkI p = 2 := by unfold checkI; rw [hpr]; rfl
    rw [hc]
    clear hpr hbad hc
    go_wp2_with fail
    go_ret2
    exact Or.inl ⟨by rw [HX.out]; omega, by rw [HX.out]; rfl, H3.out, T3.out⟩
  · have hc : checkI p = 0 := by unfold checkI; rw [hpr]; rfl
    have HPR := Lib.hid hpr
    rw [hc]
    clear hpr hc
    go_wp2_with fail
    refine (conp_any H3.out w.heap.size _ B1.out An nn cn needs Hn.out (by omega) (Hr.out.below E3.out)).mono ?_; rintro e w4 ⟨rfl, rfl⟩
    cases hall : (needs.all fun x => madeB S.last x)
    · have hbad : S.putE no p needs = 1 := by unfold CS.putE CS.putBad; rw [hall, Bool.or_comm]; rfl
      have HX := Lib.hid hbad
      clear hall hbad
      go_wp2_with fail
      go_ret2
      exact Or.inl ⟨by rw [HX.out]; omega, by rw [HX.out]; rfl, H3.out, T3.out⟩
    · have hbad : S.putE no p needs = S.knE no := by unfold CS.putE CS.putBad; rw [hall, HPR.out]; rfl
      have HX := Lib.hid hbad
      have HALL := Lib.hid hall
      clear hall hbad
      have c1 : w4.cell? ⟨w.heap.size, 0, none⟩ = some (.pointer (some ⟨A.ca, 0, none⟩)) := B1.out.cell 0
      go_wp2_with fail
      refine (known2_any H3.out no hlo hhi hrd hnb).mono ?_; rintro e w5 hk5
      rcases hk5 with ⟨hE, rfl, h5, t5⟩ | ⟨hE, ro5, A5, rfl, h5, t5, hlk, hnl5⟩
      · have d0 : (S.knE no != 0) = true := by simpa using hE
        have HE := Lib.hid hE
        have H5 := Lib.hid h5
        have T5 := Lib.hid (T3.out.trans t5)
        clear hE h5 t5
        go_wp2_with fail
        go_ret2
        exact Or.inl ⟨by rw [HX.out]; exact HE.out, by rw [HX.out]; rfl, H5.out, T5.out⟩
      · have HE := Lib.hid hE
        have H5 := Lib.hid h5
        have T5 := Lib.hid (T3.out.trans t5)
        have LK := Lib.hid hlk
        have NL := Lib.hid hnl5
        have M1 := Lib.hid (t5.keep _ B1.out.lt N1.out).1
        have M2 := Lib.hid (t5.keep _ B2.out.lt N2.out).1
        have B1 := Lib.hid (B1.out.tr t5 N1.out)
        have B2 := Lib.hid (B2.out.tr t5 N2.out)
        have B5 := Lib.hid (HB.out.known no)
        have KN := Lib.hid (S.known_kn no)
        have KL := Lib.hid (S.known_last no)
        have KF := Lib.hid (S.known_lf no)
        have PV5 : Hid (PV w5 p Ap np cp) := Lib.hid (Hp.out.tr T5.out Hfp.out)
        have RC5 : Hid (RC w5 An (ivals needs)) := Lib.hid (Hr.out.tr0 T5.out Hf0.out)
        clear hE h5 t5 hlk hnl5 c1
        obtain ⟨S5, hS5⟩ : ∃ S5, S.known no = S5 := ⟨_, rfl⟩
        rw [hS5] at H5 B5 KN KL KF
        have HS5 := Lib.hid hS5
        clear hS5
        have hca : A5.ca = A.ca := LK.out.ca
        have CA5 := Lib.hid hca
        have c1 : w5.cell? ⟨w.heap.size, 0, none⟩ = some (.pointer (some ⟨A5.ca, 0, none⟩)) := by rw [CA5.out]; exact B1.out.cell 0
        have c2 : w5.cell? ⟨A5.ca, 3, none⟩ = some (.int .i64 S5.last) := H5.out.cc.cell 3
        have hlw : IntKind.i64.wrap (S5.last + 1) = S5.last + 1 := by have := B5.out.la; rw [IntKind.wrap_i64]; omega
        have C5 := Lib.hid H5.out.cc
        clear hca
        unfold ptr
        go_wp2_with (refine wpList_store_cell rfl _ _ _ rfl Tryz.intSize A5.ca 3 rfl _ rfl rfl rfl _ _ C5.out (show 3 < 5 by decide) ?_)
        apply Stop.go; intro w6 Ho6 Hb6
        have H6 := Lib.hid (H5.out.setC (S5.last + 1) S5.ended Ho6.out Hb6.out)
        have T6 := Lib.hid (T5.out.only Ho6.out (by rw [(H5.out.asn .ca).1]; simp))
        have o6 : Tr ro5 ro5 w5 w6 := Tr.of_only Ho6.out (by rw [(H5.out.asn .ca).1]; simp)
        have B1 := Lib.hid (B1.out.tr o6 M1.out)
        have B2 := Lib.hid (B2.out.tr o6 M2.out)
        have hdl : 1 ≤ p.data.length ∧ p.data.length ≤ 256 := by have := Pt.right_iff.1 HPR.out; omega
        have hnpl := Hp.out.len
        have hcp := Hp.out.cap
        have hcm := Hp.out.max
        have RB6 := Lib.hid ((Hp.out.tr T6.out Hfp.out).read)
        have c1 : w6.cell? ⟨w1.heap.size, 1, none⟩ = some (.slice Ap np cp) := B2.out.cell 1
        clear c2 C5 Ho6 Hb6 o6
        go_wp2_with fail
        refine (cloneB_any Ap np cp p.data hnpl hcp hcm (by omega) _ RB6.out).mono ?_; rintro e w7 ⟨A7, c7, rfl, rb7, q71, q72, q73, hb7⟩
        have Rb7 := Lib.hid rb7
        have Q71 := Lib.hid q71
        have Q72 := Lib.hid q72
        have H7 := Lib.hid (H6.out.ext hb7)
        have T7 := Lib.hid (T6.out.bel hb7)
        have B1 := Lib.hid (B1.out.ext hb7)
        have B2 := Lib.hid (B2.out.ext hb7)
        have Q73 : Hid (∀ ad, A7 = some ad → ro5 ad.block = none ∧ w.heap.size ≤ ad.block ∧ w1.heap.size < ad.block) := Lib.hid (fun ad e => ⟨H6.out.none_ge (q73 ad e), Nat.le_trans T6.out.size (q73 ad e), by
          have h1 := q73 ad e
          have h2 := T6.out.size
          have h3 := (B2.out.lt)
          have h4 := E3.out.size
          have h5 : w1.heap.size < w6.heap.size := (block_lt_of_cell c1)
          omega⟩)
        clear rb7 q71 q72 q73 hb7 c1 RB6 hnpl hcp hcm
        go_wp2_with (refine wpList_store_cell rfl _ _ _ rfl Tryz.sliceByteSize w1.heap.size 1 rfl _ rfl rfl rfl _ _ B2.out (show 1 < 2 by decide) ?_)
        apply Stop.go; intro w8 Ho8 Hb8
        have H8 := Lib.hid (H7.out.only_none Ho8.out M2.out)
        have T8 := Lib.hid (T7.out.new Ho8.out Hg1.out.1.size)
        have B1 : Hid (Blk w8 w.heap.size 26 #[.pointer (some ⟨A5.ca, 0, none⟩)]) := Lib.hid (by rw [CA5.out]; exact B1.out.only Ho8.out hne.symm)
        have B2 : Hid (Blk w8 w1.heap.size 64 #[.int .i64 p.at_, .slice A7 np c7]) := Lib.hid Hb8.out
        have Rb8 : Hid (RB w8 A7 p.data) := Lib.hid (RB.same Rb7.out fun _ ad e => Ho8.out.block _ (Nat.ne_of_gt (Q73.out ad e).2.2))
        go_wp2_with fail
        refine WH.start (S := fun w' : World => Blk w' w.heap.size 26 #[.pointer (some ⟨A5.ca, 0, none⟩)] ∧ Blk w' w1.heap.size 64 #[.int .i64 p.at_, .slice A7 np c7] ∧ Blk w' A5.ca 98 (ccells A5 { S5 with last := S5.last + 1 })) [false, false, false, false, false, false, false, false, false, false, false, false, false, false, false] 15 rfl rfl (by kernel_rfl) ⟨B1.out.ext (bdrew w8 1), B2.out.ext (bdrew w8 1), (H8.out.drew 1).cc⟩ (fun hSn => ?_)
        obtain ⟨w9, hw9⟩ : ∃ x, w8.drew = x := ⟨_, rfl⟩
        have H9 := Lib.hid (H8.out.drew 1)
        have T9 := Lib.hid (T8.out.bel (bdrew w8 1))
        have Rb9 := Lib.hid (Rb8.out.below (bdrew w8 1))
        rw [show w8.drewN 1 = w9 from hw9] at H9 T9 Rb9
        rw [hw9] at hSn ⊢
        clear hw9 Ho8 Hb8 H7 H8 T7 T8 Rb7 Rb8 B1 B2
        refine WH.tv 0 rfl (fun w' hSw => exec_load_cell _ _ rfl _ rfl (.pointer (some ⟨A5.ca, 0, none⟩)) (hSw.1.cell 0) _ (Tryz.underlying26) rfl) ?_; simp only [setL]
        refine WH.tk 1 ?_; simp only [setL]
        refine WH.tv 2 rfl (fun w' hSw => exec_load_cell _ _ rfl _ rfl (.pointer (some ⟨A5.ca, 0, none⟩)) (hSw.1.cell 0) _ (Tryz.underlying26) rfl) ?_; simp only [setL]
        refine WH.tk 3 ?_; simp only [setL]
        refine WH.tk 4 ?_; simp only [setL]
        refine WH.tv 5 rfl (fun w' hSw => exec_load_cell _ _ rfl _ rfl (.int .i64 (S5.last + 1)) (hSw.2.2.cell 3) _ (Tryz.underlying3) rfl) ?_; simp only [setL]
        refine WH.tk 6 ?_; simp only [setL]
        refine WH.tv 7 rfl (fun w' hSw => exec_load_blk _ _ rfl _ rfl _ _ (hSw.2.1) _ (Tryz.underlying64) rfl (Tryz.patSize)) ?_; simp only [setL]
        refine WH.tv 8 rfl (fun w' hSw => exec_load_cell _ _ rfl _ rfl (.pointer (some ⟨A5.ca, 0, none⟩)) (hSw.1.cell 0) _ (Tryz.underlying26) rfl) ?_; simp only [setL]
        refine WH.tk 9 ?_; simp only [setL]
        have hw19 : w1.heap.size < w9.heap.size := Blk.lt hSn.2.1
        refine WH.only 10 _ rfl (by kernel_rfl) rfl (fun K hK => ?_); go_simp; refine (still_any H9.out An nn cn needs Hn.out (by omega) Hbn.out (Hr.out.tr0 T9.out Hf0.out)).mono ?_; rintro e w10 ⟨v10, rfl, ho10, hb10⟩; go_simp
        obtain ⟨A10, c10, rfl, q101, q102, hr10⟩ := ho10.ints
        have HO10 := Lib.hid ho10
        have Q101 := Lib.hid q101
        have Q102 := Lib.hid q102
        have Hr10 := Lib.hid hr10
        have H10 := Lib.hid (H9.out.ext hb10)
        have T10 := Lib.hid (T9.out.bel hb10)
        have Rb10 := Lib.hid (Rb9.out.below hb10)
        have hS10 : Blk w10 w.heap.size 26 #[.pointer (some ⟨A5.ca, 0, none⟩)] ∧ Blk w10 w1.heap.size 64 #[.int .i64 p.at_, .slice A7 np c7] ∧ Blk w10 A5.ca 98 (ccells A5 { S5 with last := S5.last + 1 }) := ⟨hSn.1.ext hb10, hSn.2.1.ext hb10, H10.out.cc⟩
        clear ho10 q101 q102 hr10 hb10
        have hSn := hS10; refine hK _ _ hSn ?_; clear hK; clear K; simp only [setL]
        refine WH.tk 11 ?_; simp only [setL]
        refine WH.tk 12 ?_; simp only [setL]
        refine WH.only 13 _ rfl (by kernel_rfl) rfl (fun K hK => ?_)
        refine ow_box_row _ _ rfl _ rfl ?_
        apply Stop.go; intro w11 Hg11 Hb11
        obtain ⟨g, hg⟩ : ∃ g, g = w10.heap.size := ⟨_, rfl⟩
        rw [← hg] at Hb11 ⊢
        obtain ⟨sl, hsl⟩ : ∃ sl : Sl, sl = ⟨A7, np, c7, A10, (stillL S5.lf needs).length, c10⟩ := ⟨_, rfl⟩
        have hcg : Blk w11 g 101 (hcells (S5.made no p needs) sl 0 (.slice none 0 0)) := by rw [hsl]; exact Hb11.out
        have H11 := Lib.hid (H10.out.ext Hg11.out.1)
        have T11 := Lib.hid (T10.out.bel Hg11.out.1)
        have hgn : ro5 g = none := by rw [hg]; exact H10.out.none_ge (Nat.le_refl _)
        have hlf : S5.lf (S5.last + 1) = false := by
          cases e : S5.lf (S5.last + 1)
          · rfl
          · have h1 := B5.out.ll _ e
            rw [B5.out.nw] at h1
            cases h1
        have hsz : (stillL S5.lf needs).length ≤ c10 := Q101.out
        have hla := B5.out.la
        have hcv : sl.cv w11 (S5.made no p needs) := by
          rw [hsl]
          refine ⟨?_, ?_, hlo, hhi, ⟨Hp.out.lo, Hp.out.hi, Hp.out.len, Q71.out, Q72.out, Rb10.out.below Hg11.out.1⟩, ?_, hsz, Q102.out, Hr10.out.below Hg11.out.1, fun x hx => Hbn.out x (((stillL_spec S5.lf needs).2 x).1 hx).1⟩
          · show -9223372036854775808 ≤ S5.last + 1; omega
          · show S5.last + 1 < 9223372036854775808; omega
          · rfl
        have h1d : ∀ ad, sl.Ad = some ad → (ad.block < w11.heap.size ∧ ro5 ad.block = none ∧ ad.block ≠ g) ∧ w1.heap.size < ad.block := fun ad e => by
          rw [hsl] at e
          obtain ⟨ad', e', hc⟩ := Rb10.out 0 (by omega)
          have e2 : ad' = ad := by rw [show A7 = some ad from e] at e'; injection e' with e'; exact e'.symm
          subst e2
          have h1 := block_lt_of_cell hc
          rw [block_of_add] at h1
          have h2 := Hg11.out.1.size
          exact ⟨⟨by omega, (Q73.out _ e).1, by omega⟩, (Q73.out _ e).2.2⟩
        have h2d : ∀ ad, sl.An = some ad → (ad.block < w11.heap.size ∧ ro5 ad.block = none ∧ ad.block ≠ g) ∧ w1.heap.size < ad.block := fun ad e => by
          rw [hsl] at e
          rcases HO10.out.2 with ⟨e1, _⟩ | ⟨k, cap, cur, e1, hk, hb, _⟩
          · injection e1 with e1
            rw [show A10 = some ad from e] at e1
            cases e1
          · injection e1 with e1
            rw [show A10 = some ad from e] at e1
            injection e1 with e1
            have h1 : k < w10.heap.size := Blk.lt hb
            have h2 := Hg11.out.1.size
            have h3 := hw19
            rw [e1]
            show (k < w11.heap.size ∧ ro5 k = none ∧ k ≠ g) ∧ w1.heap.size < k
            exact ⟨⟨by omega, H9.out.none_ge hk, by omega⟩, by omega⟩
        have HC := Lib.hid (H11.out.chg (S := { S5 with last := S5.last + 1 }) (i := S5.last + 1) B5.out.nw hlf (fun k hk => (B5.out.fl k hk).2) (fun j hj => (B5.out.bl j hj).2) hcg hgn hcv (fun ad e => (h1d ad e).1) (fun ad e => (h2d ad e).1))
        have hw1 : w.heap.size < w1.heap.size := by have := Hg1.out.2; omega
        have TC : Hid (Tr ro (chgO ro5 (S5.last + 1) g sl) w w11) := Lib.hid (T11.out.own fun k hk => chgO_old (by have := T10.out.size; omega) (fun ad e e2 => by have := (h1d ad e).2; omega) (fun ad e e2 => by have := (h2d ad e).2; omega))
        have KN1 : (({ S5 with last := S5.last + 1 } : CS).chg (S5.last + 1) (S5.made no p needs) 0).kn no = true := KN.out
        have f1 : ∀ i, (({ S5 with last := S5.last + 1 } : CS).chg (S5.last + 1) (S5.made no p needs) 0).lf i = true → (({ S5 with last := S5.last + 1 } : CS).chg (S5.last + 1) (S5.made no p needs) 0).live i = true := fun i hi => by
          by_cases e : i = S5.last + 1
          · subst e; exact updF_same _ _ _
          · exact (updF_other _ _ e).trans (B5.out.ll i hi)
        have f2 : ∀ i, (({ S5 with last := S5.last + 1 } : CS).chg (S5.last + 1) (S5.made no p needs) 0).live i = true → ((({ S5 with last := S5.last + 1 } : CS).chg (S5.last + 1) (S5.made no p needs) 0).beh i).length ≤ 100000 := fun i hi => by
          by_cases e : i = S5.last + 1
          · subst e
            show (updF S5.beh (S5.last + 1) [] (S5.last + 1)).length ≤ _
            rw [updF_same]
            exact Nat.zero_le _
          · show (updF S5.beh (S5.last + 1) [] i).length ≤ _
            have hi' : updF S5.live (S5.last + 1) true i = true := hi
            rw [updF_other _ _ e] at hi' ⊢
            exact (B5.out.bl i hi').1
        have f3 : ((({ S5 with last := S5.last + 1 } : CS).chg (S5.last + 1) (S5.made no p needs) 0).free no).length ≤ 100000 := (B5.out.fl no KN.out).1
        have f4 : (S5.made no p needs).needs.length ≤ 50000 := Nat.le_trans (stillL_len S5.lf needs) (by rw [Hn.out]; exact hm)
        have f5 : (A5.chg (S5.last + 1) g sl).nl < 1000000 := by show A5.nl < _; rw [NL.out]; exact hnl
        have f6 : ∀ x ∈ (({ S5 with last := S5.last + 1 } : CS).chg (S5.last + 1) (S5.made no p needs) 0).lat no, -9223372036854775808 ≤ x ∧ x < 9223372036854775808 := B5.out.lt no KN.out
        have f7 : 0 ≤ (({ S5 with last := S5.last + 1 } : CS).chg (S5.last + 1) (S5.made no p needs) 0).dirty no ∧ (({ S5 with last := S5.last + 1 } : CS).chg (S5.last + 1) (S5.made no p needs) 0).dirty no < 1000000 := B5.out.dr no KN.out
        have f8 : (({ S5 with last := S5.last + 1 } : CS).chg (S5.last + 1) (S5.made no p needs) 0).live (S5.last + 1) = true := updF_same _ _ _
        have f9 : (({ S5 with last := S5.last + 1 } : CS).chg (S5.last + 1) (S5.made no p needs) 0).cg (S5.last + 1) = S5.made no p needs := updF_same _ _ _
        have f10 : (({ S5 with last := S5.last + 1 } : CS).chg (S5.last + 1) (S5.made no p needs) 0).lf (S5.last + 1) = false := hlf
        have g1 : (A5.chg (S5.last + 1) g sl).ha (S5.last + 1) = g := updF_same _ _ _
        have g2 : (A5.chg (S5.last + 1) g sl).ca = A5.ca := rfl
        have g3 : (A5.chg (S5.last + 1) g sl).ka = A5.ka := rfl
        have g4 : ∀ hv fv, A.like { A5.chg (S5.last + 1) g sl with hv := hv, fv := fv, nl := (A5.chg (S5.last + 1) g sl).nl + 1 } := fun hv fv => ⟨LK.out.ca, LK.out.dv, LK.out.dt, LK.out.nb, by show A5.nl + 1 ≤ _; rw [NL.out]; exact Nat.le_refl _⟩
        have g5 : (({ S5 with last := S5.last + 1 } : CS).chg (S5.last + 1) (S5.made no p needs) 0).add no (S5.last + 1) ((({ S5 with last := S5.last + 1 } : CS).chg (S5.last + 1) (S5.made no p needs) 0).ahead no (S5.made no p needs)) (S5.made no p needs).p = S5.put no p needs := rfl
        have hS11 : Blk w11 w.heap.size 26 #[.pointer (some ⟨A5.ca, 0, none⟩)] ∧ Blk w11 w1.heap.size 64 #[.int .i64 p.at_, .slice A7 np c7] ∧ Blk w11 A5.ca 98 (ccells A5 { S5 with last := S5.last + 1 }) := ⟨hS10.1.ext Hg11.out.1, hS10.2.1.ext Hg11.out.1, H11.out.cc⟩
        have G4 := Lib.hid g4
        have hcid : (S5.made no p needs).id = S5.last + 1 := rfl
        have g6 : (({ S5 with last := S5.last + 1 } : CS).chg (S5.last + 1) (S5.made no p needs) 0).last = S5.last + 1 := rfl
        have R12 := Lib.hid (show chgO ro5 (S5.last + 1) g sl w.heap.size = none ∧ chgO ro5 (S5.last + 1) g sl w1.heap.size = none from by
          have h3 : w1.heap.size < w10.heap.size := Blk.lt hS10.2.1
          exact ⟨(chgO_old (by omega) (fun ad e e2 => by have := (h1d ad e).2; omega) (fun ad e e2 => by have := (h2d ad e).2; omega)).trans M1.out, (chgO_old (by omega) (fun ad e e2 => by have := (h1d ad e).2; omega) (fun ad e e2 => by have := (h2d ad e).2; omega)).trans M2.out⟩)
        obtain ⟨ro2, hro2⟩ : ∃ r, chgO ro5 (S5.last + 1) g sl = r := ⟨_, rfl⟩
        rw [hro2] at HC TC R12
        obtain ⟨c0, hc0⟩ : ∃ c0, S5.made no p needs = c0 := ⟨_, rfl⟩
        rw [hc0] at HC KN1 f1 f2 f3 f4 f6 f7 f8 f9 f10 g5 hcid g6
        have hcp : c0.p = p := by rw [← hc0]; rfl
        obtain ⟨S2, hS2⟩ : ∃ S2, ({ S5 with last := S5.last + 1 } : CS).chg (S5.last + 1) c0 0 = S2 := ⟨_, rfl⟩
        rw [hS2] at HC KN1 f1 f2 f3 f6 f7 f8 f9 f10 g5 g6
        have G7 := Lib.hid (show (A5.chg (S5.last + 1) g sl).mb = A5.mb ∧ (A5.chg (S5.last + 1) g sl).ml = A5.ml ∧ (A5.chg (S5.last + 1) g sl).dv = A5.dv from ⟨rfl, rfl, rfl⟩)
        obtain ⟨A2, hA2⟩ : ∃ A2, A5.chg (S5.last + 1) g sl = A2 := ⟨_, rfl⟩
        rw [hA2] at HC f5 g1 g2 g3 G4 G7
        clear hS2 hA2 hro2 hc0 g4 hw1 hcg hcv h1d h2d hsl hgn hlf hla hsz T11 T10 H10 H9 T9 Rb9 Rb10 Hr10 HO10 Hb11 Hg11 H11
        have CADD := add_any w11 ro2 A2 S2 HC.out no (S5.last + 1) c0 KN1 f8 f9 hcid (by rw [hcp]; exact HPR.out) f10 f1 f2 f3 f4 f5 f6 f7
        rw [g1, g2, g3, g5] at CADD
        clear KN1 f1 f2 f3 f4 f5 f6 f7 f8 f9 f10 g1 g2 g3 g5 hcid
        unfold ptr at CADD
        rw [hg] at CADD
        have hSn := hS11; refine hK _ _ hSn ?_; clear hK; clear K; simp only [setL]
        refine WH.only 14 _ rfl (by kernel_rfl) rfl (fun K hK => ?_); go_simp; refine (CADD).mono ?_; rintro e w12 ⟨ro12, hv12, fv12, rfl, h12, t12⟩; go_simp
        have H12 := Lib.hid h12
        have T12 := Lib.hid (TC.out.trans t12)
        have BB := Lib.hid (hS11.1.tr t12 R12.out.1)
        have BP := Lib.hid (hS11.2.1.tr t12 R12.out.2)
        have hl12 : (S5.put no p needs).last = S5.last + 1 := rfl
        have he12 : (S5.put no p needs).ended = S5.ended := rfl
        have CC := Lib.hid h12.cc
        have CD : Hid (Blk w12 A5.ca 98 (ccells A5 { S5 with last := S5.last + 1 })) := Lib.hid (by
          have h := CC.out
          unfold ccells at h ⊢
          simp only [hl12, he12, G7.out.1, G7.out.2.1, G7.out.2.2] at h ⊢
          exact h)
        clear h12 t12 CADD CC hl12 he12
        have hSn := (show Blk w12 w.heap.size 26 #[.pointer (some ⟨A5.ca, 0, none⟩)] ∧ Blk w12 w1.heap.size 64 #[.int .i64 p.at_, .slice A7 np c7] ∧ Blk w12 A5.ca 98 (ccells A5 { S5 with last := S5.last + 1 }) from ⟨BB.out, BP.out, CD.out⟩); refine hK _ _ hSn ?_; clear hK; clear K; simp only [setL]
        refine WH.done (by kernel_rfl) ?_
        have c12 : w12.cell? ⟨w.heap.size, 0, none⟩ = some (.pointer (some ⟨A5.ca, 0, none⟩)) := BB.out.cell 0
        have c13 : w12.cell? ⟨A5.ca, 3, none⟩ = some (.int .i64 (S5.last + 1)) := CD.out.cell 3
        go_wp2_with fail
        go_ret2
        have hlast := KL.out
        refine Or.inr ⟨by rw [HX.out]; exact HE.out, ro12, { ca := A5.ca, mb := A2.mb, ml := A2.ml, dv := A2.dv, dt := A2.dt, nb := A2.nb, nl := A2.nl + 1, ka := A5.ka, ha := A2.ha, fv := fv12, hv := hv12, sl := A2.sl }, ?_, ?_, T12.out, ?_⟩
        · rw [← hlast]; rfl
        · rw [HS5.out]; exact H12.out
        · exact ⟨LK.out.ca, (G4.out hv12 fv12).dv, (G4.out hv12 fv12).dt, (G4.out hv12 fv12).nb, (G4.out hv12 fv12).nl⟩
end

end Go.Proofs.YtpmbpklbiocclaaGreat
