/-
  Texts of this claim joined: Ca16, Ref07.
-/
import Derived.Test.YtpmbpklbiocclaaGreatGrAP
import Derived.Test.YtpmbpklbiocclaaGreatGrAJ
import Derived.Test.YtpmbpklbiocclaaGreatGrAW
import Derived.Test.YtpmbpklbiocclaaGreatGrAF

/-
  The program's: Dirty.
-/
namespace Go.Proofs.YtpmbpklbiocclaaGreat
open Go.RowKit Go.Maps

theorem nodup_sort {l l' : List Int} (hn : l.Nodup) (hr : RiseI l') (h : ∀ x, x ∈ l ↔ x ∈ l') : (l.mergeSort fun x y => decide (x ≤ y)) = l' := by
  have hpm := List.mergeSort_perm l (fun x y => decide (x ≤ y))
  refine RiseI.uniq ?_ hr fun x => hpm.mem_iff.trans (h x)
  have h1 : (l.mergeSort (fun x y => decide (x ≤ y))).Pairwise (fun a b => decide (a ≤ b) = true) := List.pairwise_mergeSort (fun a b c h1 h2 => by simp only [decide_eq_true_eq] at *; omega) (fun a b => by simp only [Bool.or_eq_true, decide_eq_true_eq]; omega) l
  have h2 : (l.mergeSort (fun x y => decide (x ≤ y))).Nodup := hpm.nodup_iff.2 hn
  refine List.Pairwise.imp₂ (fun a b ha hb => ?_) h1 h2
  simp only [decide_eq_true_eq] at ha
  omega
theorem Sim.dirty_mem {S : CS} {x : DC} {W : Int → List Int} (h : Sim S x W) (k : Int) : (S.kn k = true ∧ 0 < S.dirty k) ↔ k ∈ blocksC x.list := by
  rw [blocksC_mem]
  constructor
  · rintro ⟨hk, hd⟩
    rw [h.dirty k hk] at hd
    have h1 : 0 < (ofC x.list k).length := by omega
    obtain ⟨c, hc⟩ := List.exists_mem_of_length_pos h1
    unfold ofC at hc
    rw [List.mem_filter, decide_eq_true_eq] at hc
    exact ⟨c, hc.1, hc.2⟩
  · rintro ⟨c, hc, rfl⟩
    have hk : S.kn c.block = true := by rw [h.kn]; exact h.ok.knw c hc
    refine ⟨hk, ?_⟩
    rw [h.dirty _ hk]
    have : c ∈ ofC x.list c.block := by unfold ofC; rw [List.mem_filter, decide_eq_true_eq]; exact ⟨hc, rfl⟩
    have := List.length_pos_of_mem this
    omega
set_option maxRecDepth 100000 in
set_option maxHeartbeats 8000000 in
theorem dirty_any {w : World} {ro : Nat → Option Rl} {A : CA} {S : CS} {x : DC} {W : Int → List Int} (h : HP w ro A S) (hs : Sim S x W) (hl : x.last ≤ 1000) :
    Calls Tryz.prog 29 #[ptr A.ca] w fun e w' => ∃ v, e = .returned v ∧ OwnC w' w.heap.size 3 v (ivals (blocksC x.list)) ∧ Below w.heap.size w w' := by
  have H := Lib.hid h
  have HS := Lib.hid hs
  have c1 : w.cell? ⟨A.ca, 1, none⟩ = some (.map (some A.mb)) := h.cc.cell 1
  have hbl : (blocksC x.list).length ≤ 1000 := by have h1 := blocksC_len x.list; have := hs.ok.wrote; omega
  have hmb : A.mb < w.heap.size := h.mbw.lt
  clear h hs
  unfold ptr
  go_enter Tryz.func29, Tryz.ntmps29
  go_wp2_with (refine wpList_rangeZ rfl _ _ rfl _ _ Tryz.underlying3 Tryz.underlying96 rfl H.out.mbw ?_)
  apply Stop.go
  intro w1 cnt0 HI Hb1
  obtain ⟨gI, hgI⟩ : ∃ g, w.heap.size = g := ⟨_, rfl⟩
  have HGI := Lib.hid hgI
  rw [hgI] at HI ⊢
  have hz1 : gI < w1.heap.size := HI.out.lt
  obtain ⟨Bs, hBs⟩ : ∃ Bs, w1.heap.size = Bs := ⟨_, rfl⟩
  have HBs := Lib.hid hBs
  rw [hBs] at hz1
  have HP0 := Lib.hid (show ∀ k, (fun k => (pmap S.kn A.ka k).isSome) k = S.kn k from fun k => by
    cases e : S.kn k
    · exact (pmap_out e).2
    · exact (pmap_in e).2)
  clear hgI hBs c1
  go_wp2_with fail
  go_loopw [3] (fun v wr => ∃ (ks : List Int) (left : Int → Bool) (cnt : Nat), MapZR (.pointer none) wr Tryz.prog 3 A.mb gI A.nb (pmap S.kn A.ka) left cnt ∧ OwnC wr Bs 3 v (ivals ks) ∧ ks.Nodup ∧ (∀ k, k ∈ ks ↔ (S.kn k = true ∧ 0 < S.dirty k) ∧ left k = false) ∧ (∀ k, left k = true → S.kn k = true) ∧ Below w.heap.size w wr ∧ Bs ≤ wr.heap.size) (fun _ wr => wr.rangeLeft A.mb gI)
  case atStart => exact ⟨[], _, cnt0, HI.out, OwnC.nil_ _ _ _, List.nodup_nil, fun k => ⟨fun hk => (by cases hk), fun hk => (by have h2 := (HP0.out k).symm.trans hk.2; rw [hk.1.1] at h2; cases h2)⟩, fun k hk => (HP0.out k).symm.trans hk, Hb1.out, Nat.le_of_eq HBs.out.symm⟩
  case round =>
    obtain ⟨ks, left, cnt, hi, hu, hnd, hks, hlk, hbw, hz⟩ := hrel
    have HI2 := Lib.hid hi
    have Hu := Lib.hid hu
    have HN := Lib.hid hnd
    have HKS := Lib.hid hks
    have HLK := Lib.hid hlk
    have Hb := Lib.hid hbw
    have Hz := Lib.hid hz
    have hkl : ks.length ≤ 1000 := Nat.le_trans (nodup_len hnd fun k hk => (HS.out.dirty_mem k).1 ((hks k).1 hk).1) hbl
    clear hi hu hnd hks hlk hbw hz HI
    go_wp2_with (refine wpList_nextZ rfl _ rfl _ Tryz.underlying3 rfl HI2.out ?_ ?_)
    · apply Stop.go
      intro hl0
      have HE := Lib.hid (show (ks.mergeSort fun x y => decide (x ≤ y)) = blocksC x.list from nodup_sort HN.out (blocksC_rise _) fun k => by
        rw [HKS.out, ← HS.out.dirty_mem]
        exact ⟨fun hh => hh.1, fun hh => ⟨hh, hl0 k⟩⟩)
      have CS := sortOwn_any Bs _ ks (by omega) wr Hu.out
      go_wp2_with fail
      refine (CS).mono ?_; rintro e w3 ⟨rfl, ho3, hl3⟩
      have HO3 := Lib.hid ho3
      rw [HE.out] at HO3
      have B3 := Lib.hid (hl3.bel Hb.out (fun k hk => by have := (Hu.out.lt k hk).1; have := HGI.out; omega))
      clear ho3 hl3 CS
      go_wp2_with fail
      go_ret
      exact ⟨_, rfl, HO3.out.low (by have := HGI.out; omega), B3.out⟩
    · apply Stop.go
      intro k wN cnt1 hlk HI4 hcnt Hg hsz hen
      have hkn := HLK.out k hlk
      rw [(pmap_in (a := A.ka) hkn).1] at hen ⊢
      have BN := Lib.hid (Hb.out.grown Hg.out Hb.out.size (fun q hq => by injection hq with hq; have := HGI.out; omega))
      have HC := Lib.hid (H.out.ext BN.out)
      have HuN := Lib.hid (Hu.out.same fun q hq => Hg.out.block q (Hu.out.lt q hq).2 (fun e => by injection e with e; have := (Hu.out.lt q hq).1; omega))
      have LF := Lib.hid (HC.out.blkLen hkn)
      have cd : wN.cell? ⟨A.ka k, 512, none⟩ = some (.int .i64 (S.dirty k)) := by rw [(HC.out.kb hkn).cell 512, List.getElem?_toArray, kc_dirty LF.out.1 LF.out.2.1]
      have HKN := Lib.hid hkn
      have HLKT := Lib.hid hlk
      have HCNT := Lib.hid hcnt
      have HSZ := Lib.hid hsz
      have HZ2 := Lib.hid (show Bs ≤ wN.heap.size by rw [hsz]; exact Hz.out)
      have HKN2 := Lib.hid (show k ∉ ks from fun hh => by have := ((HKS.out k).1 hh).2; rw [hlk] at this; cases this)
      have LL := Lib.hid (show ∀ j, (left j && !decide (j = k)) = true → S.kn j = true from fun j hj => HLK.out j (by rw [Bool.and_eq_true] at hj; exact hj.1))
      unfold ptr at hen ⊢
      clear hkn hlk hcnt hsz
      cases hd : decide (0 < S.dirty k)
      · have hd0 : ¬ 0 < S.dirty k := by simpa using hd
        have HK2 := Lib.hid (show ∀ j, j ∈ ks ↔ (S.kn j = true ∧ 0 < S.dirty j) ∧ (left j && !decide (j = k)) = false from fun j => by
          rw [HKS.out]
          by_cases e : j = k
          · subst e
            exact ⟨fun hh => absurd hh.1.2 hd0, fun hh => absurd hh.1.2 hd0⟩
          · rw [decide_eq_false e]; simp)
        clear hd0
        go_wp2_with fail
        go_roundw
        case rel => exact ⟨ks, _, cnt1, HI4.out, HuN.out, HN.out, HK2.out, LL.out, BN.out, HZ2.out⟩
        case measure => rw [HI4.out.left_eq, HI2.out.left_eq]; exact HCNT.out
      · have hd0 : 0 < S.dirty k := by simpa using hd
        have HK2 := Lib.hid (show ∀ j, j ∈ ks ++ [k] ↔ (S.kn j = true ∧ 0 < S.dirty j) ∧ (left j && !decide (j = k)) = false from fun j => by
          rw [List.mem_append, List.mem_singleton, HKS.out]
          by_cases e : j = k
          · subst e
            exact ⟨fun _ => ⟨⟨HKN.out, hd0⟩, by simp⟩, fun _ => Or.inr rfl⟩
          · rw [decide_eq_false e]; simp [e])
        have HND := Lib.hid (show (ks ++ [k]).Nodup from List.nodup_append.2 ⟨HN.out, by simp, fun a ha b hb e => by
          rw [List.mem_singleton] at hb
          subst hb; subst e
          exact HKN2.out ha⟩)
        have hl1 : (ivals ks).length + 1 ≤ maxLen := by rw [ivals_len]; unfold maxLen; omega
        have hl2 : ((ivals ks).length + 1) * 8 ≤ 140737488355328 := by rw [ivals_len]; omega
        clear hd0
        go_wp2_with (at_builtin; refine wpList_append_one rfl _ _ _ _ rfl Tryz.underlying59 (.int .i64 0) 8 Tryz.infoInt rfl Bs _ _ rfl HuN.out (.int .i64 k) rfl rfl HZ2.out hl1 hl2 ?_)
        apply Stop.go
        intro v' w6 Hv' Ha'
        have B6 := Lib.hid (BN.out.trans (Ha'.out.below.mono (by have h1 := BN.out.size; have := HGI.out; have := HZ2.out; omega)))
        have Z6 := Lib.hid (Nat.le_trans HZ2.out Ha'.out.below.size)
        have HI6 := Lib.hid (HI4.out.same (Ha'.out.below.block A.mb (by have := HGI.out; omega)) (Ha'.out.below.block gI (by omega)))
        go_wp2_with fail
        go_roundw
        case rel => exact ⟨ks ++ [k], _, cnt1, HI6.out, by rw [← ivals_snoc]; exact Hv'.out, HND.out, HK2.out, LL.out, B6.out, Z6.out⟩
        case measure => rw [HI6.out.left_eq, HI2.out.left_eq]; exact HCNT.out

end Go.Proofs.YtpmbpklbiocclaaGreat

/-
  Contracts of the document's answer 07: Lay, Was, In, Meet, Same, Much, All, Bytes, SameAll.
-/
namespace Go.Proofs.YtpmbpklbiocclaaGreat
open Go.RowKit

theorem rlayL_layP {L : List UInt8} (hL : L.length = 256) {p : Pt} (h : p.right = true) : rlayL L p.at_ p.data = layP L p := by
  have h1 := Pt.right_iff.1 h
  unfold rlayL layP
  rw [h, if_pos (by simp; omega), if_pos rfl, List.take_of_length_le (by omega)]
  rfl
set_option maxHeartbeats 400000 in
theorem rlaypO_any (B : Option Addr) (nb cb : Nat) (L : List UInt8) (hL : L.length = 256) (hnb : L.length = nb) (hcb : nb ≤ cb) (hmb : cb ≤ maxLen) (p : Pt) (A : Option Addr) (n c : Nat) (w : World) (hb : RB w B L) (hp : PV w p A n c) :
    Calls Tryz.prog 113 #[.slice B nb cb, .agg #[.int .i64 p.at_, .slice A n c]] w (RetBO w B (layP L p)) := by
  have HL := Lib.hid hL
  have Hnb := Lib.hid hnb
  have Hb := Lib.hid hb
  have Hp := Lib.hid hp
  have Hcb := Lib.hid (show nb ≤ cb ∧ cb ≤ maxLen from ⟨hcb, hmb⟩)
  clear hL hnb hb hp hcb hmb
  go_enter Tryz.func113, Tryz.ntmps113
  go_wp2_with (refine wpList_box_row rfl _ _ rfl _ rfl ?_)
  apply Stop.go; intro w1 Hg1 Hb1
  go_wp2_with (refine wpList_load_blk rfl _ _ rfl _ rfl _ _ Hb1.out _ Tryz.underlying58 rfl Tryz.rpatchSize ?_)
  refine (right_any p A n c _ (Hp.out.below Hg1.out.1)).mono ?_; rintro e w2 ⟨rfl, hb2⟩
  have Hb2 := Lib.hid (bt Hg1.out.1 hb2)
  have Hx2 := Lib.hid (Hb1.out.ext hb2)
  clear hb2
  cases hr : p.right
  · have Hl := Lib.hid (layP_wrong (L := L) hr)
    clear hr
    go_wp2_with fail
    go_ret
    rw [Hl.out]
    exact ⟨_, _, _, rfl, Hnb.out, Hcb.out.1, Hcb.out.2, Hb.out.below Hb2.out, Hb2.out, Or.inl rfl⟩
  · have Hl := Lib.hid (rlayL_layP HL.out hr)
    clear hr
    have c0 : w2.cell? ⟨w.heap.size, 0, none⟩ = some (.int .i64 p.at_) := Hx2.out.cell 0
    have c1 : w2.cell? ⟨w.heap.size, 1, none⟩ = some (.slice A n c) := Hx2.out.cell 1
    go_wp2_with fail
    refine (rlayO_any B nb cb L Hnb.out (by have := Hnb.out; have := HL.out; omega) p.at_ A n c p.data Hp.out.len _ (Hb.out.below Hb2.out) (Hp.out.read.below Hb2.out)).mono ?_; rintro e w3 ⟨B3, n3, c3, rfl, h1, h2, h3, h4, h5, h6⟩
    have H6 := Lib.hid (show ∀ ad, B3 = some ad → w.heap.size ≤ ad.block from fun ad e => by
      rcases h6 with h6 | h6
      · rw [h6] at e; cases e
      · exact Nat.le_trans Hb2.out.size (h6 ad e))
    clear h6
    rw [Hl.out] at h1 h4
    have H1 := Lib.hid h1
    have H4 := Lib.hid h4
    have H5 := Lib.hid (bt Hb2.out h5)
    clear h1 h4 h5
    go_wp2_with fail
    go_ret
    exact ⟨_, _, _, rfl, H1.out, h2, h3, H4.out, H5.out, Or.inr H6.out⟩


set_option maxHeartbeats 800000 in
theorem rin_any (p : Pt) (A : Option Addr) (n c : Nat) (i : Nat) (_hi : i < 256) (w : World) (hp : PV w p A n c) :
    Calls Tryz.prog 134 #[.agg #[.int .i64 p.at_, .slice A n c], .int .i64 i] w fun e w' => e = .returned (.bool (p.has i)) ∧ Below w.heap.size w w' := by
  have Hp := Lib.hid hp
  clear hp
  go_enter Tryz.func134, Tryz.ntmps134
  go_wp2_with (refine wpList_box_row rfl _ _ rfl _ rfl ?_)
  apply Stop.go; intro w1 Hg1 Hb1
  go_wp2_with (refine wpList_load_blk rfl _ _ rfl _ rfl _ _ Hb1.out _ Tryz.underlying58 rfl Tryz.rpatchSize ?_)
  refine (right_any p A n c _ (Hp.out.below Hg1.out.1)).mono ?_; rintro e w2 ⟨rfl, hb2⟩
  have Hb2 := Lib.hid (bt Hg1.out.1 hb2)
  have Hx2 := Lib.hid (Hb1.out.ext hb2)
  clear hb2
  cases hr : p.right
  · have Hh := Lib.hid (show p.has i = false by unfold Pt.has; rw [hr]; rfl)
    clear hr
    go_wp2_with fail
    go_ret
    rw [Hh.out]
    exact ⟨rfl, Hb2.out⟩
  · have h := Pt.right_iff.1 hr
    rw [Hp.out.len] at h
    obtain ⟨h1, h2, h3, h4⟩ := h
    obtain ⟨q, hq⟩ := Int.eq_ofNat_of_zero_le h3
    have Hh := Lib.hid (show p.has i = decide (q ≤ i ∧ i < q + n) by unfold Pt.has Pt.lo; rw [hr, hq, Hp.out.len]; rfl)
    have c0 : w2.cell? ⟨w.heap.size, 0, none⟩ = some (.int .i64 p.at_) := Hx2.out.cell 0
    have c1 : w2.cell? ⟨w.heap.size, 1, none⟩ = some (.slice A n c) := Hx2.out.cell 1
    rw [hq] at c0
    have h5 : q + n ≤ 256 := by omega
    have hw : IntKind.i64.wrap ((q : Int) + (n : Int)) = (q : Int) + (n : Int) := IntWalk.i64_in _ (by omega)
    clear hr h3 h4 hq
    by_cases g1 : q ≤ i
    · have d1 : decide (q ≤ i) = true := by simpa using g1
      by_cases g2 : i < q + n
      · have d2 : decide ((i : Int) < (q : Int) + (n : Int)) = true := by simp; omega
        go_wp2_with fail
        go_ret
        rw [Hh.out, decide_eq_true ⟨g1, g2⟩]
        exact ⟨rfl, Hb2.out⟩
      · have d2 : decide ((i : Int) < (q : Int) + (n : Int)) = false := by simp; omega
        go_wp2_with fail
        go_ret
        rw [Hh.out, decide_eq_false (fun h => g2 h.2)]
        exact ⟨rfl, Hb2.out⟩
    · have d1 : decide (q ≤ i) = false := by simpa using g1
      go_wp2_with fail
      go_ret
      rw [Hh.out, decide_eq_false (fun h => g1 h.1)]
      exact ⟨rfl, Hb2.out⟩

set_option maxHeartbeats 800000 in
theorem rmeet_any (p : Pt) (A : Option Addr) (n c : Nat) (q : Pt) (A' : Option Addr) (n' c' : Nat) (w : World) (hp : PV w p A n c) (hq : PV w q A' n' c') :
    Calls Tryz.prog 112 #[.agg #[.int .i64 p.at_, .slice A n c], .agg #[.int .i64 q.at_, .slice A' n' c']] w fun e w' => e = .returned (.bool (meetP p q)) ∧ Below w.heap.size w w' := by
  have Hp := Lib.hid hp
  have Hq := Lib.hid hq
  clear hp hq
  go_enter Tryz.func112, Tryz.ntmps112
  go_wp2_with (refine wpList_box_row rfl _ _ rfl _ rfl ?_)
  apply Stop.go; intro w1 Hg1 Hb1
  go_wp2_with (refine wpList_box_row rfl _ _ rfl _ rfl ?_)
  apply Stop.go; intro w2 Hg2 Hb2
  have Hw2 := Lib.hid (bt Hg1.out.1 Hg2.out.1)
  have Hx2 := Lib.hid (Hb1.out.ext Hg2.out.1)
  go_wp2_with fail
  go_loopw [5] (fun i wr => ∃ k : Nat, k ≤ 256 ∧ i = .int .i64 k ∧ (∀ j, j < k → (p.has j && q.has j) = false) ∧ Below w2.heap.size w2 wr) (fun i _ => 256 - (intOf i).toNat)
  case atStart => exact ⟨0, by omega, rfl, fun j h => absurd h (Nat.not_lt_zero _), Below.refl _ _⟩
  case round =>
    obtain ⟨k, hk, rfl, hno, hbw⟩ := hrel
    have Hno := Lib.hid hno
    have Hbw := Lib.hid hbw
    clear hno hbw
    by_cases hlt : k < 256
    · have d0 : decide ((k : Int) < 256) = true := by simp; omega
      have Hxr := Lib.hid (Hx2.out.ext Hbw.out)
      have Hyr := Lib.hid (Hb2.out.ext Hbw.out)
      have Hpr := Lib.hid (Hp.out.below (bt Hw2.out Hbw.out))
      go_wp2_with (refine wpList_load_blk rfl _ _ rfl _ rfl _ _ Hxr.out _ Tryz.underlying58 rfl Tryz.rpatchSize ?_)
      refine (rin_any p A n c k hlt _ Hpr.out).mono ?_; rintro e w3 ⟨rfl, hb3⟩
      have Hb3 := Lib.hid (bt Hbw.out hb3)
      have Hy3 := Lib.hid (Hyr.out.ext hb3)
      have Hq3 := Lib.hid (Hq.out.below (bt Hw2.out Hb3.out))
      clear hb3
      cases h1 : p.has k
      · have H1 := Lib.hid h1
        clear h1
        go_wp2_with fail
        go_roundw
        case rel => exact ⟨k + 1, by omega, by go_num, fun j hj => by
          by_cases hjk : j = k
          · rw [hjk, H1.out]; rfl
          · exact Hno.out j (by omega), Hb3.out⟩
        case measure => simp [intOf]; omega
      · have H1 := Lib.hid h1
        clear h1
        go_wp2_with (refine wpList_load_blk rfl _ _ rfl _ rfl _ _ Hy3.out _ Tryz.underlying58 rfl Tryz.rpatchSize ?_)
        refine (rin_any q A' n' c' k hlt _ Hq3.out).mono ?_; rintro e w4 ⟨rfl, hb4⟩
        have Hb4 := Lib.hid (bt Hb3.out hb4)
        clear hb4
        cases h2 : q.has k
        · have H2 := Lib.hid h2
          clear h2
          go_wp2_with fail
          go_roundw
          case rel => exact ⟨k + 1, by omega, by go_num, fun j hj => by
            by_cases hjk : j = k
            · rw [hjk, H1.out, H2.out]; rfl
            · exact Hno.out j (by omega), Hb4.out⟩
          case measure => simp [intOf]; omega
        · have Hm := Lib.hid (meetP_iff.2 ⟨k, H1.out, h2⟩)
          clear h2
          go_wp2_with fail
          go_ret
          rw [Hm.out]
          exact ⟨rfl, bt Hw2.out Hb4.out⟩
    · have d0 : decide ((k : Int) < 256) = false := by simp; omega
      have Hm := Lib.hid (show meetP p q = false from Bool.eq_false_iff.2 fun h => by
        obtain ⟨i, h1, h2⟩ := meetP_iff.1 h
        have h3 := Hno.out i (by have := Pt.has_lt h1; omega)
        rw [h1, h2] at h3
        cases h3)
      go_wp2_with fail
      go_ret
      rw [Hm.out]
      exact ⟨rfl, bt Hw2.out Hbw.out⟩


end Go.Proofs.YtpmbpklbiocclaaGreat
