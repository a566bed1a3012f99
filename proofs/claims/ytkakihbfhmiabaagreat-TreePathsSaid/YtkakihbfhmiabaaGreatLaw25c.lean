/-
  Layer 25: the walk of TreeCloses.
-/
import Derived.Test.YtkakihbfhmiabaaGreatLaw25w
import Derived.Test.YtkakihbfhmiabaaGreatGrBB
import Derived.Test.YtkakihbfhmiabaaGreatGrAZ
import Derived.BigQuiet
import Derived.Deep.QuietTactic
namespace Go.Proofs.YtkakihbfhmiabaaGreat
open Go.RowKit
set_option maxRecDepth 10000

theorem node_c0 {w : World} {ad : Addr} {t : List Nd} (h : RdL RdN w (some ad) 7 t) {k : Nat} {n : Nd} (hk : t[k]? = some n) : w.cell? (ad.add (k * 7)) = some (.int .i64 n.ino) := by
  obtain ⟨x, hx, hc⟩ := h.nodeA hk
  have := hc 0 _ rfl
  rw [add_zero_addr] at this
  rw [this, hx.ino]
theorem node_c1 {w : World} {ad : Addr} {t : List Nd} (h : RdL RdN w (some ad) 7 t) {k : Nat} {n : Nd} (hk : t[k]? = some n) : w.cell? ⟨(ad.add (k * 7)).block, (ad.add (k * 7)).off + 1, none⟩ = some (.int .i64 n.kind) := by
  obtain ⟨x, hx, hc⟩ := h.nodeA hk
  rw [node_at hc 1 _ rfl, hx.kind]
theorem node_c6 {w : World} {ad : Addr} {t : List Nd} (h : RdL RdN w (some ad) 7 t) {k : Nat} {n : Nd} (hk : t[k]? = some n) : ∃ S d, w.cell? ⟨(ad.add (k * 7)).block, (ad.add (k * 7)).off + 6, none⟩ = some (.slice S n.names.length d) ∧ RN w S 2 (erows n.names) := by
  obtain ⟨x, hx, hc⟩ := h.nodeA hk
  refine ⟨x.S, x.d, ?_, hx.names⟩
  rw [node_at hc 6 _ rfl, hx.sn]
def RdAt (A : Option Addr) (t : List Nd) (w : World) : Prop := RdL RdN w A 7 t
theorem exec_sub25 {P : Program} {o : Oper} {a : Act} {w : World} (t t' : TypeId) (x y : Operand) (ho : o.op = .binOp .sub t x y t') (j i : Nat) (hx : a.eval x = .int .i64 j) (hy : a.eval y = .int .i64 1) (hj : j = i + 1) (hb : j < 9223372036854775808) : (execOp a.eval o).run P w = .ok (.value (.int .i64 (i : Int))) w := by
  have i1 : (j : Int) - 1 = (i : Int) := by omega
  have i2 : IntKind.i64.wrap ((i : Nat) : Int) = (i : Int) := IntWalk.i64_in _ (by omega)
  unfold execOp
  simp only [ho, hx, hy]
  go_simp
theorem treeP_first {l : Lay14} {T : Int → List UInt8} {n : Nd} (h : (treeP l T)[0]? = some n) : n.ino = 1 ∧ n.kind = 2 := by
  have hn := List.mem_of_getElem? h
  have hk := (treeP_mem hn).2
  have h1 := treeP_low hn
  have hr : nodP l T 1 ∈ treeP l T := mem_treeP (List.mem_of_getElem? (treeW_head 128)) hk
  have hi : n.ino = 1 := by
    obtain ⟨j, hj, e⟩ := List.getElem_of_mem hr
    obtain ⟨h0, e0⟩ := List.getElem?_eq_some_iff.1 h
    rcases Nat.eq_zero_or_pos j with rfl | hp
    · rw [← e0, e]
      rfl
    · have := List.pairwise_iff_getElem.1 (treeP_rise (l := l) (T := T)) 0 j h0 hj hp
      rw [e0, e] at this
      have h2 : (nodP l T 1).ino = 1 := rfl
      omega
  refine ⟨hi, ?_⟩
  rw [treeP_is hn, hi]
  exact hk

set_option maxHeartbeats 12800000 in
theorem treeCloses_any (A : Option Addr) (n cap : Nat) (L : List (List UInt8)) (hn : L.length = n) (hL : Bks L) (hm : n ≤ maxLen) (w : World) (hr : RK w A L) :
    Calls Tryz.prog 4 #[.slice A n cap] w fun e w' => e = .returned (.bool true) ∧ Below w.heap.size w w' := by
  unfold maxLen at hm
  have Hn := Lib.hid hn
  have Hr := Lib.hid hr
  have HL := Lib.hid hL
  have hw := fun w => works25_any w
  clear hn hr hL
  by_cases hbig : 60 < n
  · have d0 : decide ((60 : Int) < (n : Int)) = true := by simp; omega
    clear hbig
    go_enter Tryz.func4, Tryz.ntmps4
    go_wp2_with fail
    refine (hw _).mono ?_; rintro e w1 ⟨rfl, hb1⟩
    go_wp2_with fail
    go_ret
    exact ⟨rfl, hb1⟩
  · have d0 : decide ((60 : Int) < (n : Int)) = false := by simp; omega
    have HTL := Lib.hid (fun no => bkV_len HL.out no)
    have HT := Lib.hid (fun (w : World) h => to21_any A n cap L Hn.out HL.out (by omega) w h)
    have HC1 := Lib.hid (fun A c w h => vof_any A n c L Hn.out HL.out (by omega) w h)
    clear hbig
    go_enter Tryz.func4, Tryz.ntmps4
    go_wp2_with fail
    refine (HT.out _ Hr.out).mono ?_; rintro e w1 ⟨v1, rfl, hv1, hb1⟩
    obtain ⟨A1, c1, rfl, hc1, hm1, hr1⟩ := hv1.read
    rw [Hn.out]
    have HR1 := Lib.hid hr1
    have E1 := Lib.hid hb1
    clear hv1 hc1 hm1 hr1 hb1 HT
    go_wp2_with fail
    refine (HC1.out A1 c1 _ HR1.out).mono ?_; rintro e w2 ⟨f, rfl, hb2, hf2⟩
    have HF2 := Lib.hid hf2
    have E2 := Lib.hid (bt E1.out hb2)
    clear hb2 hf2 HR1 E1 HC1
    go_wp2_with (refine wpList_alloc_row rfl _ rfl _ Tryz.viewZero ?_)
    apply Stop.go; intro w3 Hg3 Hb3
    go_wp2_with (refine wpList_store_arr rfl _ _ _ rfl _ (vval (layV L) f) rfl rfl _ _ Hb3.out Tryz.viewSize rfl (FV.one HF2.out) ?_)
    apply Stop.go; intro w4 Ho4 Hb4
    have D4 := Lib.hid (bonly Hg3.out.1 Ho4.out (Nat.le_refl _))
    have HF4 := Lib.hid (HF2.out.below D4.out)
    have E4 := Lib.hid (bt E2.out D4.out)
    generalize w2.heap.size = g2 at *
    clear Hg3 Hb3 Ho4 D4 HF2 E2
    cases hlw : layW L with
    | none =>
      have e13 : okSup (none : Option Lay14).isSome = 13 := rfl
      rw [e13]
      clear e13 hlw HF4 Hb4
      go_wp2_with fail
      refine (hw _).mono ?_; rintro e w8 ⟨rfl, hb8⟩
      go_wp2_with fail
      go_ret
      exact ⟨rfl, bt E4.out hb8⟩
    | some l =>
      have Hlv := Lib.hid (layV_some hlw)
      rw [Hlv.out] at HF4 Hb4
      have e13 : okSup (some l).isSome = 0 := rfl
      rw [e13]
      have HTr := Lib.hid (fun w h => tree_of_any l f (bkV L) HTL.out w h)
      have HIn := Lib.hid (fun w h => vinode_any l f (bkV L) HTL.out 1 w h)
      obtain ⟨X, HX⟩ : ∃ X, Hid (vIno l (bkV L) 1 = X) := ⟨_, Lib.hid rfl⟩
      have HXL := Lib.hid (show X.length = 11 by rw [← HX.out]; exact vIno_len _ _ _)
      rw [HX.out] at HIn
      have HLe := Lib.hid (treeP_len (l := l) (T := bkV L))
      have HFi := Lib.hid (fun n h => treeP_first (l := l) (T := bkV L) (n := n) h)
      have HRi := Lib.hid (treeP_rise (l := l) (T := bkV L))
      have HKd := Lib.hid (fun n h => treeP_kind (l := l) (T := bkV L) (n := n) h)
      have HDr := Lib.hid (fun n h e he => treeP_dir (l := l) (T := bkV L) (n := n) h (e := e) he)
      have HTo := Lib.hid (fun n h e he => fstI_some.2 (treeP_told (l := l) (T := bkV L) (n := n) h (e := e) he))
      have HCt := Lib.hid (fun n h hn => treeP_count (l := l) (T := bkV L) (n := n) h hn)
      have HFw := Lib.hid (fun n h => Nat.le_trans (treeP_few (l := l) (T := bkV L) (n := n) h) (show 224 ≤ 4096 by decide))
      have HLo := Lib.hid (fun n h => treeP_low (l := l) (T := bkV L) (n := n) h)
      have HDa := Lib.hid (fun n (h : n ∈ treeP l (bkV L)) => show n.data.length ≤ 140737488355328 by
        rw [treeP_is h]
        show (segR _ _ _ 0 (sizeR _)).length ≤ _
        rw [segR_len]
        exact Nat.le_trans (sizeR_le _) (by decide))
      have HAn := Lib.hid (treeP_any (l := l) (T := bkV L))
      rw [HX.out] at HAn
      generalize treeP l (bkV L) = t at *
      generalize bkV L = T at *
      obtain ⟨m, Hm⟩ : ∃ m, Hid (t.length = m) := ⟨_, Lib.hid rfl⟩
      have hm4 : m ≤ 128 := by rw [← Hm.out]; exact HLe.out
      clear hlw Hlv e13 HTL
      go_wp2_with (refine wpList_load_blk rfl _ _ rfl _ rfl _ _ Hb4.out _ Tryz.underlying44 rfl Tryz.viewSize ?_)
      refine (HTr.out _ HF4.out).mono ?_; rintro e w5 ⟨vt, rfl, hvt, hb5⟩
      obtain ⟨At, ct, rfl, _, _, hrt⟩ := hvt.read
      rw [Hm.out]
      have HRt := Lib.hid hrt
      have HV5 := Lib.hid (Hb4.out.ext hb5)
      have HF5 := Lib.hid (HF4.out.below hb5)
      have E5 := Lib.hid (bt E4.out hb5)
      clear hvt hb5 hrt Hb4 HF4 E4 HTr HX
      go_wp2_with fail
      go_loopw [6] (fun z wr => ∃ j : Nat, j ≤ m ∧ z = .int .i64 j ∧ Hid (Below w5.heap.size w5 wr)) (fun z _ => m - (intOf z).toNat)
      case atStart => exact ⟨0, Nat.zero_le _, rfl, Lib.hid (Below.refl _ _)⟩
      case round =>
        obtain ⟨j, hj, rfl, E⟩ := hrel
        by_cases hlt : j < m
        · have d1 : decide ((j : Int) < (m : Int)) = true := by simp; omega
          have p0 : (0 : Int) ≤ (j : Int) := by omega
          have p1 : (j : Int) < (m : Int) := by omega
          obtain ⟨nd, hnd⟩ : ∃ nd, t[j]? = some nd := ⟨_, List.getElem?_eq_getElem (by rw [Hm.out]; exact hlt)⟩
          have HNd := Lib.hid hnd
          have hmem := List.mem_of_getElem? hnd
          have HMem := Lib.hid hmem
          have HRr0 := HRt.out.below E.out
          obtain ⟨ad, x, rfl, hx, hc⟩ := HRr0.node hnd
          have HRr := Lib.hid HRr0
          clear HRr0 hx hc hmem
          have Hj9 := Lib.hid (show j < 128 by omega)
          rcases Nat.eq_zero_or_pos j with hj0 | hjp
          focus
            have h01 := HFi.out nd (by rw [← hj0]; exact hnd)
            have n1 : (nd.ino != 1) = false := by rw [h01.1]; rfl
            have k1 : (nd.kind != 1) = true := by rw [h01.2]; rfl
            have k2 : (nd.kind != 2) = false := by rw [h01.2]; rfl
            have g0 : decide ((0 : Int) < (j : Int)) = false := by simp; omega
            have gN : decide (0 < j) = false := by simp; omega
            clear h01 hnd hj0
            go_wp2_with fail
            refine WH.start (S := RdAt (some ad) t) [false, false, false, false, false, false, false, false, false, false, false, false, false, false, false, false, false, false, false, false, false, false, false, false, false, false, false, false, false, false, false, false, false, false, false, false, false, false, false, false, false, false, false, false, false, false, false, false, false, false] 50 rfl rfl (by kernel_rfl) (show RdAt (some ad) t wr.drew from RdL.below HRr.out (bdrew wr 1)) (fun hSn => ?_); obtain ⟨wq, hwS⟩ : ∃ x, (wr).drew = x := ⟨_, rfl⟩; have HE := Lib.hid (show Below (wr).heap.size (wr) wq from hwS ▸ bdrew wr 1); rw [hwS] at hSn ⊢; clear hwS
            refine WH.tk 0 ?_; simp only [setL]
            refine WH.tk 1 ?_; simp only [setL]
            refine WH.tk 2 ?_; simp only [setL]
            refine WH.tk 3 ?_; simp only [setL]
            refine WH.tv 4 rfl (fun w' hSw => exec_load_cell _ _ rfl (ad.add (j * 7)) rfl (.int .i64 nd.ino) (node_c0 hSw HNd.out) _ Tryz.underlying3 rfl) ?_; simp only [setL]
            refine WH.tk 5 ?_; simp only [setL]
            refine WH.tk 6 ?_; simp only [setL]
            refine WH.skip 7 _ rfl (by kernel_rfl) (fun _ _ _ h => h) rfl (by assumption) ?_; simp only [setL]
            refine WH.skip 8 _ rfl (by kernel_rfl) (fun _ _ _ h => h) rfl (by assumption) ?_; simp only [setL]
            refine WH.skip 9 _ rfl (by kernel_rfl) (fun _ _ _ h => h) rfl (by assumption) ?_; simp only [setL]
            refine WH.skip 10 _ rfl (by kernel_rfl) (fun _ _ _ h => h) rfl (by assumption) ?_; simp only [setL]
            refine WH.skip 11 _ rfl (by kernel_rfl) (fun _ _ _ h => h) rfl (by assumption) ?_; simp only [setL]
            refine WH.skip 12 _ rfl (by kernel_rfl) (fun _ _ _ h => h) rfl (by assumption) ?_; simp only [setL]
            refine WH.onlySkip 13 _ rfl (by kernel_rfl) rfl (by assumption) ?_; simp only [setL]
            refine WH.skip 14 _ rfl (by kernel_rfl) (fun _ _ _ h => h) rfl (by assumption) ?_; simp only [setL]
            refine WH.tk 15 ?_; simp only [setL]
            refine WH.tk 16 ?_; simp only [setL]
            refine WH.tk 17 ?_; simp only [setL]
            refine WH.tk 18 ?_; simp only [setL]
            refine WH.tk 19 ?_; simp only [setL]
            refine WH.skip 20 _ rfl (by kernel_rfl) (fun _ _ _ h => h) rfl (by assumption) ?_; simp only [setL]
            refine WH.skip 21 _ rfl (by kernel_rfl) (fun _ _ _ h => h) rfl (by assumption) ?_; simp only [setL]
            refine WH.skip 22 _ rfl (by kernel_rfl) (fun _ _ _ h => h) rfl (by assumption) ?_; simp only [setL]
            refine WH.skip 23 _ rfl (by kernel_rfl) (fun _ _ _ h => h) rfl (by assumption) ?_; simp only [setL]
            refine WH.skip 24 _ rfl (by kernel_rfl) (fun _ _ _ h => h) rfl (by assumption) ?_; simp only [setL]
            refine WH.skip 25 _ rfl (by kernel_rfl) (fun _ _ _ h => h) rfl (by assumption) ?_; simp only [setL]
            refine WH.skip 26 _ rfl (by kernel_rfl) (fun _ _ _ h => h) rfl (by assumption) ?_; simp only [setL]
            refine WH.skip 27 _ rfl (by kernel_rfl) (fun _ _ _ h => h) rfl (by assumption) ?_; simp only [setL]
            refine WH.skip 28 _ rfl (by kernel_rfl) (fun _ _ _ h => h) rfl (by assumption) ?_; simp only [setL]
            refine WH.skip 29 _ rfl (by kernel_rfl) (fun _ _ _ h => h) rfl (by assumption) ?_; simp only [setL]
            refine WH.skip 30 _ rfl (by kernel_rfl) (fun _ _ _ h => h) rfl (by assumption) ?_; simp only [setL]
            refine WH.skip 31 _ rfl (by kernel_rfl) (fun _ _ _ h => h) rfl (by assumption) ?_; simp only [setL]
            refine WH.tk 32 ?_; simp only [setL]
            refine WH.tk 33 ?_; simp only [setL]
            refine WH.tk 34 ?_; simp only [setL]
            refine WH.tk 35 ?_; simp only [setL]
            refine WH.tk 36 ?_; simp only [setL]
            refine WH.tk 37 ?_; simp only [setL]
            refine WH.tk 38 ?_; simp only [setL]
            refine WH.tv 39 rfl (fun w' hSw => exec_load_cell _ _ rfl ⟨(ad.add (j * 7)).block, (ad.add (j * 7)).off + 1, none⟩ rfl (.int .i64 nd.kind) (node_c1 hSw HNd.out) _ Tryz.underlying3 rfl) ?_; simp only [setL]
            refine WH.tk 40 ?_; simp only [setL]
            refine WH.tk 41 ?_; simp only [setL]
            refine WH.tk 42 ?_; simp only [setL]
            refine WH.tk 43 ?_; simp only [setL]
            refine WH.tk 44 ?_; simp only [setL]
            refine WH.tk 45 ?_; simp only [setL]
            refine WH.tv 46 rfl (fun w' hSw => exec_load_cell _ _ rfl ⟨(ad.add (j * 7)).block, (ad.add (j * 7)).off + 1, none⟩ rfl (.int .i64 nd.kind) (node_c1 hSw HNd.out) _ Tryz.underlying3 rfl) ?_; simp only [setL]
            refine WH.tk 47 ?_; simp only [setL]
            refine WH.tk 48 ?_; simp only [setL]
            refine WH.tk 49 ?_; simp only [setL]
            refine WH.done (by kernel_rfl) ?_
          rotate_left
          focus
            obtain ⟨i, hji⟩ : ∃ i, j = i + 1 := ⟨j - 1, by omega⟩
            have Hji := Lib.hid hji
            obtain ⟨pd, hpd⟩ : ∃ pd, t[i]? = some pd := ⟨_, List.getElem?_eq_getElem (by rw [Hm.out]; omega)⟩
            have HPd := Lib.hid hpd
            have hlt2 : pd.ino < nd.ino := by
              have h1 := List.pairwise_iff_getElem.1 HRi.out i j (List.getElem?_eq_some_iff.1 hpd).1 (List.getElem?_eq_some_iff.1 hnd).1 (by omega)
              rwa [(List.getElem?_eq_some_iff.1 hpd).2, (List.getElem?_eq_some_iff.1 hnd).2] at h1
            have hp1 := HLo.out pd (List.mem_of_getElem? hpd)
            have hne : nd.ino ≠ 1 := by omega
            have n1 : (nd.ino != 1) = true := by simpa using hne
            have HC1 := HCt.out nd HMem.out hne
            have HCt := Lib.hid (fun w h => tcount_any (some ad) m ct t Hm.out (by omega) HFw.out nd.ino w h)
            obtain ⟨C, hC⟩ : ∃ C, cntT t nd.ino = C := ⟨_, rfl⟩
            rw [hC] at HC1 HCt
            have c1 : decide ((C : Int) < 1) = false := by simp; omega
            have g0 : decide ((0 : Int) < (j : Int)) = true := by simp; omega
            have g1 : decide (nd.ino ≤ pd.ino) = false := by simp; omega
            have r0 : (0 : Int) ≤ (i : Int) := by omega
            have r1 : (i : Int) < (m : Int) := by omega
            clear hnd hpd hlt2 hp1 hne hC HC1 hji
            rcases HKd.out nd HMem.out with hk1 | hk2
            focus
              have k1 : (nd.kind != 1) = false := by rw [hk1]; rfl
              clear hk1
              go_wp2_with fail
              refine WH.start (S := RdAt (some ad) t) [false, false, false, false, false, false, false, false, false, false, false, false, false, false, false, false, false, false, false, false, false, false, false, false, false, false, false, false, false, false, false, false, false, false, false, false, false, false, false, false, false, false, false, false, false, false, false, false, false, false] 50 rfl rfl (by kernel_rfl) (show RdAt (some ad) t wr.drew from RdL.below HRr.out (bdrew wr 1)) (fun hSn => ?_); obtain ⟨wS, hwS⟩ : ∃ x, (wr).drew = x := ⟨_, rfl⟩; have HE := Lib.hid (show Below (wr).heap.size (wr) wS from hwS ▸ bdrew wr 1); rw [hwS] at hSn ⊢; clear hwS
              refine WH.tk 0 ?_; simp only [setL]
              refine WH.tk 1 ?_; simp only [setL]
              refine WH.tk 2 ?_; simp only [setL]
              refine WH.tk 3 ?_; simp only [setL]
              refine WH.tv 4 rfl (fun w' hSw => exec_load_cell _ _ rfl (ad.add (j * 7)) rfl (.int .i64 nd.ino) (node_c0 hSw HNd.out) _ Tryz.underlying3 rfl) ?_; simp only [setL]
              refine WH.tk 5 ?_; simp only [setL]
              refine WH.tk 6 ?_; simp only [setL]
              refine WH.tk 7 ?_; simp only [setL]
              refine WH.tk 8 ?_; simp only [setL]
              refine WH.tk 9 ?_; simp only [setL]
              refine WH.tk 10 ?_; simp only [setL]
              refine WH.tk 11 ?_; simp only [setL]
              refine WH.tv 12 rfl (fun w' hSw => exec_load_cell _ _ rfl (ad.add (j * 7)) rfl (.int .i64 nd.ino) (node_c0 hSw HNd.out) _ Tryz.underlying3 rfl) ?_; simp only [setL]
              refine WH.only 13 _ rfl (by kernel_rfl) rfl (fun K hK => ?_)
              go_simp; refine (HCt.out _ hSn).mono ?_; rintro e wq ⟨rfl, hba⟩; go_simp
              have HE := Lib.hid (bt HE.out hba)
              have hSn := RdL.below hSn hba; refine hK _ _ hSn ?_; clear hK; clear K; simp only [setL]
              refine WH.tk 14 ?_; simp only [setL]
              refine WH.tk 15 ?_; simp only [setL]
              refine WH.tk 16 ?_; simp only [setL]
              refine WH.tk 17 ?_; simp only [setL]
              refine WH.tk 18 ?_; simp only [setL]
              refine WH.tk 19 ?_; simp only [setL]
              refine WH.tk 20 ?_; simp only [setL]
              refine WH.tk 21 ?_; simp only [setL]
              refine WH.tv 22 rfl (fun w' hSw => exec_sub25 _ _ _ _ rfl j i rfl rfl Hji.out (by have := Hj9.out; omega)) ?_; simp only [setL]
              refine WH.tk 23 ?_; simp only [setL]
              refine WH.tk 24 ?_; simp only [setL]
              refine WH.tv 25 rfl (fun w' hSw => exec_load_cell _ _ rfl (ad.add (i * 7)) rfl (.int .i64 pd.ino) (node_c0 hSw HPd.out) _ Tryz.underlying3 rfl) ?_; simp only [setL]
              refine WH.tk 26 ?_; simp only [setL]
              refine WH.tk 27 ?_; simp only [setL]
              refine WH.tk 28 ?_; simp only [setL]
              refine WH.tk 29 ?_; simp only [setL]
              refine WH.tv 30 rfl (fun w' hSw => exec_load_cell _ _ rfl (ad.add (j * 7)) rfl (.int .i64 nd.ino) (node_c0 hSw HNd.out) _ Tryz.underlying3 rfl) ?_; simp only [setL]
              refine WH.tk 31 ?_; simp only [setL]
              refine WH.tk 32 ?_; simp only [setL]
              refine WH.tk 33 ?_; simp only [setL]
              refine WH.tk 34 ?_; simp only [setL]
              refine WH.tk 35 ?_; simp only [setL]
              refine WH.tk 36 ?_; simp only [setL]
              refine WH.tk 37 ?_; simp only [setL]
              refine WH.tk 38 ?_; simp only [setL]
              refine WH.tv 39 rfl (fun w' hSw => exec_load_cell _ _ rfl ⟨(ad.add (j * 7)).block, (ad.add (j * 7)).off + 1, none⟩ rfl (.int .i64 nd.kind) (node_c1 hSw HNd.out) _ Tryz.underlying3 rfl) ?_; simp only [setL]
              refine WH.tk 40 ?_; simp only [setL]
              refine WH.tk 41 ?_; simp only [setL]
              refine WH.skip 42 _ rfl (by kernel_rfl) (fun _ _ _ h => h) rfl (by assumption) ?_; simp only [setL]
              refine WH.skip 43 _ rfl (by kernel_rfl) (fun _ _ _ h => h) rfl (by assumption) ?_; simp only [setL]
              refine WH.skip 44 _ rfl (by kernel_rfl) (fun _ _ _ h => h) rfl (by assumption) ?_; simp only [setL]
              refine WH.skip 45 _ rfl (by kernel_rfl) (fun _ _ _ h => h) rfl (by assumption) ?_; simp only [setL]
              refine WH.skip 46 _ rfl (by kernel_rfl) (fun _ _ _ h => h) rfl (by assumption) ?_; simp only [setL]
              refine WH.skip 47 _ rfl (by kernel_rfl) (fun _ _ _ h => h) rfl (by assumption) ?_; simp only [setL]
              refine WH.tk 48 ?_; simp only [setL]
              refine WH.tk 49 ?_; simp only [setL]
              refine WH.done (by kernel_rfl) ?_
            rotate_left
            focus
              have k1 : (nd.kind != 1) = true := by rw [hk2]; rfl
              have k2 : (nd.kind != 2) = false := by rw [hk2]; rfl
              clear hk2
              go_wp2_with fail
              refine WH.start (S := RdAt (some ad) t) [false, false, false, false, false, false, false, false, false, false, false, false, false, false, false, false, false, false, false, false, false, false, false, false, false, false, false, false, false, false, false, false, false, false, false, false, false, false, false, false, false, false, false, false, false, false, false, false, false, false] 50 rfl rfl (by kernel_rfl) (show RdAt (some ad) t wr.drew from RdL.below HRr.out (bdrew wr 1)) (fun hSn => ?_); obtain ⟨wS, hwS⟩ : ∃ x, (wr).drew = x := ⟨_, rfl⟩; have HE := Lib.hid (show Below (wr).heap.size (wr) wS from hwS ▸ bdrew wr 1); rw [hwS] at hSn ⊢; clear hwS
              refine WH.tk 0 ?_; simp only [setL]
              refine WH.tk 1 ?_; simp only [setL]
              refine WH.tk 2 ?_; simp only [setL]
              refine WH.tk 3 ?_; simp only [setL]
              refine WH.tv 4 rfl (fun w' hSw => exec_load_cell _ _ rfl (ad.add (j * 7)) rfl (.int .i64 nd.ino) (node_c0 hSw HNd.out) _ Tryz.underlying3 rfl) ?_; simp only [setL]
              refine WH.tk 5 ?_; simp only [setL]
              refine WH.tk 6 ?_; simp only [setL]
              refine WH.tk 7 ?_; simp only [setL]
              refine WH.tk 8 ?_; simp only [setL]
              refine WH.tk 9 ?_; simp only [setL]
              refine WH.tk 10 ?_; simp only [setL]
              refine WH.tk 11 ?_; simp only [setL]
              refine WH.tv 12 rfl (fun w' hSw => exec_load_cell _ _ rfl (ad.add (j * 7)) rfl (.int .i64 nd.ino) (node_c0 hSw HNd.out) _ Tryz.underlying3 rfl) ?_; simp only [setL]
              refine WH.only 13 _ rfl (by kernel_rfl) rfl (fun K hK => ?_)
              go_simp; refine (HCt.out _ hSn).mono ?_; rintro e wq ⟨rfl, hba⟩; go_simp
              have HE := Lib.hid (bt HE.out hba)
              have hSn := RdL.below hSn hba; refine hK _ _ hSn ?_; clear hK; clear K; simp only [setL]
              refine WH.tk 14 ?_; simp only [setL]
              refine WH.tk 15 ?_; simp only [setL]
              refine WH.tk 16 ?_; simp only [setL]
              refine WH.tk 17 ?_; simp only [setL]
              refine WH.tk 18 ?_; simp only [setL]
              refine WH.tk 19 ?_; simp only [setL]
              refine WH.tk 20 ?_; simp only [setL]
              refine WH.tk 21 ?_; simp only [setL]
              refine WH.tv 22 rfl (fun w' hSw => exec_sub25 _ _ _ _ rfl j i rfl rfl Hji.out (by have := Hj9.out; omega)) ?_; simp only [setL]
              refine WH.tk 23 ?_; simp only [setL]
              refine WH.tk 24 ?_; simp only [setL]
              refine WH.tv 25 rfl (fun w' hSw => exec_load_cell _ _ rfl (ad.add (i * 7)) rfl (.int .i64 pd.ino) (node_c0 hSw HPd.out) _ Tryz.underlying3 rfl) ?_; simp only [setL]
              refine WH.tk 26 ?_; simp only [setL]
              refine WH.tk 27 ?_; simp only [setL]
              refine WH.tk 28 ?_; simp only [setL]
              refine WH.tk 29 ?_; simp only [setL]
              refine WH.tv 30 rfl (fun w' hSw => exec_load_cell _ _ rfl (ad.add (j * 7)) rfl (.int .i64 nd.ino) (node_c0 hSw HNd.out) _ Tryz.underlying3 rfl) ?_; simp only [setL]
              refine WH.tk 31 ?_; simp only [setL]
              refine WH.tk 32 ?_; simp only [setL]
              refine WH.tk 33 ?_; simp only [setL]
              refine WH.tk 34 ?_; simp only [setL]
              refine WH.tk 35 ?_; simp only [setL]
              refine WH.tk 36 ?_; simp only [setL]
              refine WH.tk 37 ?_; simp only [setL]
              refine WH.tk 38 ?_; simp only [setL]
              refine WH.tv 39 rfl (fun w' hSw => exec_load_cell _ _ rfl ⟨(ad.add (j * 7)).block, (ad.add (j * 7)).off + 1, none⟩ rfl (.int .i64 nd.kind) (node_c1 hSw HNd.out) _ Tryz.underlying3 rfl) ?_; simp only [setL]
              refine WH.tk 40 ?_; simp only [setL]
              refine WH.tk 41 ?_; simp only [setL]
              refine WH.tk 42 ?_; simp only [setL]
              refine WH.tk 43 ?_; simp only [setL]
              refine WH.tk 44 ?_; simp only [setL]
              refine WH.tk 45 ?_; simp only [setL]
              refine WH.tv 46 rfl (fun w' hSw => exec_load_cell _ _ rfl ⟨(ad.add (j * 7)).block, (ad.add (j * 7)).off + 1, none⟩ rfl (.int .i64 nd.kind) (node_c1 hSw HNd.out) _ Tryz.underlying3 rfl) ?_; simp only [setL]
              refine WH.tk 47 ?_; simp only [setL]
              refine WH.tk 48 ?_; simp only [setL]
              refine WH.tk 49 ?_; simp only [setL]
              refine WH.done (by kernel_rfl) ?_
          all_goals
            have Eq := Lib.hid (bt E.out HE.out)
            clear hSn HE HRr E
            obtain ⟨q, Hq⟩ : ∃ q, Hid (nd.names.length = q) := ⟨_, Lib.hid rfl⟩
            have hq4 : q ≤ 4096 := by rw [← Hq.out]; exact HFw.out nd HMem.out
            go_wp2_with fail
            go_loopw [7] (fun z wr => ∃ k : Nat, k ≤ q ∧ z = .int .i64 k ∧ Hid (Below w5.heap.size w5 wr)) (fun z _ => q - (intOf z).toNat)
            case atStart => exact ⟨0, Nat.zero_le _, rfl, Eq⟩
            case round =>
              obtain ⟨k, hk, rfl, F⟩ := hrel
              have HRk := HRt.out.below F.out
              obtain ⟨AS, dS, c6, hRN⟩ := node_c6 HRk HNd.out
              rw [Hq.out] at c6
              have HRN := Lib.hid hRN
              clear hRN
              by_cases hlk : k < q
              · have d2 : decide ((k : Int) < (q : Int)) = true := by simp; omega
                have q0 : (0 : Int) ≤ (k : Int) := by omega
                have q1 : (k : Int) < (q : Int) := by omega
                have hkl : k < nd.names.length := by rw [Hq.out]; exact hlk
                obtain ⟨e, he⟩ : ∃ e, nd.names[k]? = some e := ⟨_, List.getElem?_eq_getElem hkl⟩
                have hmem := List.mem_of_getElem? he
                have HB := Lib.hid (HTo.out nd HMem.out e hmem)
                have hk2 := HDr.out nd HMem.out e hmem
                have hkk : (nd.kind != 2) = false := by rw [hk2]; rfl
                obtain ⟨ae, hae⟩ := HRN.out.adr (k := k) (by rw [erows_len]; exact hkl) (by decide)
                subst hae
                have hrow := HRN.out.row (erow_at he) rfl
                have ce : wr.cell? ⟨(ae.add (k * 2)).block, (ae.add (k * 2)).off + 1, none⟩ = some (.int .i64 e.ino) := by
                  have h0 := hrow 0 _ rfl
                  rw [add_zero_addr] at h0
                  exact cell_add h0 (hrow 1 _ rfl)
                have HFd := Lib.hid (tfind_any (some ad) m ct t Hm.out (by omega) HFw.out HDa.out e.ino wr HRk)
                rw [HB.out] at HFd
                clear HRk he hmem hk2 hrow HB HRN
                go_wp2_with fail
                refine (HFd.out).mono ?_; rintro e wb ⟨⟨y, rfl⟩, hbb⟩
                have Fb := Lib.hid (bt F.out hbb)
                clear hbb HFd ce c6 F
                go_wp2_with (refine wpList_alloc_row rfl _ rfl _ Tryz.ndZero ?_)
                apply Stop.go; intro wc Hgc Hbc
                go_wp2_with (refine wpList_store_arr rfl _ _ _ rfl _ (ncells y) rfl rfl _ _ Hbc.out Tryz.ndSize rfl (ncells_one y) ?_)
                apply Stop.go; intro wd Hod Hbd
                have Fd := Lib.hid (bt Fb.out (bonly Hgc.out.1 Hod.out (Nat.le_refl _)))
                have ck := node_c1 (HRt.out.below Fd.out) HNd.out
                clear Hgc Hbc Hod Hbd Fb
                go_wp2_with fail
                go_roundw
                case rel => exact ⟨k + 1, by omega, by go_num, Fd⟩
                case measure => simp [intOf]; omega
              · obtain rfl : k = q := by omega
                have d2 : decide ((k : Int) < (k : Int)) = false := by simp
                clear HRk HRN
                go_wp2_with fail
                go_roundw
                case rel => exact ⟨j + 1, by omega, by go_num, F⟩
                case measure => simp [intOf]; omega
        · obtain rfl : j = m := by omega
          have d1 : decide ((j : Int) < (j : Int)) = false := by simp
          have HVe := Lib.hid (HV5.out.ext E.out)
          have Ee := Lib.hid (bt E5.out E.out)
          have HFe := Lib.hid (HF5.out.below E.out)
          obtain ⟨z, Hz⟩ : ∃ z, Hid (fld X 0 = z) := ⟨_, Lib.hid rfl⟩
          rw [Hm.out, Hz.out] at HAn
          have hk : ∀ w : World, (Instr.field 59 (.agg (icells X)) 0).run Tryz.prog w = .ok (.int .i64 z) w := fun w => by rw [← Hz.out]; exact run_field_kind HXL.out w
          have HK := Lib.hid hk
          clear hk
          by_cases hz2 : z = 2
          · have gn := HAn.out.2 hz2
            have g0 : decide ((0 : Int) < (j : Int)) = true := by simp; omega
            have gN : decide (0 < j) = true := by simp; omega
            clear gn
            have z2 : (z == 2) = true := by simpa using hz2
            clear hz2
            go_wp2_with (refine wpList_load_blk rfl _ _ rfl _ rfl _ _ HVe.out _ Tryz.underlying44 rfl Tryz.viewSize ?_)
            refine (HIn.out _ HFe.out).mono ?_; rintro e w8 ⟨rfl, hb8⟩
            have E8 := Lib.hid (bt Ee.out hb8)
            clear hb8
            go_wp2_with (refine wpList_field rfl _ _ _ rfl _ _ rfl (HK.out _) ?_)
            refine (hw _).mono ?_; rintro e w9 ⟨rfl, hb9⟩
            go_wp2_with fail
            go_ret
            exact ⟨rfl, bt E8.out hb9⟩
          · have h0 : ¬ 0 < j := fun h => hz2 (HAn.out.1 h)
            have g0 : decide ((0 : Int) < (j : Int)) = false := by simp; omega
            have gN : decide (0 < j) = false := by simp; omega
            clear h0
            have z2 : (z == 2) = false := by simpa using hz2
            clear hz2
            go_wp2_with (refine wpList_load_blk rfl _ _ rfl _ rfl _ _ HVe.out _ Tryz.underlying44 rfl Tryz.viewSize ?_)
            refine (HIn.out _ HFe.out).mono ?_; rintro e w8 ⟨rfl, hb8⟩
            have E8 := Lib.hid (bt Ee.out hb8)
            clear hb8
            go_wp2_with (refine wpList_field rfl _ _ _ rfl _ _ rfl (HK.out _) ?_)
            refine (hw _).mono ?_; rintro e w9 ⟨rfl, hb9⟩
            go_wp2_with fail
            go_ret
            exact ⟨rfl, bt E8.out hb9⟩

end Go.Proofs.YtkakihbfhmiabaaGreat
