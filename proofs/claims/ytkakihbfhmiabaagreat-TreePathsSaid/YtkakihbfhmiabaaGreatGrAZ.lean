/-
  Texts of this claim joined: Frd3, Ref02l, Tre9.
-/
import Derived.Test.YtkakihbfhmiabaaGreatFrd2
import Derived.Test.YtkakihbfhmiabaaGreatGrAC
import Derived.Test.YtkakihbfhmiabaaGreatGrBA
import Derived.Test.YtkakihbfhmiabaaGreatGrAY
import Derived.Test.YtkakihbfhmiabaaGreatTre2
import Derived.Test.YtkakihbfhmiabaaGreatLaw24w

/-
  Contracts of package fread: All.
-/
namespace Go.Proofs.YtkakihbfhmiabaaGreat
open Go.RowKit
set_option maxRecDepth 10000

theorem readR_all (l : Lay14) (T : Int → List UInt8) (X : List Int) {S : Nat} (h : sizeR X = S) : readR l T X 0 (S : Int) = segR l T X 0 S := by
  unfold readR
  rw [if_neg (by omega), h]
  congr 1
  omega
set_option maxHeartbeats 1600000 in
theorem fallo_any (l : Lay14) (f : Value) (T : Int → List UInt8) (hT : ∀ no, (T no).length = 256) (X : List Int) (hX : X.length = 11) (w : World) (hf : FV w l f T) :
    Calls Tryz.prog 63 #[.agg (vval l f), .agg (icells X)] w (RetO w 5 (segR l T X 0 (sizeR X))) := by
  have HXL := Lib.hid hX
  have HF := Lib.hid hf
  obtain ⟨S, HS⟩ : ∃ S, Hid (sizeR X = S) := ⟨_, Lib.hid rfl⟩
  have hS : S ≤ 34304 := by rw [← HS.out]; exact sizeR_le X
  have HSz := Lib.hid (fun w => fsize_any X hX w)
  rw [HS.out] at HSz ⊢
  have HRd := Lib.hid (fun w h => freado_any l f T hT X hX 0 (S : Int) (by omega) (by omega) w h)
  rw [readR_all l T X HS.out] at HRd
  clear hX hT hf HS hS
  go_enter Tryz.func63, Tryz.ntmps63
  go_wp2_with (refine wpList_box_row rfl _ _ rfl _ rfl ?_)
  apply Stop.go; intro w1 Hg1 Hb1
  go_wp2_with (refine wpList_box_row rfl _ _ rfl _ rfl ?_)
  apply Stop.go; intro w2 Hg2 Hb2
  have HV2 := Lib.hid (Hb1.out.ext Hg2.out.1)
  have E2 := Lib.hid (bt Hg1.out.1 Hg2.out.1)
  have HF2 := Lib.hid (HF.out.below E2.out)
  generalize w1.heap.size = g1 at *
  clear Hg1 Hb1 Hg2 HF
  go_wp2_with fail
  refine WH.start (S := fun w' : World => Blk w' w.heap.size 44 (vval l f) ∧ FV w' l f T ∧ Blk w' g1 59 (icells X)) [false, false, false, false, false, false] 6 rfl rfl (by kernel_rfl) ⟨HV2.out.ext (bdrew w2 1), HF2.out.below (bdrew w2 1), Hb2.out.ext (bdrew w2 1)⟩ (fun hSn => ?_); obtain ⟨wS, hwS⟩ : ∃ x, (w2).drew = x := ⟨_, rfl⟩; have HE := Lib.hid (show Below (w2).heap.size (w2) wS from hwS ▸ bdrew w2 1); rw [hwS] at hSn ⊢; clear hwS
  refine WH.tv 0 rfl (fun w' hSw => exec_load_blk _ _ rfl _ rfl _ _ (hSw.1) _ (Tryz.underlying44) rfl (Tryz.viewSize)) ?_; simp only [setL]
  refine WH.tv 1 rfl (fun w' hSw => exec_load_blk _ _ rfl _ rfl _ _ (hSw.2.2) _ (Tryz.underlying59) rfl ((Tryz.inoFits HXL.out))) ?_; simp only [setL]
  refine WH.tv 2 rfl (fun w' hSw => exec_load_blk _ _ rfl _ rfl _ _ (hSw.2.2) _ (Tryz.underlying59) rfl ((Tryz.inoFits HXL.out))) ?_; simp only [setL]
  refine WH.only 3 _ rfl (by kernel_rfl) rfl (fun K hK => ?_)
  go_simp; refine (HSz.out _).mono ?_; rintro e wa ⟨rfl, hba⟩; go_simp
  have HE := Lib.hid (bt HE.out hba)
  have hSn := And.intro (hSn.1.ext hba) (And.intro (hSn.2.1.below hba) (hSn.2.2.ext hba)); refine hK _ _ hSn ?_; clear hK; clear K; simp only [setL]
  refine WH.only 4 _ rfl (by kernel_rfl) rfl (fun K hK => ?_)
  go_simp; refine (HRd.out _ hSn.2.1).mono ?_; rintro e wb ⟨v, rfl, hv, hbb⟩; go_simp
  have HV := Lib.hid (hv.lowO (Nat.le_trans E2.out.size HE.out.size))
  have HE := Lib.hid (bt HE.out hbb)
  have hSn := And.intro (hSn.1.ext hbb) (And.intro (hSn.2.1.below hbb) (hSn.2.2.ext hbb)); refine hK _ _ hSn ?_; clear hK; clear K; simp only [setL]
  refine WH.tk 5 ?_; simp only [setL]
  refine WH.done (by kernel_rfl) ?_
  go_wp2_with fail
  go_ret
  exact ⟨_, rfl, HV.out, bt E2.out HE.out⟩
theorem fallR_any (l : Lay14) (f : Value) (T : Int → List UInt8) (hT : ∀ no, (T no).length = 256) (X : List Int) (hX : X.length = 11) (w : World) (hf : FV w l f T) :
    Calls Tryz.prog 63 #[.agg (vval l f), .agg (icells X)] w (RetB w (segR l T X 0 (sizeR X))) := (fallo_any l f T hT X hX w hf).mono fun _ _ h => h.b

end Go.Proofs.YtkakihbfhmiabaaGreat

/-
  Contracts of the document's answers 02: the functions of lists of texts.
-/
namespace Go.Proofs.YtkakihbfhmiabaaGreat
open Go.RowKit


set_option maxHeartbeats 400000 in
theorem rtexts_any (A : Option Addr) (n cap : Nat) (l : List ByteArray) (hn : l.length = n) (A' : Option Addr) (n' cap' : Nat) (l' : List ByteArray) (hn' : l'.length = n') (hm : n ≤ maxLen) (hm' : n' ≤ maxLen) (w : World) (hr : RC w A (svals l)) (hr' : RC w A' (svals l')) :
    Calls Tryz.prog 12 #[.slice A n cap, .slice A' n' cap'] w (RetQ (.bool (decide (l = l'))) w) := by
  unfold maxLen at hm hm'
  have Hn := Lib.hid hn
  have Hn' := Lib.hid hn'
  by_cases hne : n = n'
  · subst hne
    clear hn hn'
    have hb : ((n : Int) != (n : Int)) = false := by simp
    go_enter Tryz.func12, Tryz.ntmps12
    go_wp2_with fail
    go_loopw [5] (fun i wr => ∃ k : Nat, k ≤ n ∧ i = .int .i64 k ∧ l.take k = l'.take k ∧ ∃ m, wr = w.drewN m) (fun i _ => n - (intOf i).toNat)
    case atStart => exact ⟨0, Nat.zero_le _, rfl, rfl, 0, rfl⟩
    case round =>
      obtain ⟨k, hk, rfl, heq, m, rfl⟩ := hrel
      have Heq := Lib.hid heq
      clear heq
      by_cases hlt : k < n
      · obtain ⟨ad, rfl, hc⟩ := hr.str k (by rw [Hn.out]; omega)
        obtain ⟨ad', rfl, hc'⟩ := hr'.str k (by rw [Hn'.out]; omega)
        have hbe := bytes_eq (l[k]'(by rw [Hn.out]; omega)) (l'[k]'(by rw [Hn'.out]; omega))
        by_cases hx : (l[k]'(by rw [Hn.out]; omega)) = (l'[k]'(by rw [Hn'.out]; omega))
        · rw [decide_eq_true hx] at hbe
          have Hx := Lib.hid hx
          clear hx
          go_wp2_with fail
          go_quiet (fail)
          go_wp2_with fail
          go_roundw
          case rel =>
            refine ⟨k + 1, by omega, by go_num, ?_, m + nq, ?_⟩
            · rw [List.take_succ_eq_append_getElem (by rw [Hn.out]; omega), List.take_succ_eq_append_getElem (by rw [Hn'.out]; omega), Heq.out, Hx.out]
            · first | rfl | simp only [World.drewN_drewN]
          case measure => simp [intOf]; omega
        · rw [decide_eq_false hx] at hbe
          have Hx := Lib.hid hx
          clear hx
          go_wp2_with fail
          go_quiet (fail)
          go_wp2_with fail
          go_ret
          refine ⟨?_, m + nq, ?_⟩
          · rw [decide_eq_false (fun h => Hx.out (by subst h; rfl))]; rfl
          · first | rfl | simp only [World.drewN_drewN]
      · go_wp2_with fail
        go_ret
        refine ⟨?_, m, rfl⟩
        have : l = l' := by
          have h := Heq.out
          rwa [List.take_of_length_le (by rw [Hn.out]; omega), List.take_of_length_le (by rw [Hn'.out]; omega)] at h
        rw [decide_eq_true this]; rfl
  · have hb : ((n : Int) != (n' : Int)) = true := by simp; omega
    clear hn hn'
    go_enter Tryz.func12, Tryz.ntmps12
    go_wp2_with fail
    go_ret
    refine ⟨?_, 0, rfl⟩
    rw [decide_eq_false (fun h => hne (by rw [← Hn.out, ← Hn'.out, h]))]; rfl


end Go.Proofs.YtkakihbfhmiabaaGreat

/-
  Contract of package tree's Find: whether there is one.
-/
namespace Go.Proofs.YtkakihbfhmiabaaGreat
open Go.RowKit
set_option maxRecDepth 10000

/-- A node's block, its data whatever they are. -/
def NdAny (t : TypeId) (x : Nc) (g : Nat) (w : World) : Prop := ∃ (A : Option Addr) (n c : Nat), Blk w g t (ncells ⟨x.ino, x.kind, x.links, x.parent, x.size, A, n, c, x.S, x.m, x.d⟩)
theorem NdAny.ext {t : TypeId} {x : Nc} {g : Nat} {w w' : World} (h : NdAny t x g w) (hb : Below w.heap.size w w') : NdAny t x g w' := by
  obtain ⟨A, n, c, h⟩ := h
  exact ⟨A, n, c, h.ext hb⟩
theorem NdAny.names {t : TypeId} {x : Nc} {g : Nat} {w : World} (h : NdAny t x g w) : w.cell? ⟨g, 6, none⟩ = some (.slice x.S x.m x.d) := by
  obtain ⟨A, n, c, h⟩ := h
  exact h.cell 6
theorem Tryz.ndBuilt0 : Tryz.prog.built 51 [] = some (ncells ⟨0, 0, 0, 0, 0, none, 0, 0, none, 0, 0⟩) := by kernel_rfl
theorem Tryz.bysSize25 : (Tryz.prog.info? 26).map (·.size) = some 1 := by kernel_rfl
set_option maxHeartbeats 3200000 in
theorem tfind_any (A : Option Addr) (n cap : Nat) (t : List Nd) (hn : t.length = n) (hm : n ≤ 4096) (hmn : ∀ x ∈ t, x.names.length ≤ 4096) (hmd : ∀ x ∈ t, x.data.length ≤ 140737488355328) (i : Int) (w : World) (hr : RdL RdN w A 7 t) :
    Calls Tryz.prog 19 #[.slice A n cap, .int .i64 i] w fun e w' => (∃ y, e = .returned (.tuple #[.agg (ncells y), .bool (fstI t i).isSome])) ∧ Below w.heap.size w w' := by
  have HW := Lib.hid (fun w h => twhere_any A n cap t hn (by unfold maxLen; omega) i w h)
  have HR := Lib.hid hr
  have Hn := Lib.hid hn
  have HMn := Lib.hid hmn
  have HMd := Lib.hid hmd
  have HZ := Lib.hid (whI_neg (t := t) (i := i))
  have HSo := Lib.hid (fun k (h : fstI t i = some k) => And.intro (whI_some h) (fstI_at h))
  obtain ⟨b, hb⟩ : ∃ b, (fstI t i).isSome = b := ⟨_, rfl⟩
  have HB := Lib.hid hb
  rw [hb] at HZ ⊢
  clear hn hr hmn hmd hb
  go_enter Tryz.func19, Tryz.ntmps19
  go_wp2_with (refine wpList_alloc_row rfl _ rfl _ Tryz.ndZero ?_)
  apply Stop.go; intro w1 Hg1 Hb1
  have E1 := Lib.hid Hg1.out.1
  have zr := Lib.hid (show w.heap.size < w1.heap.size by have := Hg1.out.2; omega)
  clear Hg1
  go_wp2_with fail
  refine (HW.out _ (HR.out.below E1.out)).mono ?_; rintro e w2 ⟨rfl, hb2⟩
  have E2 := Lib.hid (bt E1.out hb2)
  have HR2 := Lib.hid (Hb1.out.ext hb2)
  clear hb2 Hb1 E1 HW
  obtain ⟨z, Hz⟩ : ∃ z, Hid (whI t i = z) := ⟨_, Lib.hid rfl⟩
  rw [Hz.out] at HZ ⊢
  cases b
  · have d0 : decide (z < 0) = true := HZ.out
    go_wp2_with (first | refine wpList_build_nil rfl _ rfl _ Tryz.ndBuilt0 ?_ | refine wpList_store_arr rfl _ _ _ rfl _ (ncells ⟨0, 0, 0, 0, 0, none, 0, 0, none, 0, 0⟩) rfl rfl _ _ HR2.out Tryz.ndSize rfl (ncells_one _) ?_)
    apply Stop.go; intro w3 Ho3 Hb3
    go_wp2_with ((with_reducible show bodyPost _ _ _ _ _ _); refine bodyPost_struct_tmp rfl _ rfl _ _ Hb3.out _ Tryz.underlying51 rfl Tryz.ndSize rfl _ rfl ?_)
    apply Stop.go
    exact ⟨⟨_, rfl⟩, bonly E2.out Ho3.out (Nat.le_refl _)⟩
  · have d0 : decide (z < 0) = false := HZ.out
    obtain ⟨k, hk⟩ := Option.isSome_iff_exists.1 HB.out
    obtain ⟨h1, nd, hnd, _⟩ := HSo.out k hk
    have hzk : z = (k : Int) := by rw [← Hz.out, h1]
    subst hzk
    have hkl : k < n := by rw [← Hn.out]; exact (List.getElem?_eq_some_iff.1 hnd).1
    have p0 : (0 : Int) ≤ (k : Int) := by omega
    have p1 : (k : Int) < (n : Int) := by omega
    obtain ⟨ad, x, rfl, hx, hc⟩ := (HR.out.below E2.out).node hnd
    have HRw := Lib.hid hc
    have HX := Lib.hid hx
    have HCb := Lib.hid (fun w h => tcloB_any x.A x.n x.c nd.data hx.dn.symm (by rw [hx.dn]; exact HMd.out nd (List.mem_of_getElem? hnd)) w h)
    have HCe := Lib.hid (fun w h => tcloE_any x.S x.m x.d nd.names hx.sn.symm (by rw [hx.sn]; exact HMn.out nd (List.mem_of_getElem? hnd)) w h)
    clear hk h1 hnd hx hc HSo HB HZ Hz hkl
    go_wp2_with (first | refine wpList_load_cells rfl _ _ rfl (ad.add (k * 7)) rfl _ Tryz.underlying51 (nrow x) Tryz.ndSize HRw.out ?_ | refine wpList_alloc_row rfl _ rfl _ Tryz.ndZero ?_)
    apply Stop.go; intro w3 Hg3 Hb3
    go_wp2_with (refine wpList_store_arr rfl _ _ _ rfl _ (ncells x) rfl rfl _ _ Hb3.out Tryz.ndSize rfl (ncells_one x) ?_)
    apply Stop.go; intro w4 Ho4 Hb4
    have D4 := Lib.hid (bonly Hg3.out.1 Ho4.out (Nat.le_refl _))
    have E4 := Lib.hid (bt E2.out D4.out)
    have HR4 := Lib.hid (HR2.out.ext D4.out)
    have HX4 := Lib.hid (HX.out.below D4.out)
    have zg := Lib.hid (show w.heap.size < w2.heap.size from HR2.out.lt)
    generalize w2.heap.size = g7 at *
    clear Hg3 Hb3 Ho4 D4 HRw HR2 E2 HX
    go_wp2_with fail
    refine WT.start 9 (S := NdAny 51 x g7) [false, false, false, false, false, false, false, false, false, false] 10 rfl rfl (by kernel_rfl) ⟨x.A, x.n, x.c, Hb4.out.ext (bdrew w4 1)⟩ (fun hSn => ?_); obtain ⟨wS, hwS⟩ : ∃ x, (w4).drew = x := ⟨_, rfl⟩; have HE := Lib.hid (show Below (w4).heap.size (w4) wS from hwS ▸ bdrew w4 1); rw [hwS] at hSn ⊢; clear hwS
    have HbS := Lib.hid (Hb4.out.ext HE.out)
    have HXS := Lib.hid (HX4.out.below HE.out)
    refine WT.tk 0 ?_; simp only [setL]
    refine WT.tk 3 ?_; simp only [setL]
    refine WT.tv 4 rfl (fun w' hSw => exec_load_cell _ _ rfl ⟨g7, 6, none⟩ rfl (.slice x.S x.m x.d) hSw.names _ Tryz.underlying27 rfl) ?_; simp only [setL]
    refine WT.only 1 _ rfl (by kernel_rfl) rfl (fun K hK => ?_)
    refine ow_exec24 (exec_load_cell _ _ rfl ⟨g7, 5, none⟩ rfl (.slice x.A x.n x.c) (HbS.out.cell 5) _ Tryz.underlying26 rfl) ?_
    have hSn := hSn; refine hK _ _ hSn ?_; clear hK; clear K; simp only [setL]
    refine WT.only 2 _ rfl (by kernel_rfl) rfl (fun K hK => ?_)
    go_simp; refine (HCb.out _ HXS.out.data).mono ?_; rintro e wa ⟨⟨va, rfl, hva⟩, hba⟩; go_simp
    have HXa := Lib.hid (HXS.out.below hba)
    have HE := Lib.hid (bt HE.out hba)
    have hSn := hSn.ext hba; refine hK _ _ hSn ?_; clear hK; clear K; simp only [setL]
    refine WT.tk 6 ?_; simp only [setL]
    refine WT.only 5 _ rfl (by kernel_rfl) rfl (fun K hK => ?_)
    go_simp; refine (HCe.out _ HXa.out.names).mono ?_; rintro e wb ⟨⟨vb, rfl, hvb⟩, hbb⟩; go_simp
    have HE := Lib.hid (bt HE.out hbb)
    have hSn := hSn.ext hbb; refine hK _ _ hSn ?_; clear hK; clear K; simp only [setL]
    obtain ⟨Aa, ca, hva', _, _, _⟩ := hva.read
    obtain ⟨Ab, cb, hvb', _, _, _⟩ := hvb.read
    subst hva'
    subst hvb'
    clear hva hvb
    obtain ⟨A0, n0, c0, hb0⟩ := hSn
    refine WT.only 7 _ rfl (by kernel_rfl) rfl (fun K hK => ?_)
    refine ow_store_cell _ _ _ rfl Tryz.bysSize25 g7 5 rfl _ rfl rfl rfl _ _ hb0 (show 5 < 7 by decide) ?_
    apply Stop.go; intro wc Hoc Hbc
    have HRc := Lib.hid ((HR4.out.ext HE.out).only Hoc.out (Nat.ne_of_lt zg.out))
    have Ec := Lib.hid (bonly (bt E4.out HE.out) Hoc.out (Nat.le_of_lt zg.out))
    have HBc := Lib.hid (show Blk wc g7 51 (ncells ⟨x.ino, x.kind, x.links, x.parent, x.size, Aa, nd.data.length, ca, x.S, x.m, x.d⟩) from Hbc.out)
    have hSc : NdAny 51 x g7 wc := ⟨_, _, _, HBc.out⟩
    have hSn := hSc; refine hK _ _ hSn ?_; clear hK; clear K; simp only [setL]
    refine WT.tk 8 ?_; simp only [setL]
    refine WT.last _ rfl (by kernel_rfl) rfl (fun K hK => ?_)
    refine ow_store_cell _ _ _ rfl Tryz.entsSize g7 6 rfl _ rfl rfl rfl _ _ HBc.out (show 6 < 7 by decide) ?_
    apply Stop.go; intro wd Hod Hbd
    have HRd := Lib.hid (HRc.out.only Hod.out (Nat.ne_of_lt zg.out))
    have Ed := Lib.hid (bonly Ec.out Hod.out (Nat.le_of_lt zg.out))
    have HBd := Lib.hid (show Blk wd g7 51 (ncells ⟨x.ino, x.kind, x.links, x.parent, x.size, Aa, nd.data.length, ca, Ab, (erows nd.names).length, cb⟩) from Hbd.out)
    refine hK _ _ ?_; clear hK; clear K; simp only [setL]; refine WT.done (by kernel_rfl) ?_
    clear hSn hb0 Hoc Hbc HBc Hod Hbd HRc Ec HbS HXS HXa hba hbb
    generalize (⟨x.ino, x.kind, x.links, x.parent, x.size, Aa, nd.data.length, ca, Ab, (erows nd.names).length, cb⟩ : Nc) = y at *
    go_wp2_with (first | refine wpList_load_blk rfl _ _ rfl _ rfl _ _ HBd.out _ Tryz.underlying51 rfl Tryz.ndSize ?_ | refine wpList_store_arr rfl _ _ _ rfl _ (ncells y) rfl rfl _ _ HRd.out Tryz.ndSize rfl (ncells_one y) ?_)
    apply Stop.go; intro we Hoe Hbe
    go_wp2_with ((with_reducible show bodyPost _ _ _ _ _ _); refine bodyPost_struct_tmp rfl _ rfl _ _ Hbe.out _ Tryz.underlying51 rfl Tryz.ndSize rfl _ rfl ?_)
    apply Stop.go
    exact ⟨⟨y, rfl⟩, bonly Ed.out Hoe.out (Nat.le_refl _)⟩

end Go.Proofs.YtkakihbfhmiabaaGreat
