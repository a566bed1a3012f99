/-
  The program's: the keys of what is left, in order (maps.Keys, slices.Sorted); Left.
-/
import Derived.Test.YtknbjdldmednlaaGreatCa14
import Derived.Test.YtknbjdldmednlaaGreatGrN
import Derived.Lib.SlKeysI
import Derived.Shelf.SlIterI.Sorted
import Derived.Shelf.SortM.Plain
import Derived.Shelf.SortM.SortNone
namespace Go.Proofs.YtknbjdldmednlaaGreat
open Go.RowKit Go.Maps Go.Sort Go.Shelf

theorem Tryz.sortsIn (m : Nat) : AnyZI.SortsIn Tryz.prog laysSorted_ren Fence.wide m :=
  ⟨fun blk off cap ss W hH hblk hsz => callsIn_wide.2 (AnyM.slices_Sort_int laysSortM blk off cap ss W hH hblk hsz),
   fun p cap W => callsIn_wide.2 (AnyM.slices_Sort_int_none laysSortM p cap W)⟩
theorem keys_any (b : Nat) (w : World) : Calls Tryz.prog 38 #[.map (some b)] w fun e w' => e = .returned (.func (.func 66) #[] #[.pointer (some ⟨w.heap.size, 0, none⟩)]) ∧ w' = w.alloc (.cells #[.map (some b)] 71) :=
  (callsIn_wide (n := 5)).1 (AnyZI.keys_in laysKeys Fence.wide 5 trivial rfl (some b) w)
theorem RdL.hiMono {w : World} {B B' : Nat} {A : Option Addr} {l : List Cg} (h : RdL (RdHi B) w A 5 l) (hb : B' ≤ B) : RdL (RdHi B') w A 5 l := by
  obtain ⟨rows, h1, h2, h3, h4⟩ := h
  exact ⟨rows, h1, h2, h3, fun k hk hk' => ⟨(h4 k hk hk').1, fun g hg => Nat.le_trans hb ((h4 k hk hk').2 g hg)⟩⟩
/-- The keys of a map, sorted. -/
theorem sortedKeys_any {zv : Value} {b n : Nat} {m : Int → Option Value} (w : World) (hM : MapZ zv w Tryz.prog 3 b n m) (ids : List Int) (hr : RiseI ids) (hi : ∀ x, x ∈ ids ↔ (m x).isSome = true) (hl : ids.length ≤ 100000) (g : Nat) (hg : w.cell? ⟨g, 0, none⟩ = some (.map (some b))) :
    Calls Tryz.prog 37 #[.func (.func 66) #[] #[.pointer (some ⟨g, 0, none⟩)]] w fun e w' => ∃ v, e = .returned v ∧ OwnC w' w.heap.size 3 v (ivals ids) ∧ Below w.heap.size w w' := by
  obtain ⟨D, hown, _, hat⟩ := hM
  have hperm : ids.Perm (intKeys D) := CollectedI.perm (left := fun _ => false) ⟨hr.nodup, fun x => by rw [hi, ← (hat x).2]; simp⟩ hown (int_keyed Tryz.underlying3) Tryz.underlying3 (fun _ => rfl)
  have hsz : Maps.size D = ids.length := by
    obtain ⟨es, hD, _⟩ := hown.entries (int_keyed Tryz.underlying3)
    subst hD
    rw [hperm.length_eq]
    show es.length = (es.map _).length
    rw [List.length_map]
  have hseq : SeqGives Fence.wide 2 Tryz.prog 66 #[.pointer (some ⟨g, 0, none⟩)] encZ (fun ss => ss.Perm (intKeys D)) (Maps.size D) w :=
    AnyZI.keys_gives (ρ := laysKeys_ren) { laysKeys with } Fence.wide _ trivial rfl (by omega) g b n D w (block_lt_of_cell hg) hg hown
  have cS := AnyZI.sorted_in laysSorted Fence.wide 5 trivial trivial trivial trivial rfl (by omega) (Tryz.sortsIn _) (enters_of Tryz.func40 (by kernel_rfl) rfl) 66 #[.pointer (some ⟨g, 0, none⟩)] trivial (enters_of Tryz.func66 (by kernel_rfl) rfl) _ _ (by rw [hsz]; unfold maxLen; omega) (by rw [hsz]; omega) _ hseq
  refine (callsIn_wide.1 cS).mono ?_
  rintro e w' ⟨v, ss, rfl, hss, hrow, _, hb⟩
  refine ⟨v, rfl, ?_, hb⟩
  have hp : ss.Perm ids := hss.trans hperm.symm
  have hms : ss.mergeSort (fun x y => decide (x ≤ y)) = ids := by
    have hpm := (List.mergeSort_perm ss (fun x y => decide (x ≤ y))).trans hp
    refine RiseI.uniq ?_ hr fun x => hpm.mem_iff
    have h1 : (ss.mergeSort (fun x y => decide (x ≤ y))).Pairwise (fun a b => decide (a ≤ b) = true) := List.pairwise_mergeSort (fun a b c h1 h2 => by simp only [decide_eq_true_eq] at *; omega) (fun a b => by simp only [Bool.or_eq_true, decide_eq_true_eq]; omega) ss
    have h2 : (ss.mergeSort (fun x y => decide (x ≤ y))).Nodup := hpm.nodup_iff.2 hr.nodup
    refine List.Pairwise.imp₂ (fun a b ha hb => ?_) h1 h2
    simp only [decide_eq_true_eq] at ha
    omega
  rw [hms, hp.length_eq] at hrow
  unfold OwnC
  rw [ivals_len]
  exact hrow

theorem Sim.cgs {S : CS} {x : DC} {W : Int → List Int} (h : Sim S x W) {k : Nat} (hk : k < x.list.length) : ∃ c, x.list[k] = c ∧ S.cg c.id = c ∧ S.live c.id = true ∧ S.lf c.id = true ∧ c.p.data.length ≤ 256 ∧ c.needs.length ≤ x.last := by
  have hc := List.getElem_mem hk
  have hid : x.list[k].id ∈ idsC x.list := idsC_mem.2 ⟨_, hc, rfl⟩
  have hr := Pt.right_iff.1 (may_right h.ok.may _ hc).1
  exact ⟨_, rfl, h.dep.cg _ hc, (h.live _).2 (h.rng hid), (h.has _).2 hid, hr.2.1, h.ok.nlen _ hc⟩
set_option maxRecDepth 100000 in
set_option maxHeartbeats 8000000 in
theorem left_any {w : World} {ro : Nat → Option Rl} {A : CA} {S : CS} {x : DC} {W : Int → List Int} (h : HP w ro A S) (hs : Sim S x W) (hl : x.last ≤ 1000) :
    Calls Tryz.prog 16 #[ptr A.ca] w (RetCH w x.list) := by
  have H := Lib.hid h
  have HS := Lib.hid hs
  have c2 : w.cell? ⟨A.ca, 2, none⟩ = some (.map (some A.ml)) := h.cc.cell 2
  have hln : x.list.length ≤ 1000 := by have := hs.ok.wrote; omega
  obtain ⟨n, hn⟩ : ∃ n, x.list.length = n := ⟨_, rfl⟩
  have HN := Lib.hid hn
  have hil : (idsC x.list).length = n := by unfold idsC; rw [List.length_map]; exact hn
  have HIL := Lib.hid hil
  rw [hn] at hln
  clear h hs hn hil
  unfold ptr
  go_enter Tryz.func16, Tryz.ntmps16
  go_wp2_with fail
  refine (keys_any A.ml _).mono ?_; rintro e w1 ⟨rfl, hw1⟩
  have B1 : Hid (Below w.heap.size w w1) := Lib.hid (by rw [hw1]; exact (Grew.alloc w _).1)
  have C1 : Hid (Blk w1 w.heap.size 71 #[.map (some A.ml)]) := Lib.hid (by rw [hw1]; exact Blk.new w _ _)
  have H1 := Lib.hid (H.out.ext B1.out)
  clear hw1 c2
  go_wp2_with fail
  have CSK := sortedKeys_any w1 H1.out.mlw (idsC x.list) (idsC_rise HS.out.ok.may) (fun k => by
    rw [← HS.out.has]
    cases e : S.lf k
    · rw [(pmap_out e).2]
    · rw [(pmap_in e).2]) (by rw [HIL.out]; omega) w.heap.size (C1.out.cell 0)
  refine (CSK).mono ?_; rintro e w2 ⟨v2, rfl, ho2, hb2⟩
  clear CSK
  obtain ⟨A2, q2, e2, _, _, hr2⟩ := ho2.ints
  subst e2
  have Hr2 := Lib.hid hr2
  have B2 := Lib.hid (bt B1.out hb2)
  have H2 := Lib.hid (H.out.ext B2.out)
  rw [HIL.out]
  obtain ⟨Bs, hBs⟩ : ∃ Bs, w2.heap.size = Bs := ⟨_, rfl⟩
  have HBs := Lib.hid hBs
  have hBw : w.heap.size ≤ Bs := by rw [← hBs]; exact B2.out.size
  have HBW := Lib.hid hBw
  clear ho2 hr2 hb2 hBs hBw H1 C1
  go_wp2_with fail
  go_loopw [3, 15] (fun v i wr => ∃ k : Nat, k ≤ n ∧ i = .int .i64 k ∧ OwnL RdC wr Bs 83 5 v (x.list.take k) ∧ Below w2.heap.size w2 wr) (fun _ i _ => n - (intOf i).toNat)
  case atStart => exact ⟨0, Nat.zero_le _, rfl, by rw [List.take_zero]; exact OwnL.nil_ _ _ _ _ _, Below.refl _ _⟩
  case round =>
    obtain ⟨k, hkn, rfl, hu, hbw⟩ := hrel
    have Hu := Lib.hid hu
    have Hb := Lib.hid hbw
    have HC := Lib.hid (H2.out.ext hbw)
    clear hu hbw
    by_cases hlt : k < n
    · have d0 : decide ((k : Int) < (n : Int)) = true := by simpa using hlt
      have hkl : k < x.list.length := by rw [HN.out]; exact hlt
      have hki : k < (idsC x.list).length := by rw [HIL.out]; exact hlt
      obtain ⟨ad, rfl, hc⟩ := (Hr2.out.below Hb.out).int k hki
      obtain ⟨c, hce, hcg, hlv, hlf, hpl, hnl⟩ := HS.out.cgs hkl
      have hide : (idsC x.list)[k] = c.id := (show (idsC x.list)[k] = x.list[k].id from List.getElem_map _).trans (by rw [hce])
      rw [hide] at hc
      have HT := Lib.hid (show x.list.take (k + 1) = x.list.take k ++ [c] by rw [List.take_succ_eq_append_getElem hkl, hce])
      have HTL := Lib.hid (show (x.list.take k).length = k by rw [List.length_take]; omega)
      have LV := Lib.hid hlv
      have HCV := Lib.hid (HC.out.cvw hlv)
      have ML := Lib.hid (pmap_in (a := A.ha) hlf).1
      have HB := Lib.hid (HC.out.hb hlv)
      have DT := Lib.hid (H.out.asn (.dat c.id) hlv)
      rw [hcg] at HCV HB
      have Hwf := Lib.hid (wf_int HCV.out.lo0 HCV.out.hi0)
      generalize x.list.take k = L at *
      have c2 : wr.cell? ⟨A.ca, 2, none⟩ = some (.map (some A.ml)) := HC.out.cc.cell 2
      clear hkl hki hce hcg hlv hlf hpl hnl hide
      go_wp2_with (first | refine wpList_lookZ rfl _ _ _ rfl _ _ Tryz.underlying3 Tryz.underlying71 Tryz.zeroChg rfl HC.out.mlw c.id rfl Hwf.out (.pointer (some ⟨A.ha c.id, 0, none⟩)) ML.out ?_ | refine wpList_load_part rfl _ _ rfl (A.ha c.id) 0 rfl [.int .i64 c.id, .int .i64 c.block, .int .i64 c.p.at_, .slice (A.sl c.id).Ad (A.sl c.id).nd (A.sl c.id).cd, .slice (A.sl c.id).An (A.sl c.id).nn (A.sl c.id).cn] _ _ HB.out (fun j hj => by match j, hj with | 0, _ => rfl | 1, _ => rfl | 2, _ => rfl | 3, _ => rfl | 4, _ => rfl) _ Tryz.underlying83 rfl Tryz.chgSize _ rfl ?_ | refine wpList_build_row rfl _ _ _ rfl Tryz.underlying48 5 72 _ Tryz.chgInfo (by decide) (by decide) #[.int .i64 c.id, .int .i64 c.block, .int .i64 c.p.at_, .slice (A.sl c.id).Ad (A.sl c.id).nd (A.sl c.id).cd, .slice (A.sl c.id).An (A.sl c.id).nn (A.sl c.id).cn] rfl rfl ?_)
      apply Stop.go; intro w5 Hg5 Hb5
      have Hu5 := Lib.hid (Hu.out.ext Hg5.out.1)
      have Hcv5 := Lib.hid (show CV w5 c _ _ _ _ _ _ from HCV.out.below Hg5.out.1)
      have Z5 := Lib.hid (show Bs ≤ w5.heap.size from by have h1 := Hb.out.size; have h2 := Hg5.out.1.size; have h3 := HBs.out; omega)
      have hl1 : L.length + 1 ≤ 140737488355328 := by have := HTL.out; omega
      have hl2 : (L.length + 1) * 72 ≤ 140737488355328 := by have := HTL.out; omega
      go_wp2_with (at_builtin; refine wpList_append_L RdC rfl _ _ _ _ rfl Tryz.underlying48 5 72 _ Tryz.chgInfo rfl (by decide) Bs _ L rfl Hu5.out _ _ rfl Hb5.out rfl (by simp [Value.oneCell']) c Hcv5.out.rd (fun q hq e => far5 hq (fun e2 => by
        have h1 := (Hu5.out.lt q e).1
        have h3 := HBW.out
        cases hA : (A.sl c.id).Ad with
        | none => rw [hA] at e2; cases e2
        | some a => rw [hA] at e2; have h2 := H.out.lt _ _ (DT.out.2.1 a hA); injection e2 with e2; have e3 : a.block = q := e2; omega) (fun e2 => by
        have h1 := (Hu5.out.lt q e).1
        have h3 := HBW.out
        cases hA : (A.sl c.id).An with
        | none => rw [hA] at e2; cases e2
        | some a => rw [hA] at e2; have h2 := H.out.lt _ _ (DT.out.2.2 a hA); injection e2 with e2; have e3 : a.block = q := e2; omega)) Z5.out hl1 hl2 ?_)
      apply Stop.go
      intro gL capL wL HL HbL HgL HwL
      have BL := Lib.hid ((bt Hb.out Hg5.out.1).trans (HbL.out.mono (Nat.le_of_eq HBs.out)))
      clear hc c2
      go_wp2_with fail
      go_roundw
      case rel => exact ⟨k + 1, by omega, by go_num, by rw [HT.out]; exact HL.out, BL.out⟩
      case measure => simp [intOf]; omega
    · have d0 : decide ((k : Int) < (n : Int)) = false := by simpa using hlt
      have HT := Lib.hid (show x.list.take k = x.list from List.take_of_length_le (by rw [HN.out]; omega))
      rw [HT.out] at Hu
      obtain ⟨A3, q3, e3, _, _, hr3⟩ := Hu.out.read
      subst e3
      have Hr3 := Lib.hid hr3
      rw [HN.out]
      clear hr3
      go_wp2_with fail
      have CWO := pwithoutH_any A3 n q3 x.list HN.out (by omega) (fun c hc => by
        obtain ⟨k, hk, rfl⟩ := List.getElem_of_mem hc
        obtain ⟨c, e, _, _, _, g1, g2⟩ := HS.out.cgs hk
        rw [e]
        omega) none 0 0 [] rfl (by omega) (fun z hz => by cases hz) _ Hr3.out (fun j hj => by cases hj)
      refine (CWO).mono ?_; rintro e w5 hr5
      clear CWO
      have HR5 : Hid (RetCH wr x.list e w5) := Lib.hid (by
        have h := hr5
        have e0 : withoutC x.list [] = x.list := by
          unfold withoutC
          exact List.filter_eq_self.2 fun c _ => rfl
        rw [e0] at h
        exact h)
      obtain ⟨A5, n5, q5, rfl, k1, k2, k3, k4, k5⟩ := HR5.out
      have BB := Lib.hid (show Below w.heap.size w w5 from (bt (bt B2.out (Hb.out.mono (Nat.le_refl _))) k5))
      have K := Lib.hid (show x.list.length = n5 ∧ n5 ≤ q5 ∧ q5 ≤ maxLen ∧ RdL (RdHi wr.heap.size) w5 A5 5 x.list from ⟨k1, k2, k3, k4⟩)
      clear hr5 HR5 k1 k2 k3 k4 k5
      go_wp2_with fail
      go_ret
      exact ⟨A5, n5, q5, rfl, K.out.1, K.out.2.1, K.out.2.2.1, RdL.hiMono K.out.2.2.2 (by have h1 := B2.out.size; have h2 := Hb.out.size; omega), BB.out⟩

end Go.Proofs.YtknbjdldmednlaaGreat
