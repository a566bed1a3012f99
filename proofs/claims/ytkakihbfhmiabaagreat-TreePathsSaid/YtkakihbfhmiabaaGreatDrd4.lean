/-
  Contracts of package dread's List (sorted by the library's sort.Slice), Empty, Load.
-/
import Derived.Test.YtkakihbfhmiabaaGreatGrAT
import Derived.Test.YtkakihbfhmiabaaGreatGrAU
import Derived.Test.YtkakihbfhmiabaaGreatGrBC
import Derived.Test.YtkakihbfhmiabaaGreatShelf
import Derived.Shelf.SlSortFuncK.WholeK
import Derived.Shelf.GgSortFunc.Tiny
import Derived.BigQuiet
import Derived.Deep.QuietTactic
namespace Go.Proofs.YtkakihbfhmiabaaGreat
open Go.RowKit Go.Shelf Go.Sort Go.Lib
set_option maxRecDepth 10000

theorem ltE_swo : SWO ltE where
  irrefl := fun x => ltS_irrefl _
  trans := fun _ _ _ h1 h2 => ltS_trans h1 h2
  ntrans := fun x y z h1 h2 => by
    unfold ltE at *
    cases h3 : ltS x.name z.name
    · rfl
    · cases h4 : ltS z.name y.name
      · have := ltS_tri h2 h4
        rw [this] at h1
        rw [h1] at h3
        cases h3
      · have := ltS_trans h3 h4
        rw [h1] at this
        cases this
set_option maxHeartbeats 1600000 in
theorem dless_any (blk c gb size : Nat) (W : World) (G : Nat → ByteArray) (hs : W.cell? ⟨gb, 0, none⟩ = some (.slice (some ⟨blk, 0, none⟩) size c))
    (hc : ∀ t, t < size → W.cell? ⟨blk, t * 2, none⟩ = some (.string (G t))) (i j : Nat) (hi : i < size) (hj : j < size) (_hsz : size < 4611686018427387904) :
    Calls Tryz.prog 140 #[.int .i64 i, .int .i64 j, .pointer (some ⟨gb, 0, none⟩)] W fun e w' => e = .returned (.bool (ltS (G i) (G j))) ∧ ∃ q, w' = W.drewN q := by
  have ci := hc i hi
  have cj := hc j hj
  have HL := Lib.hid (fun w => nless_any (G i) (G j) w)
  generalize G i = x at *
  generalize G j = y at *
  clear hc
  go_enter Tryz.func140, Tryz.ntmps140
  go_wp2_with fail
  go_quiet ((go_at_call 141; exact Calls.quiet_of_same ((HL.out _).mono fun _ _ h => ⟨h.1, h.2.symm⟩)))
  go_wp2_with fail
  go_ret
  exact ⟨rfl, nq, rfl⟩

noncomputable def svT : TypeInfo := (Tryz.prog.info? 27).get (by kernel_rfl)
noncomputable def svE : TypeInfo := (Tryz.prog.info? 56).get (by kernel_rfl)
theorem svK (n : Nat) (h2 : 2 ≤ n) : Lib.swapperK n svE 25 = 9 := by
  have a : svE.hasPointers = true := by kernel_rfl
  have b : svE.bytes = 24 := by kernel_rfl
  have c : (n == 0) = false := by simp; omega
  have d : (n == 1) = false := by simp; omega
  simp [Lib.swapperK, a, b, c, d]
theorem erow_len (x : En) : (erow x).length = 2 := rfl
set_option maxHeartbeats 1600000 in
theorem dsort_any (gb B : Nat) (v : Value) (L : List En) (hn : L.length ≤ 224) (hd : L.Pairwise fun a b => a.name ≠ b.name) (w : World) (hb : Blk w gb 27 #[v]) (ho : OwnN w B 56 2 v (erows L)) (hne : v.ownBlock ≠ some gb) :
    Calls Tryz.prog 139 #[.iface 27 v, .func (.func 140) #[] #[.pointer (some ⟨gb, 0, none⟩)]] w fun e w' => e = .returned (.tuple #[]) ∧ OwnN w' B 56 2 v (erows (srtE L)) ∧ Save (Has v) w w' := by
  by_cases h1 : L.length ≤ 1
  · obtain ⟨A, c, rfl, _⟩ := ho.read
    have e1 : L = srtE L := srtE_of hd (List.Perm.refl _) (by
      match L, h1 with
      | [], _ => exact List.Pairwise.nil
      | [_], _ => exact List.pairwise_singleton _ _)
    rw [← e1]
    rw [erows_len] at ho ⊢
    have hcase : L.length = 0 ∨ L.length = 1 := by omega
    have hS : Calls Tryz.prog 139 #[.iface 27 (.slice A L.length c), .func (.func 140) #[] #[.pointer (some ⟨gb, 0, none⟩)]] w fun e w' => e = .returned (.tuple #[]) ∧ ∃ os, w' = grow w os := by
      rcases hcase with h0 | h0
      · exact Any.sort_Slice_tiny laysSlice 27 56 svT svE (by kernel_rfl) (by kernel_rfl) (by kernel_rfl) (by kernel_rfl) 25 (fun _ => by kernel_rfl) A L.length c h1 176 (by rw [h0]; kernel_rfl) _ _ _ w
      · exact Any.sort_Slice_tiny laysSlice 27 56 svT svE (by kernel_rfl) (by kernel_rfl) (by kernel_rfl) (by kernel_rfl) 25 (fun _ => by kernel_rfl) A L.length c h1 177 (by rw [h0]; kernel_rfl) _ _ _ w
    refine hS.mono ?_
    rintro e w' ⟨rfl, os, rfl⟩
    have hg := Below.of_grow w os
    exact ⟨rfl, ho.ext hg, Save.of_below hg⟩
  · have hform : ∃ g c, v = .slice (some ⟨g, 0, none⟩) L.length c := by
      obtain ⟨_, _, ⟨_, h⟩ | ⟨g, cap, cur, hv, _⟩⟩ := ho
      · rw [erows_len] at h; omega
      · rw [erows_len] at hv; exact ⟨g, cap, hv⟩
    obtain ⟨g, c, rfl⟩ := hform
    have hlt : g < w.heap.size := (ho.lt g rfl).2
    have hgb : gb ≠ g := fun e => hne (by rw [e]; rfl)
    have hH : HoldsK erow 2 w g 0 L.toArray := OwnN.holdsK erow_len (by decide) (show OwnN w B 56 2 _ (L.map erow) from ho)
    have hsz : L.toArray.size = L.length := by simp
    have hless : LessReadsK Tryz.prog 140 #[.pointer (some ⟨gb, 0, none⟩)] erow 2 ltE g 0 L.toArray.size w := by
      intro m os dk hs i j hi hj
      have e : sortWorldK erow 2 w g 0 m dk os = putRowK erow 2 (grow (Sort.ahead w m) os) g 0 dk := by
        unfold sortWorldK; rw [putRowK_grow _ _ (Sort.ahead w m) _ g 0 _ hlt]
      have hHg : HoldsK erow 2 (grow (Sort.ahead w m) os) g 0 L.toArray := holdsK_grow _ _ _ _ g 0 _ hlt (holdsK_ahead _ _ _ _ _ _ _ hH)
      refine dless_any g c gb L.toArray.size _ (fun t => dk[t]!.name) ?_ (fun t ht => ?_) i j hi hj (by omega)
      · rw [e, cell?_putRowK_other _ _ _ g 0 dk _ (by exact hgb), cell?_grow _ _ _ (by exact hb.lt), hsz]
        exact hb.cell 0
      · rw [e]
        have := ((holdsK_putRowK _ _ _ g 0 _ dk hHg hs).cell (i := t) (c := 0) (by omega) (by omega)).1
        rw [Nat.zero_add, Nat.add_zero] at this
        rw [this]
        rfl
    have hS := Any.sort_Slice_cells_sorted laysSlice 27 56 svT svE (by kernel_rfl) (by kernel_rfl) (by kernel_rfl) (by kernel_rfl) 25 (fun _ => by kernel_rfl) erow 2 erow_len (by kernel_rfl) (fun _ => by kernel_rfl)
      (fun x v hv => by simp [erow] at hv; rcases hv with rfl | rfl <;> rfl) ltE ltE_swo 140 _
      (enters_of Tryz.func140 (by kernel_rfl) rfl) g 0 c L.toArray (by omega) (by omega) 184 (by rw [svK _ (by omega)]; kernel_rfl) false
      (fun args W => run_callFunc_extern Tryz.func184 (by kernel_rfl) (by kernel_rfl) (by kernel_rfl) (e := Extern.ReflectliteSwapper.swap false) (by kernel_rfl) args W) w hless hH hlt
    rw [hsz] at hS
    have hS : Calls Tryz.prog 139 #[.iface 27 (.slice (some ⟨g, 0, none⟩) L.length c), .func (.func 140) #[] #[.pointer (some ⟨gb, 0, none⟩)]] w fun e w' =>
      e = .returned (.tuple #[]) ∧ ∃ d' n os, PermIn 0 L.length L.toArray d' ∧ SortedIn ltE 0 L.length d' ∧ w' = grow (putRowK erow 2 (Sort.ahead w n) g 0 d') os := hS
    refine hS.mono ?_
    rintro e w' ⟨rfl, d', n, os, hp, hso, rfl⟩
    have hpl := perm_list (L := L) (d' := d') (by rw [hsz]; exact hp)
    have hdl : d'.size = L.length := by rw [← Array.length_toList]; exact hpl.length_eq
    have e1 : d'.toList = srtE L := srtE_of hd hpl (sorted_list hdl hso)
    refine ⟨rfl, ?_, Save.sorted erow 2 w g d' n os _ rfl⟩
    have h2 := OwnN.sorted erow_len (by decide) (show OwnN w B 56 2 _ (L.map erow) from ho) (M := d'.toList) (by rw [Array.length_toList, hdl]) n os
    rw [Array.toArray_toList, e1] at h2
    exact h2

set_option maxHeartbeats 1600000 in
theorem dlist_any (l : Lay14) (f : Value) (T : Int → List UInt8) (hT : ∀ no, (T no).length = 256) (X : List Int) (hX : X.length = 11) (w : World) (hf : FV w l f T) :
    Calls Tryz.prog 96 #[.agg (vval l f), .agg (icells X)] w (RetN w 56 2 (erows (srtE (lisD l T X)))) := by
  have HXL := Lib.hid hX
  have HEa := Lib.hid (fun g (hg : w.heap.size ≤ g) w1 (h1 : Below w.heap.size w w1) (hb : w.heap.size ≤ w1.heap.size) F (hS : StV 27 56 2 w.heap.size g (lisR (strB l T X)) [] F w1) =>
    deach_any l f T hT X hX 138 ⟨g, 0, none⟩ w.heap.size _ ⟨enters_of Tryz.func138 (by kernel_rfl) rfl, fun _ _ _ h => h.lt, fun _ _ _ _ h hb => h.ext hb, fun P q F w hP hq h => dlist1_any (strB l T X) _ g P q F w hP hq h⟩ w w1 hf h1 (Nat.le_refl _) hb F hS)
  have hmf : ∀ (fn : Fn) (first cap : Array Value) (w : World), (Instr.makeFunc fn first cap).run Tryz.prog w = .ok (.func fn first cap) w := fun _ _ _ _ => rfl
  have HR : Hid (lisR (strB l T X) (entA l T X) = erows (lisD l T X)) := Lib.hid rfl
  have HSo := Lib.hid (fun gb v w1 h1 h2 h3 => dsort_any gb w.heap.size v (lisD l T X) lisD_len lisD_apart w1 h1 h2 h3)
  clear hf hT hX
  go_enter Tryz.func96, Tryz.ntmps96
  go_wp2_with (refine wpList_box_row rfl _ _ rfl _ rfl ?_)
  apply Stop.go; intro w1 Hg1 Hb1
  go_wp2_with (refine wpList_box_row rfl _ _ rfl _ rfl ?_)
  apply Stop.go; intro w2 Hg2 Hb2
  have HV2 := Lib.hid (Hb1.out.ext Hg2.out.1)
  have E2 := Lib.hid (bt Hg1.out.1 Hg2.out.1)
  generalize w1.heap.size = g1 at *
  clear Hg1 Hb1 Hg2
  have Hb3 := Lib.hid (Blk.new w2 27 #[.slice none 0 0])
  have D3 := Lib.hid (show Below w2.heap.size w2 (w2.alloc (.cells #[.slice none 0 0] 27)) from (Below.refl _ _).alloc (Nat.le_refl _) _)
  have HV3 := Lib.hid (HV2.out.ext D3.out)
  have HI3 := Lib.hid (Hb2.out.ext D3.out)
  have E3 := Lib.hid (bt E2.out D3.out)
  have Hgl := Lib.hid E2.out.size
  clear D3 Hb2 HV2 E2
  go_wp2_with (first | refine wpList_load_blk rfl _ _ rfl _ rfl _ _ HV3.out _ Tryz.underlying44 rfl Tryz.viewSize ?_ | refine wpList_load_blk rfl _ _ rfl _ rfl _ _ HI3.out _ Tryz.underlying59 rfl (Tryz.inoFits HXL.out) ?_)
  refine (HEa.out w2.heap.size Hgl.out _ E3.out E3.out.size _ (StV.start Hgl.out Hb3.out rfl)).mono ?_; rintro e w4 ⟨rfl, F', hst, hsv, hnx⟩
  generalize w2.heap.size = g at *
  obtain ⟨v, hF, hg, ho, hne⟩ := hst.ex
  have E4 := Lib.hid (E3.out.trans (hsv.below (fun k hk => by rw [hk]; exact Hgl.out) E3.out.size))
  have c0 : w4.cell? ⟨g, 0, none⟩ = some v := hg.cell 0
  have HO := Lib.hid ho
  have HG := Lib.hid hg
  have HN := Lib.hid hne
  have HlB := Lib.hid (fun k (hk : v.ownBlock = some k) => show w.heap.size ≤ k from (ho.lt k hk).1)
  rw [HR.out] at HO
  clear hst hsv hnx hF hg ho hne HV3 HI3 Hb3 E3 HEa
  go_wp2_with fail
  refine (HSo.out g v _ HG.out HO.out HN.out).mono ?_; rintro e w5 ⟨rfl, ho5, hs5⟩
  have c5 : w5.cell? ⟨g, 0, none⟩ = some v := (HG.out.save hs5 HN.out).cell 0
  have HO5 := Lib.hid ho5
  have E5 := Lib.hid (E4.out.trans (hs5.below HlB.out E4.out.size))
  clear ho5 hs5 HG HO HN c0
  go_wp2_with fail
  go_ret
  exact ⟨_, rfl, HO5.out, E5.out⟩


end Go.Proofs.YtkakihbfhmiabaaGreat
