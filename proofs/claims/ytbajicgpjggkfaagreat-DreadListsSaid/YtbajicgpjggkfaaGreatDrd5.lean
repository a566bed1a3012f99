/-
  Contract of package dread's Load.
-/
import Derived.Test.YtbajicgpjggkfaaGreatGrP
import Derived.Test.YtbajicgpjggkfaaGreatGrZ
import Derived.Test.YtbajicgpjggkfaaGreatFm4
import Derived.Test.YtbajicgpjggkfaaGreatGrR
namespace Go.Proofs.YtbajicgpjggkfaaGreat
open Go.RowKit
set_option maxRecDepth 10000

theorem lodL_next {l : Lay14} {T : Int → List UInt8} {bs : List Int} {k : Nat} (hk : k < bs.length) : lodL l T (bs.take (k + 1)) = lodL l T (bs.take k) ++ [((listS (vBk l T (fld bs k)) 7).length : Int)] := by
  have e : bs[k] = fld bs k := by
    have := fld_get bs k hk
    rw [List.getElem?_eq_getElem hk] at this
    exact Option.some.inj this
  unfold lodL
  rw [List.take_succ_eq_append_getElem hk, List.map_append, e]
  rfl
theorem lodL_len (l : Lay14) (T : Int → List UInt8) (bs : List Int) : (lodL l T bs).length = bs.length := by simp [lodL]
set_option maxHeartbeats 3200000 in
theorem dload_any (l : Lay14) (f : Value) (T : Int → List UInt8) (hT : ∀ no, (T no).length = 256) (X : List Int) (hX : X.length = 11) (w : World) (hf : FV w l f T) :
    Calls Tryz.prog 21 #[.agg (vval l f), .agg (icells X)] w (RetL w (lodL l T (bukF l T X))) := by
  have HF := Lib.hid hf
  have HXL := Lib.hid hX
  have HBu := Lib.hid (fun w h => fbuckets_any l f T hT X hX w h)
  have HBk := Lib.hid (fun no w h => vblock_any l f T hT no w h)
  have HBL := Lib.hid (fun no => vBk_len (l := l) hT no)
  have HbL := Lib.hid (bukF_len (l := l) (T := T) (X := X))
  obtain ⟨LD, hLD⟩ : ∃ LD : Nat → List Int, ∀ k, lodL l T ((bukF l T X).take k) = LD k := ⟨_, fun _ => rfl⟩
  have HE0 := Lib.hid (show LD 0 = [] by rw [← hLD]; rfl)
  have HEl := Lib.hid (fun k => show (LD k).length ≤ k by rw [← hLD, lodL_len, List.length_take]; omega)
  have HEx := Lib.hid (fun k (hk : k < (bukF l T X).length) => show LD (k + 1) = LD k ++ [((listS (vBk l T (fld (bukF l T X) k)) 7).length : Int)] by rw [← hLD, ← hLD]; exact lodL_next hk)
  have HEe := Lib.hid (show LD (bukF l T X).length = lodL l T (bukF l T X) by rw [← hLD, List.take_length])
  rw [← HEe.out]
  clear HEe hLD
  generalize bukF l T X = bs at *
  obtain ⟨n, Hn⟩ : ∃ n, Hid (bs.length = n) := ⟨_, Lib.hid rfl⟩
  rw [Hn.out] at HbL ⊢
  clear hf hX hT
  go_enter Tryz.func21, Tryz.ntmps21
  go_wp2_with (refine wpList_box_row rfl _ _ rfl _ rfl ?_)
  apply Stop.go; intro w1 Hg1 Hb1
  go_wp2_with (refine wpList_box_row rfl _ _ rfl _ rfl ?_)
  apply Stop.go; intro w2 Hg2 Hb2
  have HV2 := Lib.hid (Hb1.out.ext Hg2.out.1)
  have E2 := Lib.hid (bt Hg1.out.1 Hg2.out.1)
  generalize w1.heap.size = g1 at *
  clear Hg1 Hb1 Hg2
  go_wp2_with (first | refine wpList_load_blk rfl _ _ rfl _ rfl _ _ HV2.out _ Tryz.underlying29 rfl Tryz.viewSize ?_ | refine wpList_load_blk rfl _ _ rfl _ rfl _ _ Hb2.out _ Tryz.underlying39 rfl (Tryz.inoFits HXL.out) ?_)
  refine (HBu.out _ (HF.out.below E2.out)).mono ?_; rintro e w6 ⟨v6, rfl, hv6, hb6⟩
  have E6 := Lib.hid (bt E2.out hb6)
  have HV6 := Lib.hid (Sure.mk (F := Has (.slice none 0 0)) (HV2.out.ext hb6) (fun h => by simp [Has, Value.ownBlock] at h))
  have hvl : SureC (Has (.slice none 0 0)) w6 w.heap.size 3 v6 (ivals bs) := ⟨hv6.low E2.out.size, fun k _ h => by simp [Has, Value.ownBlock] at h⟩
  obtain ⟨A6, c6, rfl, _, _, _⟩ := hv6.ints
  rw [Hn.out] at hvl ⊢
  have HVl6 := Lib.hid hvl
  have hn32 := HbL.out
  clear hv6 hb6 hvl HV2 Hb2 E2 HBu
  go_wp2_with fail
  go_loopw [5, 12] (fun u z wr => ∃ k : Nat, k ≤ n ∧ z = .int .i64 k ∧ Hid (Below w.heap.size w wr) ∧ Hid (OwnC wr w.heap.size 3 u (ivals (LD k))) ∧ Hid (Sure (Has u) wr w.heap.size 29 (vval l f)) ∧ Hid (SureC (Has u) wr w.heap.size 3 (.slice A6 n c6) (ivals bs))) (fun _ z _ => n - (intOf z).toNat)
  case atStart => exact ⟨0, Nat.zero_le _, rfl, E6, Lib.hid (by rw [HE0.out]; exact OwnC.nil_ _ _ _), HV6, HVl6⟩
  case round =>
    obtain ⟨k, hk, rfl, E, HO, HV, HVl⟩ := hrel
    by_cases hlt : k < n
    · have hkl : k < bs.length := by rw [Hn.out]; exact hlt
      have d1 : decide ((k : Int) < (n : Int)) = true := by simp; omega
      have p0 : (0 : Int) ≤ (k : Int) := by omega
      have p1 : (k : Int) < (n : Int) := by omega
      obtain ⟨ad, rfl, hcad⟩ := HVl.out.rc.int k hkl
      have hfk : bs[k] = fld bs k := by
        have := fld_get bs k hkl
        rw [List.getElem?_eq_getElem hkl] at this
        exact Option.some.inj this
      rw [hfk] at hcad
      have HE1 := Lib.hid (HEx.out k hkl)
      have HEk := Lib.hid (show (LD k).length ≤ 32 by have := HEl.out k; have := HbL.out; omega)
      obtain ⟨x, hx⟩ : ∃ x, fld bs k = x := ⟨_, rfl⟩
      rw [hx] at hcad HE1
      have HBx := Lib.hid (HBk.out x)
      have HBl := Lib.hid (HBL.out x)
      generalize vBk l T x = b at *
      have HLi := Lib.hid (fun w => blist_any b HBl.out w)
      have Hll := Lib.hid (show (listS b 7).length ≤ 7 from listS_len b 7)
      generalize listS b 7 = ls at *
      clear hfk hkl hx
      go_wp2_with (refine wpList_load_blk rfl _ _ rfl _ rfl _ _ HV.out.blk _ Tryz.underlying29 rfl Tryz.viewSize ?_)
      refine (HBx.out _ (HF.out.below E.out)).mono ?_; rintro e wa ⟨rfl, hba⟩
      have HOa := Lib.hid (HO.out.ext hba)
      have HVa := Lib.hid (HV.out.ext hba)
      have HVla := Lib.hid (HVl.out.ext hba)
      have Ea := Lib.hid (bt E.out hba)
      clear hba HO HV HVl HBx hcad E
      go_wp2_with fail
      refine (HLi.out _).mono ?_; rintro e wb ⟨vb, rfl, hvb, hbb⟩
      have HOb := Lib.hid (HOa.out.ext hbb)
      have HVb := Lib.hid (HVa.out.ext hbb)
      have HVlb := Lib.hid (HVla.out.ext hbb)
      have Eb := Lib.hid (bt Ea.out hbb)
      obtain ⟨A2, c2, rfl, _, _, _⟩ := hvb.read
      rw [srows_len]
      clear hvb hbb HOa HVa HVla Ea HLi
      obtain ⟨m, Hm⟩ : ∃ m, Hid (ls.length = m) := ⟨_, Lib.hid rfl⟩
      rw [Hm.out] at HE1 Hll ⊢
      have hl1 : (ivals (LD k)).length + 1 ≤ maxLen := by rw [ivals_len]; unfold maxLen; have := HEk.out; omega
      have hl2 : ((ivals (LD k)).length + 1) * 8 ≤ 140737488355328 := by rw [ivals_len]; have := HEk.out; omega
      have Zb := Lib.hid Eb.out.size
      go_wp2_with (at_builtin; refine wpList_append_oneS rfl _ _ _ _ rfl Tryz.underlying63 (.int .i64 0) 8 Tryz.intInfo rfl w.heap.size _ _ rfl HOb.out (.int .i64 (m : Int)) rfl rfl Zb.out hl1 hl2 ?_)
      apply Stop.go
      intro v' wc Hv' Hs' Hn'
      have HOc := Lib.hid (show OwnC wc w.heap.size 3 v' (ivals (LD (k + 1))) by rw [HE1.out, ← ivals_snoc]; exact Hv'.out)
      have HVc := Lib.hid (HVb.out.next Hs'.out Hn'.out)
      have HVlc := Lib.hid (HVlb.out.next Hs'.out Hn'.out)
      have Ec := Lib.hid (Eb.out.trans (Hs'.out.below (fun k hk => (HOb.out.lt k hk).1) Zb.out))
      clear Hv' Hs' Hn' HOb HVb HVlb Eb Zb hl1 hl2
      go_wp2_with fail
      go_roundw
      case rel => exact ⟨k + 1, by omega, by go_num, Ec, HOc, HVc, HVlc⟩
      case measure => simp [intOf]; omega
    · obtain rfl : k = n := by omega
      have d1 : decide ((k : Int) < (k : Int)) = false := by simp
      go_wp2_with fail
      go_ret
      exact ⟨_, rfl, HO.out, E.out⟩

end Go.Proofs.YtbajicgpjggkfaaGreat
