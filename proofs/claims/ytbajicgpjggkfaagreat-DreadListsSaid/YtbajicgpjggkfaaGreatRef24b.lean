/-
  Contract of the document's Entries.
-/
import Derived.Test.YtbajicgpjggkfaaGreatRef24
import Derived.Test.YtbajicgpjggkfaaGreatGrZ
import Derived.Test.YtbajicgpjggkfaaGreatGrR
namespace Go.Proofs.YtbajicgpjggkfaaGreat
open Go.RowKit
set_option maxRecDepth 10000

/-- Those that are stray, or those that are not: where they are, and what they are called. -/
def selE (f : List Int × En → Bool) (st : Bool) (P : List (List Int × En)) : List (List Int × En) := P.filter fun q => f q == st
def plsE (f : List Int × En → Bool) (st : Bool) (P : List (List Int × En)) : List (List Int) := (selE f st P).map (·.1)
def nmsE (f : List Int × En → Bool) (st : Bool) (P : List (List Int × En)) : List ByteArray := (selE f st P).map (·.2.name)
section
variable {f : List Int × En → Bool} {st : Bool} {P : List (List Int × En)} {q : List Int × En}
theorem selE_yes (h : (f q == st) = true) : selE f st (P ++ [q]) = selE f st P ++ [q] := by unfold selE; rw [List.filter_append]; simp [h]
theorem selE_no (h : (f q == st) = false) : selE f st (P ++ [q]) = selE f st P := by unfold selE; rw [List.filter_append]; simp [h]
theorem plsE_yes (h : (f q == st) = true) : irows (plsE f st (P ++ [q])) = irows (plsE f st P) ++ [ivals q.1] := by unfold plsE irows; rw [selE_yes h, List.map_append, List.map_append]; rfl
theorem plsE_no (h : (f q == st) = false) : plsE f st (P ++ [q]) = plsE f st P := by unfold plsE; rw [selE_no h]
theorem nmsE_yes (h : (f q == st) = true) : svals (nmsE f st (P ++ [q])) = svals (nmsE f st P) ++ [.string q.2.name] := by unfold nmsE svals; rw [selE_yes h, List.map_append, List.map_append]; rfl
theorem nmsE_no (h : (f q == st) = false) : nmsE f st (P ++ [q]) = nmsE f st P := by unfold nmsE; rw [selE_no h]
theorem selE_len : (selE f st P).length ≤ P.length := List.length_filter_le _ _
theorem plsE_len : (irows (plsE f st P)).length ≤ P.length := by rw [irows_len]; unfold plsE; rw [List.length_map]; exact selE_len
theorem nmsE_len : (svals (nmsE f st P)).length ≤ P.length := by unfold svals nmsE; rw [List.length_map, List.length_map]; exact selE_len
end
theorem Off.symm {u v : Value} (h : Off (Has u) v) : Off (Has v) u := fun k h1 h2 => h k h2 h1
theorem Tryz.pqInfo : (Tryz.prog.info? 45).map (fun i => (i.zero, i.size, i.bytes)) = some (some (.agg (icells [0, 0, 0])), 3, 24) := by kernel_rfl
theorem Tryz.strInfo24 : (Tryz.prog.info? 9).map (fun i => (i.zero, i.size, i.bytes)) = some (some (.string ⟨#[]⟩), 1, 16) := by kernel_rfl
theorem entS_size {b : List UInt8} {k : Nat} {e : En} (h : entS b k = some e) : e.name.size ≤ maxLen := by
  have h1 := (mayE_iff.1 (readE_iff.1 h).1).1
  have h2 := (rightN_size h1).2
  unfold maxLen
  omega

set_option maxHeartbeats 25600000 in
theorem rents_any (A : Option Addr) (n cap : Nat) (L : List (List UInt8)) (hn : L.length = n) (hL : Bks L) (hm : n ≤ maxLen) (l : Lay14) (hly : layW L = some l) (X : List Int) (hX : X.length = 11) (hXi : ∀ z ∈ X, z < 9223372036854775808) (st : Bool) (w : World) (hr : RK w A L) :
    Calls Tryz.prog 16 #[.slice A n cap, .agg l.val, .agg (icells X), .bool st] w fun e w' => ∃ v u, e = .returned (.tuple #[v, u]) ∧ OwnN w' w.heap.size 45 3 v (irows (plsE (strB l (bkV L) X) st (entA l (bkV L) X))) ∧ OwnC w' w.heap.size 9 u (svals (nmsE (strB l (bkV L) X) st (entA l (bkV L) X))) ∧ Off (Has v) u ∧ Below w.heap.size w w' := by
  have Hr := Lib.hid hr
  have HXL := Lib.hid hX
  have HIx := Lib.hid (fun w h => rix22_any A n cap L hn hL hm l hly X hX hXi w h)
  have HBu := Lib.hid (fun w h => rbuk22_any A n cap L hn hL hm l hly X hX hXi w h)
  have HBk := Lib.hid (fun no w h => rblock22_any A n cap L hn hL hm no w h)
  have HBL := Lib.hid (fun no => bkV_len hL no)
  have HDo := Lib.hid (fun no k e (h1 : no ∈ bukF l (bkV L) X) (h2 : k < 7) (h3 : entS (bkV L no) k = some e) => show strB l (bkV L) X (entP no (k, e)) = !(rouN l (bkV L) X e.name == no && decide (findS (bkV L no) e.name = some k)) by
    have := strB_doc (l := l) (T := bkV L) (X := X) h1 h2 (by rw [vBk_is hly]; exact h3)
    rw [vBk_is hly] at this
    exact this)
  have HLow := Lib.hid (fun s => low_rou (l := l) (T := bkV L) (X := X) s)
  have HP32 := Lib.hid (fun s => rouP_32 (l := l) (T := bkV L) (X := X) s)
  have HPn := Lib.hid (fun s => show fld (ixT l (bkV L) X) (rouP l (bkV L) X s) = rouN l (bkV L) X s from rfl)
  have HTL := Lib.hid (ixT_len (l := l) (T := bkV L) (X := X))
  have HzL := Lib.hid zeroT_len
  have HbL := Lib.hid (bukF_len (l := l) (T := bkV L) (X := X))
  obtain ⟨ED, hED⟩ : ∃ ED : Nat → List (List Int × En), ∀ k, entsD l (bkV L) ((bukF l (bkV L) X).take k) = ED k := ⟨_, fun _ => rfl⟩
  have HE0 := Lib.hid (show ED 0 = [] by rw [← hED]; rfl)
  have HEl := Lib.hid (fun k => show (ED k).length ≤ 7 * k by rw [← hED]; exact Nat.le_trans (entsD_len _) (by rw [List.length_take]; omega))
  have HEx := Lib.hid (fun k (hk : k < (bukF l (bkV L) X).length) => show ED (k + 1) = ED k ++ (listS (bkV L (fld (bukF l (bkV L) X) k)) 7).map (entP (fld (bukF l (bkV L) X) k)) by
    have e : (bukF l (bkV L) X)[k] = fld (bukF l (bkV L) X) k := by
      have := fld_get (bukF l (bkV L) X) k hk
      rw [List.getElem?_eq_getElem hk] at this
      exact Option.some.inj this
    rw [← hED, ← hED, List.take_succ_eq_append_getElem hk, entsD_app, entsD_one, e, vBk_is hly]
    rfl)
  have HEe := Lib.hid (show ED (bukF l (bkV L) X).length = entA l (bkV L) X by rw [← hED, List.take_length]; rfl)
  rw [← HEe.out]
  clear HEe hED
  generalize strB l (bkV L) X = fb at *
  obtain ⟨rN, hrN⟩ : ∃ rN : ByteArray → Int, ∀ s, rouN l (bkV L) X s = rN s := ⟨_, fun _ => rfl⟩
  obtain ⟨rP, hrP⟩ : ∃ rP : ByteArray → Nat, ∀ s, rouP l (bkV L) X s = rP s := ⟨_, fun _ => rfl⟩
  obtain ⟨Bf, hBf⟩ : ∃ Bf : Int → List UInt8, ∀ no, bkV L no = Bf no := ⟨_, fun _ => rfl⟩
  simp only [hrN, hrP, hBf] at HDo HLow HP32 HPn HBk HBL HEx
  clear hrN hrP
  generalize ixD l (bkV L) X = RD at *
  generalize ixT l (bkV L) X = RT at *
  generalize isF l (bkV L) X = rb at *
  generalize bukF l (bkV L) X = bs at *
  clear hBf hr hX hn hL hm hly hXi
  obtain ⟨N, HN⟩ : ∃ N, Hid (bs.length = N) := ⟨_, Lib.hid rfl⟩
  rw [HN.out] at HbL ⊢
  go_enter Tryz.func16, Tryz.ntmps16
  go_wp2_with (refine wpList_box_row rfl _ _ rfl _ rfl ?_)
  apply Stop.go; intro w1 Hg1 Hb1
  go_wp2_with (refine wpList_box_row rfl _ _ rfl _ rfl ?_)
  apply Stop.go; intro w2 Hg2 Hb2
  have HV2 := Lib.hid (Hb1.out.ext Hg2.out.1)
  have E2 := Lib.hid (bt Hg1.out.1 Hg2.out.1)
  generalize w1.heap.size = g1 at *
  clear Hg1 Hb1 Hg2
  go_wp2_with (first | refine wpList_load_blk rfl _ _ rfl _ rfl _ _ HV2.out _ Tryz.underlying26 rfl Tryz.laySize ?_ | refine wpList_load_blk rfl _ _ rfl _ rfl _ _ Hb2.out _ Tryz.underlying39 rfl (Tryz.inoFits HXL.out) ?_)
  refine (HIx.out _ (Hr.out.below E2.out)).mono ?_; rintro e w3 ⟨rfl, hb3⟩
  have HV3 := Lib.hid (HV2.out.ext hb3)
  have HI3 := Lib.hid (Hb2.out.ext hb3)
  have E3 := Lib.hid (bt E2.out hb3)
  clear hb3 HV2 Hb2 E2 HIx
  go_wp2_with (refine wpList_alloc_row rfl _ rfl _ Tryz.rxZero ?_)
  apply Stop.go; intro w4 Hg4 Hb4
  go_wp2_with (refine wpList_store_arr rfl _ _ _ rfl _ _ rfl rfl _ _ Hb4.out (Tryz.rxFits HTL.out) (icells_same HzL.out HTL.out) (oneCell_icells _) ?_)
  apply Stop.go; intro w5 Ho5 Hb5
  have Dl := Lib.hid (bonly Hg4.out.1 Ho5.out (Nat.le_refl _))
  have HV5 := Lib.hid (HV3.out.ext Dl.out)
  have HI5 := Lib.hid (HI3.out.ext Dl.out)
  have E5 := Lib.hid (bt E3.out Dl.out)
  generalize w3.heap.size = gx at *
  clear Hg4 Hb4 Ho5 Dl HV3 HI3 E3
  go_wp2_with (first | refine wpList_load_blk rfl _ _ rfl _ rfl _ _ HV5.out _ Tryz.underlying26 rfl Tryz.laySize ?_ | refine wpList_load_blk rfl _ _ rfl _ rfl _ _ HI5.out _ Tryz.underlying39 rfl (Tryz.inoFits HXL.out) ?_)
  refine (HBu.out _ (Hr.out.below E5.out)).mono ?_; rintro e w6 ⟨v6, rfl, hv6, hb6⟩
  have E6 := Lib.hid (bt E5.out hb6)
  have HX6 := Lib.hid (show Sure (fun _ => False) w6 gx 95 (icells (RD :: RT)) from ⟨Hb5.out.ext hb6, id⟩)
  have hvl : SureC (fun _ => False) w6 w.heap.size 3 v6 (ivals bs) := ⟨hv6.low E5.out.size, fun k _ h => h⟩
  obtain ⟨A6, c6, rfl, _, _, _⟩ := hv6.ints
  rw [HN.out] at hvl ⊢
  have HVl6 := Lib.hid hvl
  have hn32 := HbL.out
  clear hv6 hb6 hvl HV5 HI5 E5 HBu Hb5
  go_wp2_with fail
  go_loopw [10, 11, 15] (fun v u z wr => ∃ k : Nat, k ≤ N ∧ z = .int .i64 k ∧ Hid (Below w.heap.size w wr) ∧ Hid (OwnN wr w.heap.size 45 3 v (irows (plsE fb st (ED k)))) ∧ Hid (OwnC wr w.heap.size 9 u (svals (nmsE fb st (ED k)))) ∧ Hid (Off (Has v) u) ∧
    Hid (Sure (fun k => Has v k ∨ Has u k) wr gx 95 (icells (RD :: RT))) ∧ Hid (SureC (fun k => Has v k ∨ Has u k) wr w.heap.size 3 (.slice A6 N c6) (ivals bs))) (fun _ _ z _ => N - (intOf z).toNat)
  case atStart => exact ⟨0, Nat.zero_le _, rfl, E6, Lib.hid (by rw [HE0.out]; exact OwnN.nil_ _ _ _ _), Lib.hid (by rw [HE0.out]; exact OwnC.nil_ _ _ _), Lib.hid (fun k h => by simp [Value.ownBlock] at h), Lib.hid ⟨HX6.out.blk, fun h => by simp [Has, Value.ownBlock] at h⟩, Lib.hid ⟨HVl6.out.own, fun k _ h => by simp [Has, Value.ownBlock] at h⟩⟩
  case round =>
    obtain ⟨k, hk, rfl, E, HO, HU, HA, HX, HVl⟩ := hrel
    by_cases hlt : k < N
    · have hkl : k < bs.length := by rw [HN.out]; exact hlt
      have d1 : decide ((k : Int) < (N : Int)) = true := by simp; omega
      have p0 : (0 : Int) ≤ (k : Int) := by omega
      have p1 : (k : Int) < (N : Int) := by omega
      have hrc := HVl.out.rc
      obtain ⟨ad, rfl, hcx⟩ := hrc.int k hkl
      have hmem : fld bs k ∈ bs := by
        have := fld_get bs k hkl
        exact List.mem_of_getElem? this
      have hfk : bs[k] = fld bs k := by
        have := fld_get bs k hkl
        rw [List.getElem?_eq_getElem hkl] at this
        exact Option.some.inj this
      have HE1 := Lib.hid (HEx.out k hkl)
      have HEk := Lib.hid (show (ED k).length + 7 ≤ 224 by have := HEl.out k; have := HbL.out; omega)
      have HCk := Lib.hid (fun (wr : World) (h : RC wr (some ad) (ivals bs)) => show wr.cell? (ad.add k) = some (.int .i64 (fld bs k)) by
        obtain ⟨ad', e, hc⟩ := h.int k hkl
        injection e with e
        subst e
        rw [hc, hfk])
      obtain ⟨x, hx⟩ : ∃ x, fld bs k = x := ⟨_, rfl⟩
      rw [hx] at HE1 HCk hmem
      have HBx := Lib.hid (HBk.out x)
      have HBl := Lib.hid (HBL.out x)
      have HDx := Lib.hid (fun k e => HDo.out x k e hmem)
      generalize Bf x = b at *
      have HRd := Lib.hid (fun A' j hj w h => rread18_any A' 256 b HBl.out j hj w h)
      have HFi := Lib.hid (fun A' s w h => rfind18_any A' 256 b HBl.out s w h)
      have Hls := Lib.hid (listS_len b)
      clear hcx hfk hkl hx hmem hrc
      go_wp2_with fail
      go_loopw [10, 11, 16] (fun v u z wi => ∃ j : Nat, j ≤ 7 ∧ z = .int .i64 j ∧ Hid (Below w.heap.size w wi) ∧ Hid (OwnN wi w.heap.size 45 3 v (irows (plsE fb st (ED k ++ (listS b j).map (entP x))))) ∧ Hid (OwnC wi w.heap.size 9 u (svals (nmsE fb st (ED k ++ (listS b j).map (entP x))))) ∧ Hid (Off (Has v) u) ∧
        Hid (Sure (fun k => Has v k ∨ Has u k) wi gx 95 (icells (RD :: RT))) ∧ Hid (SureC (fun k => Has v k ∨ Has u k) wi w.heap.size 3 (.slice (some ad) N c6) (ivals bs))) (fun _ _ z _ => 7 - (intOf z).toNat)
      case atStart => exact ⟨0, by omega, rfl, E, Lib.hid (by rw [show listS b 0 = [] from rfl, List.map_nil, List.append_nil]; exact HO.out), Lib.hid (by rw [show listS b 0 = [] from rfl, List.map_nil, List.append_nil]; exact HU.out), HA, HX, HVl⟩
      case round =>
        obtain ⟨j, hj, rfl, E, HO, HU, HA, HX, HVl⟩ := hrel
        by_cases hlj : j < 7
        · have d2 : decide ((j : Int) < 7) = true := by simp; omega
          have ck := HCk.out _ HVl.out.rc
          have HPl := Lib.hid (show (ED k ++ (listS b j).map (entP x)).length ≤ 223 by rw [List.length_append, List.length_map]; have := HEk.out; have := Hls.out j; omega)
          have HRj := Lib.hid (fun A' w h => HRd.out A' j hlj w h)
          have HDj := Lib.hid (fun e => HDx.out j e hlj)
          have HL0 := Lib.hid (fun h : entS b j = none => listS_none h)
          have HL1 := Lib.hid (fun e (h : entS b j = some e) => show (listS b (j + 1)).map (entP x) = (listS b j).map (entP x) ++ [entP x (j, e)] by rw [listS_some h, List.map_append]; rfl)
          have HSz := Lib.hid (fun e (h : entS b j = some e) => entS_size h)
          obtain ⟨o, ho⟩ : ∃ o, entS b j = o := ⟨_, rfl⟩
          rw [ho] at HRj HDj HL0 HL1 HSz
          clear ho
          go_wp2_with fail
          refine (HBx.out _ (Hr.out.below E.out)).mono ?_; rintro e wa ⟨A7, rfl, hra, hba⟩
          have HRa := Lib.hid hra
          have HOa := Lib.hid (HO.out.ext hba)
          have HUa := Lib.hid (HU.out.ext hba)
          have HXa := Lib.hid (HX.out.ext hba)
          have HVa := Lib.hid (HVl.out.ext hba)
          have Ea := Lib.hid (bt E.out hba)
          clear hba hra HO HU HX HVl E ck
          go_wp2_with fail
          refine (HRj.out A7 _ HRa.out).mono ?_; rintro e wb ⟨rfl, hbb⟩
          have HOb := Lib.hid (HOa.out.ext hbb)
          have HUb := Lib.hid (HUa.out.ext hbb)
          have HXb := Lib.hid (HXa.out.ext hbb)
          have HVb := Lib.hid (HVa.out.ext hbb)
          have Eb := Lib.hid (bt Ea.out hbb)
          clear hbb HRa HOa HUa HXa HVa Ea HRj
          obtain ⟨e, he⟩ : ∃ e, entV o = e := ⟨_, rfl⟩
          rw [he]
          go_wp2_with (refine wpList_alloc_row rfl _ rfl _ Tryz.entZero ?_)
          apply Stop.go; intro wc Hgc Hbc
          go_wp2_with (refine wpList_store_arr rfl _ _ _ rfl _ (ecells e) rfl rfl _ _ Hbc.out Tryz.entSize rfl (by simp [ecells, Value.oneCell']) ?_)
          apply Stop.go; intro wd Hod Hbd
          have Dl := Lib.hid (bonly Hgc.out.1 Hod.out (Nat.le_refl _))
          have HOd := Lib.hid (HOb.out.ext Dl.out)
          have HUd := Lib.hid (HUb.out.ext Dl.out)
          have HXd := Lib.hid (HXb.out.ext Dl.out)
          have HVd := Lib.hid (HVb.out.ext Dl.out)
          have Ed := Lib.hid (bt Eb.out Dl.out)
          have Nge := Lib.hid (show ¬ Has u10 wb.heap.size from fun h => by have := (HOb.out.lt _ h).2; omega)
          generalize wb.heap.size = ge at *
          clear Hgc Hbc Hod Dl HOb HUb HXb HVb Eb
          cases o with
          | none =>
            have HLn := Lib.hid (HL0.out rfl)
            rw [show (none : Option En).isSome = false from rfl]
            clear HL0 HL1 HDj HSz he
            go_wp2_with fail
            go_roundw
            case rel => exact ⟨j + 1, by omega, by go_num, Ed, Lib.hid (by rw [HLn.out]; exact HOd.out), Lib.hid (by rw [HLn.out]; exact HUd.out), HA, HXd, HVd⟩
            case measure => simp [intOf]; omega
          | some e0 =>
            obtain rfl : e0 = e := he
            have HLs := Lib.hid (HL1.out _ rfl)
            have HDe := Lib.hid (HDj.out _ rfl)
            have HSe := Lib.hid (HSz.out _ rfl)
            rw [show (some e0).isSome = true from rfl]
            clear HL0 HL1 HDj HSz
            have ck := HCk.out _ HVd.out.rc
            have H3 := Lib.hid (show ([x, (j : Int), e0.ino] : List Int).length = 3 from rfl)
            go_wp2_with fail
            refine WH.start (S := fun w' : World => w'.cell? (ad.add k) = some (.int .i64 x) ∧ Blk w' ge 67 (ecells e0)) [false, false, false, false, false, false, false, false, false, false] 10 rfl rfl (by kernel_rfl) ⟨((bdrew wd 1).cell (block_lt_of_cell ck)).trans ck, Hbd.out.ext (bdrew wd 1)⟩ (fun hSn => ?_); obtain ⟨wS, hwS⟩ : ∃ x, (wd).drew = x := ⟨_, rfl⟩; have HE := Lib.hid (show Below (wd).heap.size (wd) wS from hwS ▸ bdrew wd 1); rw [hwS] at hSn ⊢; clear hwS
            refine WH.tk 0 ?_; simp only [setL]
            refine WH.tk 1 ?_; simp only [setL]
            refine WH.tk 2 ?_; simp only [setL]
            refine WH.tv 3 rfl (fun w' hSw => exec_load_cell _ _ rfl _ rfl _ hSw.1 _ Tryz.underlying3 rfl) ?_; simp only [setL]
            refine WH.tk 4 ?_; simp only [setL]
            refine WH.tk 5 ?_; simp only [setL]
            refine WH.tv 6 rfl (fun w' hSw => exec_load_cell _ _ rfl _ rfl (.int .i64 e0.ino) (hSw.2.cell 1) _ (Tryz.underlying3) rfl) ?_; simp only [setL]
            refine WH.tk 7 ?_; simp only [setL]
            refine WH.only 8 _ rfl (by kernel_rfl) rfl (fun K hK => ?_)
            refine ow_alloc _ rfl _ Tryz.pqZero ?_
            apply Stop.go; intro we Hge Hbe
            have zQ := Lib.hid HE.out.size
            have HE := Lib.hid (bt HE.out Hge.out.1)
            have hNe := And.intro ((Hge.out.1.cell (block_lt_of_cell hSn.1)).trans hSn.1) (hSn.2.ext Hge.out.1)
            have zS := Lib.hid hSn.2.lt
            have zV := Lib.hid (block_lt_of_cell hSn.1)
            generalize wS.heap.size = gq at *
            clear Hge
            have hSn := hNe; refine hK _ _ hSn ?_; clear hK; clear K; simp only [setL]
            refine WH.only 9 _ rfl (by kernel_rfl) rfl (fun K hK => ?_)
            refine ow_store _ _ _ rfl _ #[.int .i64 x, .int .i64 (j : Int), .int .i64 e0.ino] rfl rfl _ _ Hbe.out Tryz.pqSize rfl (by simp [Value.oneCell']) ?_
            apply Stop.go; intro wf Hof Hbf
            have HQ : Hid (Blk wf gq 45 (icells [x, (j : Int), e0.ino])) := Hbf
            have hNf : wf.cell? (ad.add k) = some (.int .i64 x) ∧ Blk wf ge 67 (ecells e0) := ⟨(World.cell?_of_block (w := we) (Hof.out.block _ (by have := zV.out; omega))).trans hSn.1, hSn.2.only Hof.out (by have := zS.out; omega)⟩
            have Df := Lib.hid (bonly HE.out Hof.out zQ.out)
            clear HE Hof Hbf Hbe zS zV
            have hSn := hNf; refine hK _ _ hSn ?_; clear hK; clear K; simp only [setL]
            refine WH.done (by kernel_rfl) ?_
            have HOf := Lib.hid (HOd.out.ext Df.out)
            have HUf := Lib.hid (HUd.out.ext Df.out)
            have HXf := Lib.hid (HXd.out.ext Df.out)
            have HVf := Lib.hid (HVd.out.ext Df.out)
            have Ef := Lib.hid (bt Ed.out Df.out)
            have Hef := Lib.hid hSn.2
            clear hSn hNf Df HOd HUd HXd HVd Ed Hbd ck
            have HOo := Lib.hid (fun w => rof_any e0.name HSe.out w)
            have HLo := Lib.hid (fun w => rlow_any (hashN e0.name) (hashN_lt e0.name) RD w)
            rw [HLow.out e0.name] at HLo
            have hp32 := HP32.out e0.name
            have cp : wf.cell? ⟨gx, 1 + rP e0.name, none⟩ = some (.int .i64 (rN e0.name)) := by rw [← HPn.out e0.name]; exact rx_cell HXf.out.blk (by rw [HTL.out]; exact hp32)
            have cd : wf.cell? ⟨gx, 0, none⟩ = some (.int .i64 RD) := HXf.out.blk.fld 0 (by rw [List.length_cons]; omega)
            have cn : wf.cell? ⟨ge, 0, none⟩ = some (.string e0.name) := Hef.out.cell 0
            have ck := HCk.out _ HVf.out.rc
            obtain ⟨y, hy⟩ : ∃ y, rN e0.name = y := ⟨_, rfl⟩
            obtain ⟨p, hp⟩ : ∃ p, rP e0.name = p := ⟨_, rfl⟩
            obtain ⟨h, hh⟩ : ∃ h, hashN e0.name = h := ⟨_, rfl⟩
            rw [hy] at cp HDe
            rw [hp] at cp hp32 HLo
            rw [hh] at HLo HOo
            clear hy hp hh
            obtain ⟨hm, hhm⟩ : ∃ b, (y == x) = b := ⟨_, rfl⟩
            rw [hhm] at HDe
            go_wp2_with fail
            go_quiet (first | (go_at_call 41; exact Calls.quiet_of_same ((HOo.out _).mono fun _ _ h => ⟨h.1, h.2.symm⟩)) | (go_at_call 40; exact Calls.quiet_of_same ((HLo.out _).mono fun _ _ h => ⟨h.1, h.2.symm⟩)))
            clear cp cd cn ck hp32 HLo HOo hhm
            obtain ⟨wq, hwq⟩ : ∃ x, wf.drewN nq = x := ⟨_, rfl⟩
            have Dq := bdrew wf nq
            rw [hwq] at Dq ⊢
            have HOq := Lib.hid (HOf.out.ext Dq)
            have HUq := Lib.hid (HUf.out.ext Dq)
            have HXq := Lib.hid (HXf.out.ext Dq)
            have HVq := Lib.hid (HVf.out.ext Dq)
            have Eq := Lib.hid (bt Ef.out Dq)
            have Heq := Lib.hid (Hef.out.ext Dq)
            have HQq := Lib.hid (HQ.out.ext Dq)
            clear hwq Dq HOf HUf HXf HVf Ef Hef HQ
            obtain ⟨fq, hfq⟩ : ∃ b, fb (entP x (j, e0)) = b := ⟨_, rfl⟩
            rw [hfq] at HDe
            obtain ⟨z, hz⟩ : ∃ z, findZ b e0.name = z := ⟨_, rfl⟩
            obtain ⟨fd, hfd⟩ : ∃ r, (z == (j : Int)) = r := ⟨_, rfl⟩
            have HDf := Lib.hid (show fq = !(hm && fd) by
              rw [HDe.out, ← hfd, ← hz]
              congr 2
              cases hk : findS b e0.name with
              | none => rw [findZ_none hk]; simp
              | some q => rw [findZ_some hk]; rw [Bool.eq_iff_iff]; simp; omega)
            have HFe := Lib.hid (fun A' w h => HFi.out A' e0.name w h)
            simp only [hz] at HFe
            obtain ⟨c, hc⟩ : ∃ c, ((hm && fd) != st) = c := ⟨_, rfl⟩
            have HSel := Lib.hid (show (fb (entP x (j, e0)) == st) = c by
              rw [hfq, HDf.out, ← hc]
              cases hm <;> cases fd <;> cases st <;> rfl)
            have ck := HCk.out _ HVq.out.rc
            have HPy := Lib.hid (fun h : c = true => show irows (plsE fb st (ED k ++ (listS b (j + 1)).map (entP x))) = irows (plsE fb st (ED k ++ (listS b j).map (entP x))) ++ [ivals [x, (j : Int), e0.ino]] by
              have := plsE_yes (P := ED k ++ (listS b j).map (entP x)) (HSel.out.trans h)
              rw [List.append_assoc, ← HLs.out] at this
              exact this)
            have HPn := Lib.hid (fun h : c = false => show irows (plsE fb st (ED k ++ (listS b (j + 1)).map (entP x))) = irows (plsE fb st (ED k ++ (listS b j).map (entP x))) by
              have := plsE_no (P := ED k ++ (listS b j).map (entP x)) (HSel.out.trans h)
              rw [List.append_assoc, ← HLs.out] at this
              rw [this])
            have HNy := Lib.hid (fun h : c = true => show svals (nmsE fb st (ED k ++ (listS b (j + 1)).map (entP x))) = svals (nmsE fb st (ED k ++ (listS b j).map (entP x))) ++ [.string e0.name] by
              have := nmsE_yes (P := ED k ++ (listS b j).map (entP x)) (HSel.out.trans h)
              rw [List.append_assoc, ← HLs.out] at this
              exact this)
            have HNn := Lib.hid (fun h : c = false => show svals (nmsE fb st (ED k ++ (listS b (j + 1)).map (entP x))) = svals (nmsE fb st (ED k ++ (listS b j).map (entP x))) by
              have := nmsE_no (P := ED k ++ (listS b j).map (entP x)) (HSel.out.trans h)
              rw [List.append_assoc, ← HLs.out] at this
              rw [this])
            have HPl1 := Lib.hid (Nat.le_trans (plsE_len (f := fb) (st := st) (P := ED k ++ (listS b j).map (entP x))) HPl.out)
            have HPl2 := Lib.hid (Nat.le_trans (nmsE_len (f := fb) (st := st) (P := ED k ++ (listS b j).map (entP x))) HPl.out)
            generalize irows (plsE fb st (ED k ++ (listS b j).map (entP x))) = LP at *
            generalize svals (nmsE fb st (ED k ++ (listS b j).map (entP x))) = LN at *
            clear HDe HDf hfq hz HSel HPl HLs
            cases hm
            focus
              rw [Bool.false_and] at hc
              cases st
              all_goals
                go_wp2_with fail
                refine WH.start (S := fun w' : World => Blk w' ge 67 (ecells e0)) [false, false, false, false, false, false, false, false, false, false, false, false, false, false, false, false] 16 rfl rfl (by kernel_rfl) (Heq.out.ext (bdrew wq 1)) (fun hSn => ?_); obtain ⟨wR, hwS⟩ : ∃ x, (wq).drew = x := ⟨_, rfl⟩; have HE := Lib.hid (show Below (wq).heap.size (wq) wR from hwS ▸ bdrew wq 1); rw [hwS] at hSn ⊢; clear hwS
                refine WH.tk 0 ?_; simp only [setL]
                refine WH.tk 1 ?_; simp only [setL]
                refine WH.skip 2 _ rfl (by kernel_rfl) (fun _ _ _ h => h) rfl (by assumption) ?_; simp only [setL]
                refine WH.skip 3 _ rfl (by kernel_rfl) (fun _ _ _ h => h) rfl (by assumption) ?_; simp only [setL]
                refine WH.skip 4 _ rfl (by kernel_rfl) (fun _ _ _ h => h) rfl (by assumption) ?_; simp only [setL]
                refine WH.skip 5 _ rfl (by kernel_rfl) (fun _ _ _ h => h) rfl (by assumption) ?_; simp only [setL]
                refine WH.skip 6 _ rfl (by kernel_rfl) (fun _ _ _ h => h) rfl (by assumption) ?_; simp only [setL]
                refine WH.skip 7 _ rfl (by kernel_rfl) (fun _ _ _ h => h) rfl (by assumption) ?_; simp only [setL]
                refine WH.skip 8 _ rfl (by kernel_rfl) (fun _ _ _ h => h) rfl (by assumption) ?_; simp only [setL]
                refine WH.skip 9 _ rfl (by kernel_rfl) (fun _ _ _ h => h) rfl (by assumption) ?_; simp only [setL]
                refine WH.skip 10 _ rfl (by kernel_rfl) (fun _ _ _ h => h) rfl (by assumption) ?_; simp only [setL]
                refine WH.skip 11 _ rfl (by kernel_rfl) (fun _ _ _ h => h) rfl (by assumption) ?_; simp only [setL]
                refine WH.skip 12 _ rfl (by kernel_rfl) (fun _ _ _ h => h) rfl (by assumption) ?_; simp only [setL]
                refine WH.tk 13 ?_; simp only [setL]
                refine WH.tk 14 ?_; simp only [setL]
                refine WH.tk 15 ?_; simp only [setL]
                refine WH.done (by kernel_rfl) ?_
                have HD := Lib.hid HE.out
                clear hSn HE ck hfd HFe
            rotate_left
            rotate_left
            focus
              rw [Bool.true_and] at hc
              cases fd <;> cases st
              all_goals
                go_wp2_with fail
                refine WH.start (S := fun w' : World => w'.cell? (ad.add k) = some (.int .i64 x) ∧ Blk w' ge 67 (ecells e0)) [false, false, false, false, false, false, false, false, false, false, false, false, false, false, false, false] 16 rfl rfl (by kernel_rfl) ⟨((bdrew wq 1).cell (block_lt_of_cell ck)).trans ck, Heq.out.ext (bdrew wq 1)⟩ (fun hSn => ?_); obtain ⟨wS, hwS⟩ : ∃ x, (wq).drew = x := ⟨_, rfl⟩; have HE := Lib.hid (show Below (wq).heap.size (wq) wS from hwS ▸ bdrew wq 1); rw [hwS] at hSn ⊢; clear hwS
                refine WH.tk 0 ?_; simp only [setL]
                refine WH.tk 1 ?_; simp only [setL]
                refine WH.tk 2 ?_; simp only [setL]
                refine WH.tk 3 ?_; simp only [setL]
                refine WH.tk 4 ?_; simp only [setL]
                refine WH.tk 5 ?_; simp only [setL]
                refine WH.tv 6 rfl (fun w' hSw => exec_load_cell _ _ rfl _ rfl _ hSw.1 _ Tryz.underlying3 rfl) ?_; simp only [setL]
                refine WH.tk 8 ?_; simp only [setL]
                refine WH.tv 9 rfl (fun w' hSw => exec_load_cell _ _ rfl _ rfl (.string e0.name) (hSw.2.cell 0) _ (Tryz.underlying9) rfl) ?_; simp only [setL]
                refine WH.tk 11 ?_; simp only [setL]
                refine WH.tk 14 ?_; simp only [setL]
                refine WH.only 7 _ rfl (by kernel_rfl) rfl (fun K hK => ?_)
                go_simp; refine (HBx.out _ (Hr.out.below (bt Eq.out HE.out))).mono ?_; rintro e wT ⟨A8, rfl, hrT, hbT⟩; go_simp
                have HE := Lib.hid (bt HE.out hbT)
                have hSn := And.intro ((hbT.cell (block_lt_of_cell hSn.1)).trans hSn.1) (hSn.2.ext hbT); refine hK _ _ hSn ?_; clear hK; clear K; simp only [setL]
                refine WH.only 10 _ rfl (by kernel_rfl) rfl (fun K hK => ?_)
                go_simp; refine (HFe.out A8 _ hrT).mono ?_; rintro e wR ⟨rfl, hbR⟩; go_simp
                have HD := Lib.hid (bt HE.out hbR)
                have hSn := And.intro ((hbR.cell (block_lt_of_cell hSn.1)).trans hSn.1) (hSn.2.ext hbR); refine hK _ _ hSn ?_; clear hK; clear K; simp only [setL]
                refine WH.tk 12 ?_; simp only [setL]
                refine WH.tk 13 ?_; simp only [setL]
                refine WH.tk 15 ?_; simp only [setL]
                refine WH.done (by kernel_rfl) ?_
                clear hSn HE ck hfd HFe hrT hbT hbR
            all_goals
              have HOr := Lib.hid (HOq.out.ext HD.out)
              have HUr := Lib.hid (HUq.out.ext HD.out)
              have HXr := Lib.hid (HXq.out.ext HD.out)
              have HVr := Lib.hid (HVq.out.ext HD.out)
              have Er := Lib.hid (bt Eq.out HD.out)
              have Her := Lib.hid (Heq.out.ext HD.out)
              have HQr := Lib.hid (HQq.out.ext HD.out)
              clear HD HOq HUq HXq HVq Eq Heq HQq
              cases c
              · try exact absurd hc (by decide)
                all_goals
                  have HPz := Lib.hid (HPn.out rfl)
                  have HNz := Lib.hid (HNn.out rfl)
                  clear HPy HNy HPn HNn hc
                  go_wp2_with fail
                  go_roundw
                  case rel => exact ⟨j + 1, by omega, by go_num, Er, Lib.hid (by rw [HPz.out]; exact HOr.out), Lib.hid (by rw [HNz.out]; exact HUr.out), HA, HXr, HVr⟩
                  case measure => simp [intOf]; omega
              · try exact absurd hc (by decide)
                all_goals
                  have HPz := Lib.hid (HPy.out rfl)
                  have HNz := Lib.hid (HNy.out rfl)
                  clear HPn HNn HPy HNy hc
                  have Zr := Lib.hid Er.out.size
                  go_wp2_with (first | refine wpList_load_blk rfl _ _ rfl _ rfl _ _ HQr.out _ Tryz.underlying45 rfl (Tryz.pqFits H3.out) ?_ | refine wpList_build_row rfl _ _ _ rfl Tryz.underlying54 3 _ _ Tryz.pqInfo (by decide) (by decide) (icells [x, (j : Int), e0.ino]) rfl rfl ?_)
                  apply Stop.go; intro ws Hgs Hbs
                  have HOs := Lib.hid (HOr.out.ext Hgs.out.1)
                  have HUs := Lib.hid (HUr.out.ext Hgs.out.1)
                  have HXs := Lib.hid (HXr.out.ext Hgs.out.1)
                  have HVs := Lib.hid (HVr.out.ext Hgs.out.1)
                  have Es := Lib.hid (bt Er.out Hgs.out.1)
                  have Hes := Lib.hid (Her.out.ext Hgs.out.1)
                  have Zs := Lib.hid Es.out.size
                  clear Hgs HOr HUr HXr HVr Er Her HQr Zr
                  go_wp2_with (refine wpList_append_rowS rfl _ _ _ _ rfl Tryz.underlying54 3 _ _ Tryz.pqInfo rfl (by decide) w.heap.size _ _ rfl HOs.out _ (icells [x, (j : Int), e0.ino]) rfl Hbs.out rfl (oneCell_icells _) Zs.out (by have := HPl1.out; omega) (by have := HPl1.out; omega) ?_)
                  apply Stop.go; intro gn cap wt HOt HSt HNt
                  have HUt := Lib.hid (OwnC.save HUs.out HSt.out HA.out)
                  have HAt := Lib.hid (HA.out.next (fun k hk => (HUs.out.lt k hk).2) HNt.out)
                  have hSw := HSt.out.weak (F' := fun k => Has u10 k ∨ Has u11 k) fun _ h => Or.inl h
                  have hNw : Next ws (fun k => Has u10 k ∨ Has u11 k) (fun k => Has (.slice (some ⟨gn, 0, none⟩) (LP.length + 1) cap) k ∨ Has u11 k) := fun k h => h.elim (fun h => (HNt.out k h).imp Or.inl id) fun h => Or.inl (Or.inr h)
                  have HXt := Lib.hid (HXs.out.next hSw hNw)
                  have HVt := Lib.hid (HVs.out.next hSw hNw)
                  have Et := Lib.hid (Es.out.trans (HSt.out.below (fun k hk => (HOs.out.lt k hk).1) Zs.out))
                  have Het := Lib.hid (Hes.out.save HSt.out Nge.out)
                  have Zt := Lib.hid Et.out.size
                  clear hSw hNw HSt HNt HOs HUs HXs HVs Es Hes Zs Hbs HA
                  have c0 : wt.cell? ⟨ge, 0, none⟩ = some (.string e0.name) := Het.out.cell 0
                  go_wp2_with (at_builtin; refine wpList_append_oneS rfl _ _ _ _ rfl Tryz.underlying55 (.string ⟨#[]⟩) 16 Tryz.strInfo24 rfl w.heap.size _ _ rfl HUt.out (.string e0.name) rfl rfl Zt.out (by unfold maxLen; have := HPl2.out; omega) (by have := HPl2.out; omega) ?_)
                  apply Stop.go; intro v2 wu HUu HSu HNu
                  have HOu := Lib.hid (OwnN.save HOt.out HSu.out HAt.out.symm)
                  have HAu := Lib.hid (HAt.out.symm.next (fun k hk => (HOt.out.lt k hk).2) HNu.out).symm
                  have hSv := HSu.out.weak (F' := fun k => Has (.slice (some ⟨gn, 0, none⟩) (LP.length + 1) cap) k ∨ Has u11 k) fun _ h => Or.inr h
                  have hNv : Next wt (fun k => Has (.slice (some ⟨gn, 0, none⟩) (LP.length + 1) cap) k ∨ Has u11 k) (fun k => Has (.slice (some ⟨gn, 0, none⟩) (LP.length + 1) cap) k ∨ Has v2 k) := fun k h => h.elim (fun h => Or.inl (Or.inl h)) fun h => (HNu.out k h).imp Or.inr id
                  have HXu := Lib.hid (HXt.out.next hSv hNv)
                  have HVu := Lib.hid (HVt.out.next hSv hNv)
                  have Eu := Lib.hid (Et.out.trans (HSu.out.below (fun k hk => (HUt.out.lt k hk).1) Zt.out))
                  clear hSv hNv HSu HNu HOt HUt HXt HVt Et Het Zt HAt c0
                  go_wp2_with fail
                  go_roundw
                  case rel => exact ⟨j + 1, by omega, by go_num, Eu, Lib.hid (by rw [HPz.out]; exact HOu.out), Lib.hid (by rw [HNz.out]; exact HUu.out), HAu, HXu, HVu⟩
                  case measure => simp [intOf]; omega
        · obtain rfl : j = 7 := by omega
          have d2 : decide (((7 : Nat) : Int) < 7) = false := by simp
          rw [← HE1.out] at HO HU
          go_wp2_with fail
          go_roundw
          case rel => exact ⟨k + 1, by omega, by go_num, E, HO, HU, HA, HX, HVl⟩
          case measure => simp [intOf]; omega
    · obtain rfl : k = N := by omega
      have d1 : decide ((k : Int) < (k : Int)) = false := by simp
      go_wp2_with fail
      go_ret2
      exact ⟨_, _, rfl, HO.out, HU.out, HA.out, E.out⟩

end Go.Proofs.YtbajicgpjggkfaaGreat
