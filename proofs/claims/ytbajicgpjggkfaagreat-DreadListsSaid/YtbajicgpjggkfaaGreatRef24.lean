/-
  Contracts of the document's answers of layer 24: Route, Lookup.
-/
import Derived.Test.YtbajicgpjggkfaaGreatGrP
import Derived.Test.YtbajicgpjggkfaaGreatRef22
import Derived.Test.YtbajicgpjggkfaaGreatGrG
import Derived.Test.YtbajicgpjggkfaaGreatGrAA
namespace Go.Proofs.YtbajicgpjggkfaaGreat
open Go.RowKit
set_option maxRecDepth 10000

theorem Tryz.pqSize : (Tryz.prog.info? 45).map (·.size) = some 3 := by kernel_rfl
theorem Tryz.pqZero : (Tryz.prog.info? 45).map (·.zero) = some (some (.agg (icells [0, 0, 0]))) := by kernel_rfl
theorem Tryz.pqFits {l : List Int} (h : l.length = 3) : (Tryz.prog.info? 45).map (·.size) = some (icells l).size := by rw [icells_size, h]; exact Tryz.pqSize
theorem Tryz.pqBuilt0 : Tryz.prog.built 45 [] = some (icells [0, 0, 0]) := by kernel_rfl
theorem rx_cell {w : World} {g : Nat} {t : TypeId} {d : Int} {l : List Int} (h : Blk w g t (icells (d :: l))) {p : Nat} (hp : p < l.length) : w.cell? ⟨g, 1 + p, none⟩ = some (.int .i64 (fld l p)) := by
  rw [h.fld (1 + p) (by rw [List.length_cons]; omega)]
  unfold fld
  rw [Nat.add_comm 1 p, List.getD_cons_succ]

set_option maxHeartbeats 3200000 in
theorem rroute_any (A : Option Addr) (n cap : Nat) (L : List (List UInt8)) (hn : L.length = n) (hL : Bks L) (hm : n ≤ maxLen) (l : Lay14) (hly : layW L = some l) (X : List Int) (hX : X.length = 11) (hXi : ∀ z ∈ X, z < 9223372036854775808) (s : ByteArray) (hs : s.size ≤ maxLen) (w : World) (hr : RK w A L) :
    Calls Tryz.prog 14 #[.slice A n cap, .agg l.val, .agg (icells X), .string s] w fun e w' => e = .returned (.tuple #[.int .i64 (rouP l (bkV L) X s : Nat), .int .i64 (rouN l (bkV L) X s), .bool (isF l (bkV L) X)]) ∧ Below w.heap.size w w' := by
  have Hr := Lib.hid hr
  have HXL := Lib.hid hX
  have HIx := Lib.hid (fun w h => rix22_any A n cap L hn hL hm l hly X hX hXi w h)
  have HN := Lib.hid (fun h : isF l (bkV L) X = false => rou_none h s)
  have HOf := Lib.hid (fun w => rof_any s hs w)
  have HLo := Lib.hid (fun w => rlow_any (hashN s) (hashN_lt s) (ixD l (bkV L) X) w)
  rw [low_rou (l := l) (T := bkV L) (X := X) s] at HLo
  have HP := Lib.hid (rouP_32 (l := l) (T := bkV L) (X := X) s)
  have HTL := Lib.hid (ixT_len (l := l) (T := bkV L) (X := X))
  have HPn := Lib.hid (show fld (ixT l (bkV L) X) (rouP l (bkV L) X s) = rouN l (bkV L) X s from rfl)
  have HzL := Lib.hid zeroT_len
  generalize rouN l (bkV L) X s = N at *
  generalize rouP l (bkV L) X s = P at *
  generalize ixD l (bkV L) X = RD at *
  generalize ixT l (bkV L) X = RT at *
  generalize isF l (bkV L) X = rb at *
  generalize hashN s = h at *
  clear hr hX hs hn hL hm hly hXi
  go_enter Tryz.func14, Tryz.ntmps14
  go_wp2_with (refine wpList_box_row rfl _ _ rfl _ rfl ?_)
  apply Stop.go; intro w1 Hg1 Hb1
  go_wp2_with (refine wpList_box_row rfl _ _ rfl _ rfl ?_)
  apply Stop.go; intro w2 Hg2 Hb2
  have HV2 := Lib.hid (Hb1.out.ext Hg2.out.1)
  have E2 := Lib.hid (bt Hg1.out.1 Hg2.out.1)
  generalize w1.heap.size = g1 at *
  clear Hg1 Hb1 Hg2
  go_wp2_with (first | refine wpList_load_blk rfl _ _ rfl _ rfl _ _ HV2.out _ Tryz.underlying26 rfl Tryz.laySize ?_ | refine wpList_load_blk rfl _ _ rfl _ rfl _ _ Hb2.out _ Tryz.underlying39 rfl (Tryz.inoFits HXL.out) ?_)
  refine (HIx.out _ (Hr.out.below E2.out)).mono ?_; rintro e w4 ⟨rfl, hb4⟩
  have E4 := Lib.hid (bt E2.out hb4)
  clear hb4 HV2 Hb2 E2 HIx
  go_wp2_with (refine wpList_alloc_row rfl _ rfl _ Tryz.rxZero ?_)
  apply Stop.go; intro w5 Hg5 Hb5
  go_wp2_with (refine wpList_store_arr rfl _ _ _ rfl _ _ rfl rfl _ _ Hb5.out (Tryz.rxFits HTL.out) (icells_same HzL.out HTL.out) (oneCell_icells _) ?_)
  apply Stop.go; intro w6 Ho6 Hb6
  have E6 := Lib.hid (bt E4.out (bonly Hg5.out.1 Ho6.out (Nat.le_refl _)))
  generalize w4.heap.size = gx at *
  clear Hg5 Hb5 Ho6 E4
  cases rb
  · obtain ⟨rfl, rfl⟩ := HN.out rfl
    clear HN
    go_wp2_with fail
    go_ret3
    exact ⟨rfl, E6.out⟩
  · have c0 : w6.cell? ⟨gx, 0, none⟩ = some (.int .i64 RD) := Hb6.out.fld 0 (by rw [List.length_cons]; omega)
    have cp : w6.cell? ⟨gx, 1 + P, none⟩ = some (.int .i64 N) := by rw [← HPn.out]; exact rx_cell Hb6.out (by rw [HTL.out]; exact HP.out)
    have hp32 := HP.out
    clear HN HPn
    go_wp2_with fail
    go_quiet (first | (go_at_call 41; exact Calls.quiet_of_same ((HOf.out _).mono fun _ _ h => ⟨h.1, h.2.symm⟩)) | (go_at_call 40; exact Calls.quiet_of_same ((HLo.out _).mono fun _ _ h => ⟨h.1, h.2.symm⟩)))
    go_wp2_with fail
    go_quiet (fail)
    go_wp2_with fail
    go_ret3
    exact ⟨rfl, bt (bt E6.out (bdrew _ _)) (bdrew _ _)⟩

set_option maxHeartbeats 6400000 in
theorem rlook24_any (A : Option Addr) (n cap : Nat) (L : List (List UInt8)) (hn : L.length = n) (hL : Bks L) (hm : n ≤ maxLen) (l : Lay14) (hly : layW L = some l) (X : List Int) (hX : X.length = 11) (hXi : ∀ z ∈ X, z < 9223372036854775808) (s : ByteArray) (hs : s.size ≤ maxLen) (w : World) (hr : RK w A L) :
    Calls Tryz.prog 12 #[.slice A n cap, .agg l.val, .agg (icells X), .string s] w fun e w' => e = .returned (.tuple #[.agg (icells (orZ (lkD l (bkV L) X s))), .bool (lkD l (bkV L) X s).isSome]) ∧ Below w.heap.size w w' := by
  have Hr := Lib.hid hr
  have HXL := Lib.hid hX
  have HRo := Lib.hid (fun w h => rroute_any A n cap L hn hL hm l hly X hX hXi s hs w h)
  have HNi := Lib.hid (show rouN l (bkV L) X s < 9223372036854775808 by
    unfold rouN
    exact fld_in ixT_in _)
  have HBk := Lib.hid (fun w h => rblock22_any A n cap L hn hL hm (rouN l (bkV L) X s) w h)
  have HBL := Lib.hid (bkV_len hL (rouN l (bkV L) X s))
  obtain ⟨R, HR⟩ : ∃ R, Hid (lkD l (bkV L) X s = R) := ⟨_, Lib.hid rfl⟩
  have hvb := vBk_is hly (rouN l (bkV L) X s)
  have HNo := Lib.hid (fun h : isF l (bkV L) X = false => show R = none by rw [← HR.out]; exact lkD_none h s)
  have H0 := Lib.hid (fun h : l.isD (rouN l (bkV L) X s) = false => show R = none by rw [← HR.out]; exact lkD_off h)
  have H1 := Lib.hid (fun (h : l.isD (rouN l (bkV L) X s) = true) (hf : findS (bkV L (rouN l (bkV L) X s)) s = none) => show R = none by rw [← HR.out, lkD_on h, hvb]; unfold lkO; rw [hf])
  have H2 := Lib.hid (fun (h : l.isD (rouN l (bkV L) X s) = true) (k : Nat) (hf : findS (bkV L (rouN l (bkV L) X s)) s = some k) => show R = some [rouN l (bkV L) X s, (k : Int), (entV (entS (bkV L (rouN l (bkV L) X s)) k)).ino] by
    have hi : ∀ b : List UInt8, (entV (entS b k)).ino = inoS b k := fun b => by
      unfold inoS
      cases entS b k <;> rfl
    rw [← HR.out, lkD_on h, hvb, hi]; unfold lkO; rw [hf])
  have HK := Lib.hid (fun (k : Nat) (hf : findS (bkV L (rouN l (bkV L) X s)) s = some k) => show k < 7 from fstB_lt hf)
  have HRd := Lib.hid (fun A' k hk w h => rread18_any A' 256 (bkV L (rouN l (bkV L) X s)) HBL.out k hk w h)
  have HFi := Lib.hid (fun A' w h => rfind18_any A' 256 (bkV L (rouN l (bkV L) X s)) HBL.out s w h)
  rw [HR.out]
  clear hvb HR hr hX hs hn hL hm hly hXi
  generalize bkV L (rouN l (bkV L) X s) = b at *
  generalize rouN l (bkV L) X s = N at *
  generalize rouP l (bkV L) X s = P at *
  generalize isF l (bkV L) X = rb at *
  have Hz := Lib.hid (show ([0, 0, 0] : List Int).length = 3 from rfl)
  go_enter Tryz.func12, Tryz.ntmps12
  go_wp2_with (refine wpList_box_row rfl _ _ rfl _ rfl ?_)
  apply Stop.go; intro w1 Hg1 Hb1
  go_wp2_with (refine wpList_box_row rfl _ _ rfl _ rfl ?_)
  apply Stop.go; intro w2 Hg2 Hb2
  have HV2 := Lib.hid (Hb1.out.ext Hg2.out.1)
  have E2 := Lib.hid (bt Hg1.out.1 Hg2.out.1)
  have z2 := Lib.hid (show w.heap.size < w1.heap.size ∧ w1.heap.size < w2.heap.size by have := Hg1.out.2; have := Hg2.out.2; omega)
  generalize w1.heap.size = g1 at *
  clear Hg1 Hb1 Hg2
  go_wp2_with (refine wpList_alloc_row rfl _ rfl _ Tryz.pqZero ?_)
  apply Stop.go; intro w3 Hg3 Hb3
  have HV3 := Lib.hid (HV2.out.ext Hg3.out.1)
  have HX3 := Lib.hid (Hb2.out.ext Hg3.out.1)
  have E3 := Lib.hid (bt E2.out Hg3.out.1)
  have z3 := Lib.hid (show w.heap.size < w2.heap.size by have := z2.out; omega)
  generalize w2.heap.size = gp at *
  clear Hg3 Hb2 HV2 E2 z2
  go_wp2_with (first | refine wpList_load_blk rfl _ _ rfl _ rfl _ _ HV3.out _ Tryz.underlying26 rfl Tryz.laySize ?_ | refine wpList_load_blk rfl _ _ rfl _ rfl _ _ HX3.out _ Tryz.underlying39 rfl (Tryz.inoFits HXL.out) ?_)
  refine (HRo.out _ (Hr.out.below E3.out)).mono ?_; rintro e w4 ⟨rfl, hb4⟩
  have HV4 := Lib.hid (HV3.out.ext hb4)
  have HP4 := Lib.hid (Hb3.out.ext hb4)
  have E4 := Lib.hid (bt E3.out hb4)
  clear hb4 HV3 HX3 Hb3 E3 HRo
  cases rb
  · obtain rfl := HNo.out rfl
    clear HNo H0 H1 H2
    go_wp2_with (first | refine wpList_build_nil rfl _ rfl _ Tryz.pqBuilt0 ?_ | refine wpList_store_arr rfl _ _ _ rfl _ _ rfl rfl _ _ HP4.out (Tryz.pqFits Hz.out) (icells_sizes Hz.out Hz.out) (oneCell_icells _) ?_)
    apply Stop.go; intro we Hoe Hbe
    go_wp2_with ((with_reducible show bodyPost _ _ _ _ _ _); refine bodyPost_struct_tmp rfl _ rfl _ _ Hbe.out _ Tryz.underlying45 rfl (Tryz.pqFits Hz.out) rfl _ rfl ?_)
    apply Stop.go
    exact ⟨rfl, bonly E4.out Hoe.out (by have := z3.out; omega)⟩
  · clear HNo
    go_wp2_with (refine wpList_load_blk rfl _ _ rfl _ rfl _ _ HV4.out _ Tryz.underlying26 rfl Tryz.laySize ?_)
    refine (rdata_any l N HNi.out _).mono ?_; rintro e w5 ⟨rfl, hb5⟩
    have HP5 := Lib.hid (HP4.out.ext hb5)
    have E5 := Lib.hid (bt E4.out hb5)
    clear hb5 HV4 HP4 E4
    cases hd : l.isD N
    · obtain rfl := H0.out hd
      clear hd H0 H1 H2
      go_wp2_with (first | refine wpList_build_nil rfl _ rfl _ Tryz.pqBuilt0 ?_ | refine wpList_store_arr rfl _ _ _ rfl _ _ rfl rfl _ _ HP5.out (Tryz.pqFits Hz.out) (icells_sizes Hz.out Hz.out) (oneCell_icells _) ?_)
      apply Stop.go; intro we Hoe Hbe
      go_wp2_with ((with_reducible show bodyPost _ _ _ _ _ _); refine bodyPost_struct_tmp rfl _ rfl _ _ Hbe.out _ Tryz.underlying45 rfl (Tryz.pqFits Hz.out) rfl _ rfl ?_)
      apply Stop.go
      exact ⟨rfl, bonly E5.out Hoe.out (by have := z3.out; omega)⟩
    · have H1 := Lib.hid (H1.out hd)
      have H2 := Lib.hid (H2.out hd)
      clear hd H0
      go_wp2_with fail
      refine (HBk.out _ (Hr.out.below E5.out)).mono ?_; rintro e w6 ⟨A6, rfl, hr6, hb6⟩
      have HP6 := Lib.hid (HP5.out.ext hb6)
      have E6 := Lib.hid (bt E5.out hb6)
      have HR6 := Lib.hid hr6
      clear hb6 hr6 HP5 E5
      go_wp2_with fail
      refine (HFi.out A6 _ HR6.out).mono ?_; rintro e w7 ⟨rfl, hb7⟩
      have HP7 := Lib.hid (HP6.out.ext hb7)
      have E7 := Lib.hid (bt E6.out hb7)
      clear hb7 HP6 E6 HFi HR6
      cases hk : findS b s with
      | none =>
        obtain rfl := H1.out hk
        rw [findZ_none hk]
        clear hk H1 H2 HK
        go_wp2_with (first | refine wpList_build_nil rfl _ rfl _ Tryz.pqBuilt0 ?_ | refine wpList_store_arr rfl _ _ _ rfl _ _ rfl rfl _ _ HP7.out (Tryz.pqFits Hz.out) (icells_sizes Hz.out Hz.out) (oneCell_icells _) ?_)
        apply Stop.go; intro we Hoe Hbe
        go_wp2_with ((with_reducible show bodyPost _ _ _ _ _ _); refine bodyPost_struct_tmp rfl _ rfl _ _ Hbe.out _ Tryz.underlying45 rfl (Tryz.pqFits Hz.out) rfl _ rfl ?_)
        apply Stop.go
        exact ⟨rfl, bonly E7.out Hoe.out (by have := z3.out; omega)⟩
      | some k =>
        have hk7 := HK.out k hk
        have HRk := Lib.hid (fun A' w h => HRd.out A' k hk7 w h)
        obtain ⟨o, ho⟩ : ∃ o, entS b k = o := ⟨_, rfl⟩
        have hR := H2.out k hk
        rw [ho] at hR HRk
        obtain ⟨e, he⟩ : ∃ e, entV o = e := ⟨_, rfl⟩
        rw [he] at hR HRk
        obtain rfl := hR
        rw [findZ_some hk]
        have d0 : decide ((k : Int) < 0) = false := by simp
        generalize o.isSome = ob at *
        clear hk H1 H2 HK HRd he ho
        have H3 := Lib.hid (show ([N, (k : Int), e.ino] : List Int).length = 3 from rfl)
        go_wp2_with fail
        refine (HBk.out _ (Hr.out.below E7.out)).mono ?_; rintro e w8 ⟨A8, rfl, hr8, hb8⟩
        have HP8 := Lib.hid (HP7.out.ext hb8)
        have E8 := Lib.hid (bt E7.out hb8)
        have HR8 := Lib.hid hr8
        clear hb8 hr8 HP7 E7 HBk
        go_wp2_with fail
        refine (HRk.out A8 _ HR8.out).mono ?_; rintro e w9 ⟨rfl, hb9⟩
        have HP9 := Lib.hid (HP8.out.ext hb9)
        have E9 := Lib.hid (bt E8.out hb9)
        clear hb9 HP8 E8 HR8 HRk
        go_wp2_with (refine wpList_alloc_row rfl _ rfl _ Tryz.entZero ?_)
        apply Stop.go; intro wa Hga Hba
        go_wp2_with (refine wpList_store_arr rfl _ _ _ rfl _ (ecells e) rfl rfl _ _ Hba.out Tryz.entSize rfl (by simp [ecells, Value.oneCell']) ?_)
        apply Stop.go; intro wb Hob Hbb
        have D := Lib.hid (bonly Hga.out.1 Hob.out (Nat.le_refl _))
        have HPb := Lib.hid (HP9.out.ext D.out)
        have Eb := Lib.hid (bt E9.out D.out)
        generalize w9.heap.size = g9 at *
        clear Hga Hba Hob D HP9 E9
        have c1 : wb.cell? ⟨g9, 1, none⟩ = some (.int .i64 e.ino) := Hbb.out.cell 1
        go_wp2_with (refine wpList_store_arr rfl _ _ _ rfl _ #[.int .i64 N, .int .i64 (k : Int), .int .i64 e.ino] rfl rfl _ _ HPb.out Tryz.pqSize rfl (by simp [Value.oneCell']) ?_)
        apply Stop.go; intro we Hoe Hbe
        have Hbe : Hid (Blk we gp 45 (icells [N, (k : Int), e.ino])) := Hbe
        go_wp2_with ((with_reducible show bodyPost _ _ _ _ _ _); refine bodyPost_struct_tmp rfl _ rfl _ _ Hbe.out _ Tryz.underlying45 rfl (Tryz.pqFits H3.out) rfl _ rfl ?_)
        apply Stop.go
        exact ⟨rfl, bonly Eb.out Hoe.out (by have := z3.out; omega)⟩

end Go.Proofs.YtbajicgpjggkfaaGreat
