/-
  Texts of this claim joined: Drd1, Drd2, Drd3.
-/
import Derived.Test.YtkakihbfhmiabaaGreatGrAE
import Derived.Test.YtkakihbfhmiabaaGreatFm4
import Derived.Test.YtkakihbfhmiabaaGreatGrAG
import Derived.Test.YtkakihbfhmiabaaGreatGrAJ
import Derived.Test.YtkakihbfhmiabaaGreatGrAU

/-
  Contracts of package dread: placed, route, lookup, Lookup, Route.
-/
namespace Go.Proofs.YtkakihbfhmiabaaGreat
open Go.RowKit
set_option maxRecDepth 10000

theorem Tryz.plSize : (Tryz.prog.info? 186).map (·.size) = some 3 := by kernel_rfl
theorem Tryz.plZero : (Tryz.prog.info? 186).map (·.zero) = some (some (.agg (icells [0, 0, 0]))) := by kernel_rfl
theorem Tryz.plFits {l : List Int} (h : l.length = 3) : (Tryz.prog.info? 186).map (·.size) = some (icells l).size := by rw [icells_size, h]; exact Tryz.plSize
theorem Tryz.plBuilt0 : Tryz.prog.built 186 [] = some (icells [0, 0, 0]) := by kernel_rfl
/-- '==', '!=' of two places. -/
theorem run_neq_pl (x y : List Int) (hx : x.length = 3) (hy : y.length = 3) (w : World) : (binOp .neq 186 (.agg (icells x)) (.agg (icells y))).run Tryz.prog w = .ok (.bool (!(x == y))) w := by
  obtain ⟨a, b, c, rfl⟩ := list_three hx
  obtain ⟨d, e, f, rfl⟩ := list_three hy
  show (binOp .neq 186 (.agg #[.int .i64 a, .int .i64 b, .int .i64 c]) (.agg #[.int .i64 d, .int .i64 e, .int .i64 f])).run Tryz.prog w = _
  go_simp
  by_cases h1 : a = d <;> by_cases h2 : b = e <;> by_cases h3 : c = f <;> simp [h1, h2, h3]
theorem orZ_len {o : Option (List Int)} (h : ∀ p, o = some p → p.length = 3) : (orZ o).length = 3 := by
  cases o with
  | none => rfl
  | some p => exact h p rfl
/-- Where a name is, by an index's block number. -/
def lkN (l : Lay14) (T : Int → List UInt8) (no : Int) (s : ByteArray) : Option (List Int) := if l.isD no then lkO (vBk l T no) no s else none
theorem lkN_len (l : Lay14) (T : Int → List UInt8) (no : Int) (s : ByteArray) : (orZ (lkN l T no s)).length = 3 := by
  refine orZ_len fun p h => ?_
  unfold lkN at h
  split at h
  · unfold lkO at h
    split at h
    · injection h with h
      subst h
      rfl
    · cases h
  · cases h
theorem inoS_ent (b : List UInt8) (k : Nat) : (entV (entS b k)).ino = inoS b k := by
  unfold inoS
  cases entS b k <;> rfl

set_option maxHeartbeats 800000 in
theorem dplaced_any (no k : Int) (e : En) (w : World) :
    Calls Tryz.prog 160 #[.int .i64 no, .agg (scells k e)] w fun x w' => x = .returned (.agg (icells [no, k, e.ino])) ∧ Below w.heap.size w w' := by
  have H3 := Lib.hid (show ([no, k, e.ino] : List Int).length = 3 from rfl)
  have H0 := Lib.hid (show ([0, 0, 0] : List Int).length = 3 from rfl)
  have HC := Lib.hid (show icells [no, k, e.ino] = #[.int .i64 no, .int .i64 k, .int .i64 e.ino] from rfl)
  go_enter Tryz.func160, Tryz.ntmps160
  go_wp2_with (refine wpList_box_row rfl _ _ rfl _ rfl ?_)
  apply Stop.go; intro w1 Hg1 Hb1
  go_wp2_with (refine wpList_alloc_row rfl _ rfl _ Tryz.plZero ?_)
  apply Stop.go; intro w2 Hg2 Hb2
  have HS2 := Lib.hid (Hb1.out.ext Hg2.out.1)
  have E2 := Lib.hid (bt Hg1.out.1 Hg2.out.1)
  have z2 := Lib.hid (show w.heap.size < w1.heap.size by have := Hg1.out.2; omega)
  generalize w1.heap.size = g1 at *
  clear Hb1 Hg1 Hg2
  have c0 : w2.cell? ⟨w.heap.size, 0, none⟩ = some (.int .i64 k) := HS2.out.cell 0
  have c2 : w2.cell? ⟨w.heap.size, 2, none⟩ = some (.int .i64 e.ino) := HS2.out.cell 2
  go_wp2_with (refine wpList_store_arr rfl _ _ _ rfl _ #[.int .i64 no, .int .i64 k, .int .i64 e.ino] rfl rfl _ _ Hb2.out Tryz.plSize rfl (by simp [Value.oneCell']) ?_)
  apply Stop.go; intro w3 Ho3 Hb3
  have Hb3 : Hid (Blk w3 g1 186 (icells [no, k, e.ino])) := Hb3
  go_wp2_with ((with_reducible show bodyPost _ _ _ _ _ _); refine bodyPost_struct rfl _ rfl _ _ Hb3.out _ Tryz.underlying186 rfl (Tryz.plFits H3.out) rfl ?_)
  exact bonly E2.out Ho3.out (by have := z2.out; omega)

set_option maxHeartbeats 1600000 in
theorem droute_any (d : Int) (t : List Int) (ht : t.length = 32) (s : ByteArray) (hs : s.size ≤ maxLen) (w : World) :
    Calls Tryz.prog 175 #[.agg (icells (d :: t)), .string s] w fun x w' => x = .returned (.tuple #[.int .i64 ((hashN s % 2 ^ dpN d : Nat) : Int), .int .i64 (fld t (hashN s % 2 ^ dpN d))]) ∧ Below w.heap.size w w' := by
  have HL := Lib.hid ht
  have HMo := Lib.hid (fun w => mof_any s hs w)
  have HXp := Lib.hid (fun w => xplace_any d t ht (hashN s) (hashN_lt s) w)
  obtain ⟨p, Hp⟩ : ∃ p, Hid (hashN s % 2 ^ dpN d = p) := ⟨_, Lib.hid rfl⟩
  have HP := Lib.hid (show p < 32 by rw [← Hp.out]; exact Nat.lt_of_lt_of_le (Nat.mod_lt _ (Nat.pow_pos (by omega))) (pow32 (dpN_le d)))
  rw [Hp.out] at HXp ⊢
  obtain ⟨y, Hy⟩ : ∃ y, Hid (fld t p = y) := ⟨_, Lib.hid rfl⟩
  rw [Hy.out]
  generalize hashN s = h at *
  clear ht hs Hp
  go_enter Tryz.func175, Tryz.ntmps175
  go_wp2_with (refine wpList_box_row rfl _ _ rfl _ rfl ?_)
  apply Stop.go; intro w1 Hg1 Hb1
  go_wp2_with fail
  refine WH.start (S := fun w' : World => Blk w' w.heap.size 102 (icells (d :: t))) [false, false, false, false, false] 5 rfl rfl (by kernel_rfl) (Hb1.out.ext (bdrew w1 1)) (fun hSn => ?_); obtain ⟨wS, hwS⟩ : ∃ x, (w1).drew = x := ⟨_, rfl⟩; have HE := Lib.hid (show Below (w1).heap.size (w1) wS from hwS ▸ bdrew w1 1); rw [hwS] at hSn ⊢; clear hwS
  refine WH.tv 0 rfl (fun w' hSw => exec_load_blk _ _ rfl _ rfl _ _ (hSw) _ (Tryz.underlying102) rfl ((Tryz.ixFits HL.out))) ?_; simp only [setL]
  refine WH.tk 1 ?_; simp only [setL]
  refine WH.only 2 _ rfl (by kernel_rfl) rfl (fun K hK => ?_)
  go_simp; refine (HMo.out _).mono ?_; rintro e wa ⟨rfl, rfl⟩; go_simp
  have hSn := hSn; refine hK _ _ hSn ?_; clear hK; clear K; simp only [setL]
  refine WH.only 3 _ rfl (by kernel_rfl) rfl (fun K hK => ?_)
  go_simp; refine (HXp.out _).mono ?_; rintro e wb ⟨rfl, hbb⟩; go_simp
  have HX := Lib.hid (hSn.ext hbb)
  have Eb := Lib.hid (bt HE.out hbb)
  have hSn := hSn.ext hbb; refine hK _ _ hSn ?_; clear hK; clear K; simp only [setL]
  refine WH.tk 4 ?_; simp only [setL]
  refine WH.done (by kernel_rfl) ?_
  have cp : wb.cell? ⟨w.heap.size, 1 + p, none⟩ = some (.int .i64 (fld t p)) := by
    have := HX.out.fld (1 + p) (by rw [List.length_cons, HL.out]; have := HP.out; omega)
    rw [this]
    unfold fld
    rw [Nat.add_comm 1 p, List.getD_cons_succ]
  rw [Hy.out] at cp
  have hp32 := HP.out
  clear hSn hbb
  go_wp2_with fail
  go_quiet (fail)
  go_wp2_with fail
  go_ret2
  exact ⟨rfl, bt (bt Hg1.out.1 Eb.out) (bdrew _ _)⟩

set_option maxHeartbeats 3200000 in
theorem dlookN_any (l : Lay14) (f : Value) (T : Int → List UInt8) (hT : ∀ no, (T no).length = 256) (d : Int) (t : List Int) (ht : t.length = 32) (s : ByteArray) (hs : s.size ≤ maxLen) (no : Int) (hno : fld t (hashN s % 2 ^ dpN d) = no) (w : World) (hf : FV w l f T) :
    Calls Tryz.prog 161 #[.agg (vval l f), .agg (icells (d :: t)), .string s] w fun x w' => x = .returned (.tuple #[.agg (icells (orZ (lkN l T no s))), .bool (lkN l T no s).isSome]) ∧ Below w.heap.size w w' := by
  have HF := Lib.hid hf
  have HL := Lib.hid ht
  have HRo := Lib.hid (fun w => droute_any d t ht s hs w)
  obtain ⟨p, Hp⟩ : ∃ p, Hid (hashN s % 2 ^ dpN d = p) := ⟨_, Lib.hid rfl⟩
  rw [hno] at HRo
  rw [Hp.out] at HRo
  have HBk := Lib.hid (fun w h => vblock_any l f T hT no w h)
  have HBL := Lib.hid (vBk_len (l := l) hT no)
  have HFi := Lib.hid (fun w => bfind_any (vBk l T no) HBL.out s w)
  obtain ⟨R, HR⟩ : ∃ R, Hid (lkN l T no s = R) := ⟨_, Lib.hid rfl⟩
  have H0 := Lib.hid (fun h : l.isD no = false => show R = none by rw [← HR.out]; unfold lkN; rw [h]; rfl)
  have H1 := Lib.hid (fun (h : l.isD no = true) (hn : findS (vBk l T no) s = none) => show R = none by rw [← HR.out]; unfold lkN lkO; rw [h, hn]; rfl)
  have H2 := Lib.hid (fun (h : l.isD no = true) (k : Nat) (hn : findS (vBk l T no) s = some k) => show R = some [no, (k : Int), (entV (entS (vBk l T no) k)).ino] by rw [← HR.out]; unfold lkN lkO; rw [h, hn, inoS_ent]; rfl)
  have Hz := Lib.hid (show ([0, 0, 0] : List Int).length = 3 from rfl)
  rw [HR.out]
  clear hf ht hs hT hno Hp HR
  go_enter Tryz.func161, Tryz.ntmps161
  go_wp2_with (refine wpList_box_row rfl _ _ rfl _ rfl ?_)
  apply Stop.go; intro w1 Hg1 Hb1
  go_wp2_with (refine wpList_box_row rfl _ _ rfl _ rfl ?_)
  apply Stop.go; intro w2 Hg2 Hb2
  have HV2 := Lib.hid (Hb1.out.ext Hg2.out.1)
  have E2 := Lib.hid (bt Hg1.out.1 Hg2.out.1)
  have z2 := Lib.hid (show w.heap.size < w1.heap.size ∧ w1.heap.size < w2.heap.size by have := Hg1.out.2; have := Hg2.out.2; omega)
  generalize w1.heap.size = g1 at *
  clear Hg1 Hb1 Hg2
  go_wp2_with (refine wpList_alloc_row rfl _ rfl _ Tryz.plZero ?_)
  apply Stop.go; intro w3 Hg3 Hb3
  have HV3 := Lib.hid (HV2.out.ext Hg3.out.1)
  have HX3 := Lib.hid (Hb2.out.ext Hg3.out.1)
  have E3 := Lib.hid (bt E2.out Hg3.out.1)
  have z3 := Lib.hid (show w.heap.size < w2.heap.size by have := z2.out; omega)
  generalize w2.heap.size = gp at *
  clear Hg3 Hb2 HV2 E2 z2
  go_wp2_with (refine wpList_load_blk rfl _ _ rfl _ rfl _ _ HX3.out _ Tryz.underlying102 rfl (Tryz.ixFits HL.out) ?_)
  refine (HRo.out _).mono ?_; rintro e w4 ⟨rfl, hb4⟩
  have HV4 := Lib.hid (HV3.out.ext hb4)
  have HP4 := Lib.hid (Hb3.out.ext hb4)
  have E4 := Lib.hid (bt E3.out hb4)
  clear hb4 HV3 HX3 Hb3 E3 HRo
  go_wp2_with (refine wpList_load_cells rfl _ _ rfl ⟨w.heap.size, 0, none⟩ rfl _ Tryz.underlying41 (Lay14.val l).toList Tryz.laySize (vval_cells HV4.out) ?_)
  refine (isdata_any l no _).mono ?_; rintro e w5 ⟨rfl, hb5⟩
  have HV5 := Lib.hid (HV4.out.ext hb5)
  have HP5 := Lib.hid (HP4.out.ext hb5)
  have E5 := Lib.hid (bt E4.out hb5)
  clear hb5 HV4 HP4 E4
  cases hd : l.isD no
  · obtain rfl := H0.out hd
    clear hd H0 H1 H2
    go_wp2_with (first | refine wpList_build_nil rfl _ rfl _ Tryz.plBuilt0 ?_ | refine wpList_store_arr rfl _ _ _ rfl _ _ rfl rfl _ _ HP5.out (Tryz.plFits Hz.out) (icells_sizes Hz.out Hz.out) (oneCell_icells _) ?_)
    apply Stop.go; intro we Hoe Hbe
    go_wp2_with ((with_reducible show bodyPost _ _ _ _ _ _); refine bodyPost_struct_tmp rfl _ rfl _ _ Hbe.out _ Tryz.underlying186 rfl (Tryz.plFits Hz.out) rfl _ rfl ?_)
    apply Stop.go
    exact ⟨rfl, bonly E5.out Hoe.out (by have := z3.out; omega)⟩
  · have H1 := Lib.hid (H1.out hd)
    have H2 := Lib.hid (H2.out hd)
    clear hd H0
    go_wp2_with (refine wpList_load_blk rfl _ _ rfl _ rfl _ _ HV5.out _ Tryz.underlying44 rfl Tryz.viewSize ?_)
    refine (HBk.out _ (HF.out.below E5.out)).mono ?_; rintro e w6 ⟨rfl, hb6⟩
    have HP6 := Lib.hid (HP5.out.ext hb6)
    have E6 := Lib.hid (bt E5.out hb6)
    clear hb6 HP5 HV5 E5 HBk
    generalize vBk l T no = b at *
    go_wp2_with fail
    refine (HFi.out _).mono ?_; rintro e w7 ⟨rfl, hb7⟩
    have HP7 := Lib.hid (HP6.out.ext hb7)
    have E7 := Lib.hid (bt E6.out hb7)
    clear hb7 HP6 E6 HFi
    cases hk : findS b s with
    | none =>
      obtain rfl := H1.out hk
      have eC : fndC b s = #[.int .i64 0, .string ⟨#[]⟩, .int .i64 0] := by unfold fndC; rw [hk]
      rw [eC]
      rw [show (none : Option Nat).isSome = false from rfl]
      clear hk eC H1 H2
      go_wp2_with (refine wpList_alloc_row rfl _ rfl _ Tryz.slotZero ?_)
      apply Stop.go; intro w8 Hg8 Hb8
      go_wp2_with (refine wpList_store_arr rfl _ _ _ rfl _ #[.int .i64 0, .string ⟨#[]⟩, .int .i64 0] rfl rfl _ _ Hb8.out Tryz.slotSize rfl (by simp [Value.oneCell']) ?_)
      apply Stop.go; intro w9 Ho9 Hb9
      have D := Lib.hid (bonly Hg8.out.1 Ho9.out (Nat.le_refl _))
      have HP9 := Lib.hid (HP7.out.ext D.out)
      have E9 := Lib.hid (bt E7.out D.out)
      generalize w7.heap.size = g7 at *
      clear Hg8 Hb8 Ho9 Hb9 D HP7 E7
      go_wp2_with (first | refine wpList_build_nil rfl _ rfl _ Tryz.plBuilt0 ?_ | refine wpList_store_arr rfl _ _ _ rfl _ _ rfl rfl _ _ HP9.out (Tryz.plFits Hz.out) (icells_sizes Hz.out Hz.out) (oneCell_icells _) ?_)
      apply Stop.go; intro we Hoe Hbe
      go_wp2_with ((with_reducible show bodyPost _ _ _ _ _ _); refine bodyPost_struct_tmp rfl _ rfl _ _ Hbe.out _ Tryz.underlying186 rfl (Tryz.plFits Hz.out) rfl _ rfl ?_)
      apply Stop.go
      exact ⟨rfl, bonly E9.out Hoe.out (by have := z3.out; omega)⟩
    | some k =>
      obtain ⟨e, he⟩ : ∃ e, entV (entS b k) = e := ⟨_, rfl⟩
      have hR := H2.out k hk
      rw [he] at hR
      obtain rfl := hR
      have eC : fndC b s = scells k e := by unfold fndC; rw [hk]; show scells k (entV (entS b k)) = _; rw [he]
      rw [eC]
      rw [show (some k : Option Nat).isSome = true from rfl]
      clear hk eC H1 H2 he
      have H3 := Lib.hid (show ([no, (k : Int), e.ino] : List Int).length = 3 from rfl)
      go_wp2_with (refine wpList_alloc_row rfl _ rfl _ Tryz.slotZero ?_)
      apply Stop.go; intro w8 Hg8 Hb8
      go_wp2_with (refine wpList_store_arr rfl _ _ _ rfl _ (scells k e) rfl rfl _ _ Hb8.out Tryz.slotSize rfl (by simp [scells, Value.oneCell']) ?_)
      apply Stop.go; intro w9 Ho9 Hb9
      have D := Lib.hid (bonly Hg8.out.1 Ho9.out (Nat.le_refl _))
      have HP9 := Lib.hid (HP7.out.ext D.out)
      have E9 := Lib.hid (bt E7.out D.out)
      generalize w7.heap.size = g7 at *
      clear Hg8 Hb8 Ho9 D HP7 E7
      go_wp2_with (refine wpList_load_blk rfl _ _ rfl _ rfl _ _ Hb9.out _ Tryz.underlying142 rfl Tryz.slotSize ?_)
      refine (dplaced_any no k e _).mono ?_; rintro e wa ⟨rfl, hba⟩
      have HPa := Lib.hid (HP9.out.ext hba)
      have Ea := Lib.hid (bt E9.out hba)
      clear hba HP9 E9 Hb9
      go_wp2_with (refine wpList_store_arr rfl _ _ _ rfl _ _ rfl rfl _ _ HPa.out (Tryz.plFits H3.out) (icells_sizes Hz.out H3.out) (oneCell_icells _) ?_)
      apply Stop.go; intro we Hoe Hbe
      go_wp2_with ((with_reducible show bodyPost _ _ _ _ _ _); refine bodyPost_struct_tmp rfl _ rfl _ _ Hbe.out _ Tryz.underlying186 rfl (Tryz.plFits H3.out) rfl _ rfl ?_)
      apply Stop.go
      exact ⟨rfl, bonly Ea.out Hoe.out (by have := z3.out; omega)⟩
/-- .. of the directory's own index. -/
theorem dlookD_any (l : Lay14) (f : Value) (T : Int → List UInt8) (hT : ∀ no, (T no).length = 256) (X : List Int) (s : ByteArray) (hs : s.size ≤ maxLen) (w : World) (hf : FV w l f T) :
    Calls Tryz.prog 161 #[.agg (vval l f), .agg (icells (ixD l T X :: ixT l T X)), .string s] w fun x w' => x = .returned (.tuple #[.agg (icells (orZ (lkD l T X s))), .bool (lkD l T X s).isSome]) ∧ Below w.heap.size w w' :=
  dlookN_any l f T hT (ixD l T X) (ixT l T X) ixT_len s hs (rouN l T X s) rfl w hf
theorem lkD_len (l : Lay14) (T : Int → List UInt8) (X : List Int) (s : ByteArray) : (orZ (lkD l T X s)).length = 3 := lkN_len l T (rouN l T X s) s



end Go.Proofs.YtkakihbfhmiabaaGreat

/-
  Contract of package dread's each, of whatever it does with each entry.
-/
namespace Go.Proofs.YtkakihbfhmiabaaGreat
open Go.RowKit
set_option maxRecDepth 10000

theorem Blk.slotE {w : World} {g : Nat} {t : TypeId} {k : Int} {e : En} (h : Blk w g t (scells k e)) : ∀ j v, [Value.string e.name, Value.int .i64 e.ino][j]? = some v → w.cell? ((⟨g, 1, none⟩ : Addr).add j) = some v := fun j v hj => by
  have e1 : (⟨g, 1, none⟩ : Addr).add j = ⟨g, 1 + j, none⟩ := by unfold Addr.add; split <;> simp_all
  rw [e1, h.cell]
  match j, hj with
  | 0, hj => exact hj
  | 1, hj => exact hj
  | j + 2, hj => simp at hj
theorem ent_size {b : List UInt8} {k : Nat} {e : En} (h : entS b k = some e) : e.name.size ≤ maxLen := by
  have h1 := (mayE_iff.1 (readE_iff.1 h).1).1
  have h2 := (rightN_size h1).2
  unfold maxLen
  omega
theorem ints_at {t : List Int} {k : Nat} (hk : k < t.length) : t[k] = fld t k := by
  have := fld_get t k hk
  rw [List.getElem?_eq_getElem hk] at this
  exact Option.some.inj this
theorem entsD_take {l : Lay14} {T : Int → List UInt8} {bs : List Int} {k : Nat} (hk : k < bs.length) : entsD l T (bs.take (k + 1)) = entsD l T (bs.take k) ++ (listS (vBk l T (fld bs k)) 7).map (entP (fld bs k)) := by
  rw [List.take_succ_eq_append_getElem hk, entsD_app, entsD_one, ints_at hk]
  rfl
theorem map_take_next {α β : Type} (f : α → β) {l : List α} {j : Nat} (hj : j < l.length) : (l.take (j + 1)).map f = (l.take j).map f ++ [f l[j]] := by
  rw [List.take_succ_eq_append_getElem hj, List.map_append]
  rfl
theorem srows_at {l : List (Nat × En)} {j : Nat} (hj : j < l.length) : (srows l)[j]? = some (srow l[j]) := by
  unfold srows
  rw [List.getElem?_map, List.getElem?_eq_getElem hj]
  rfl

/-- What is done with each entry. -/
structure DoS (Fn : Nat) (p : Addr) (f : List Int × En → Bool) (B : Nat) (St : List (List Int × En) → (Nat → Prop) → World → Prop) : Prop where
  cf : ∀ (args : Array Value) (w : World), (callFunc Fn args).run Tryz.prog w = .ok (.enter Fn args) w
  lt : ∀ P F w, St P F w → ∀ k, F k → B ≤ k ∧ k < w.heap.size
  ext : ∀ P F w w', St P F w → Below w.heap.size w w' → St P F w'
  act : ∀ P q F w, P.length < 224 → q.1.length = 3 → St P F w → Calls Tryz.prog Fn #[.agg (icells q.1), .agg (ecells q.2), .bool (f q), .pointer (some p)] w fun e w' => e = .returned (.tuple #[]) ∧ ∃ F', St (P ++ [q]) F' w' ∧ Save F w w' ∧ Next w F F'

set_option maxHeartbeats 12800000 in
theorem deach_any (l : Lay14) (f : Value) (T : Int → List UInt8) (hT : ∀ no, (T no).length = 256) (X : List Int) (hX : X.length = 11) (Fn : Nat) (p : Addr) (B : Nat) (St : List (List Int × En) → (Nat → Prop) → World → Prop)
    (D : DoS Fn p (strB l T X) B St) (w0 w : World) (hf : FV w0 l f T) (h0 : Below w0.heap.size w0 w) (hB : w0.heap.size ≤ B) (hBw : B ≤ w.heap.size) (F : Nat → Prop) (hS : St [] F w) :
    Calls Tryz.prog 137 #[.agg (vval l f), .agg (icells X), .func (.func Fn) #[] #[.pointer (some p)]] w fun e w' => e = .returned (.tuple #[]) ∧ ∃ F', St (entA l T X) F' w' ∧ Save F w w' ∧ Next w F F' := by
  have hcf := D.cf
  have HF := Lib.hid hf
  have HXL := Lib.hid hX
  have H0 := Lib.hid h0
  have HSt := Lib.hid hS
  have HDl := Lib.hid D.lt
  have HDe := Lib.hid D.ext
  have HBel := Lib.hid (fun wr (h : Save F w wr) => show Below w0.heap.size w0 wr from h0.trans ((h.below (fun k hk => (D.lt _ _ _ hS k hk).1) hBw).mono hB))
  have HIx := Lib.hid (fun w h => findex_any l f T hT X hX w h)
  have HBu := Lib.hid (fun w h => fbuckets_any l f T hT X hX w h)
  have HLk := Lib.hid (fun s hs w h => dlookD_any l f T hT X s hs w h)
  have HBk := Lib.hid (fun no w h => vblock_any l f T hT no w h)
  have HBL := Lib.hid (fun no => vBk_len (l := l) hT no)
  have HEn := Lib.hid (fun no (k : Nat) e (h : entS (vBk l T no) k = some e) => ent_size h)
  have HLkL := Lib.hid (fun s => lkD_len l T X s)
  have HFb := Lib.hid (fun q => show (!(orZ (lkD l T X q.2.name) == q.1)) = strB l T X q from rfl)
  have HAct := Lib.hid D.act
  have HTL := Lib.hid (ixT_len (l := l) (T := T) (X := X))
  have HzL := Lib.hid zeroT_len
  have Hz := Lib.hid (show ([0, 0, 0] : List Int).length = 3 from rfl)
  have HbL := Lib.hid (bukF_len (l := l) (T := T) (X := X))
  have hEA : entA l T X = entsD l T (bukF l T X) := rfl
  rw [hEA]
  obtain ⟨ED, hED⟩ : ∃ ED : Nat → List (List Int × En), ∀ k, entsD l T ((bukF l T X).take k) = ED k := ⟨_, fun _ => rfl⟩
  have HE0 := Lib.hid (show ED 0 = [] by rw [← hED]; rfl)
  have HEl := Lib.hid (fun k => show (ED k).length ≤ 7 * k by rw [← hED]; exact Nat.le_trans (entsD_len _) (by rw [List.length_take]; omega))
  have HEx := Lib.hid (fun k (hk : k < (bukF l T X).length) => show ED (k + 1) = ED k ++ (listS (vBk l T (fld (bukF l T X) k)) 7).map (entP (fld (bukF l T X) k)) by rw [← hED, ← hED]; exact entsD_take hk)
  have HEe := Lib.hid (show ED (bukF l T X).length = entsD l T (bukF l T X) by rw [← hED, List.take_length])
  rw [← HEe.out]
  clear HEe hED hEA
  generalize ixD l T X = RD at *
  generalize ixT l T X = RT at *
  generalize isF l T X = rb at *
  generalize bukF l T X = bs at *
  generalize strB l T X = fb at *
  obtain ⟨lb, hlb⟩ : ∃ lb : ByteArray → Bool, ∀ s, (lkD l T X s).isSome = lb s := ⟨_, fun _ => rfl⟩
  obtain ⟨lp, hlp⟩ : ∃ lp : ByteArray → List Int, ∀ s, orZ (lkD l T X s) = lp s := ⟨_, fun _ => rfl⟩
  obtain ⟨Bf, hBf⟩ : ∃ Bf : Int → List UInt8, ∀ no, vBk l T no = Bf no := ⟨_, fun _ => rfl⟩
  simp only [hlb, hlp, hBf] at HLk HLkL HFb HBk HBL HEn HEx
  clear hlb hlp hBf hf hX hT h0 hS D
  obtain ⟨n, Hn⟩ : ∃ n, Hid (bs.length = n) := ⟨_, Lib.hid rfl⟩
  rw [Hn.out] at HbL ⊢
  go_enter Tryz.func137, Tryz.ntmps137
  go_wp2_with (refine wpList_box_row rfl _ _ rfl _ rfl ?_)
  apply Stop.go; intro w1 Hg1 Hb1
  go_wp2_with (refine wpList_box_row rfl _ _ rfl _ rfl ?_)
  apply Stop.go; intro w2 Hg2 Hb2
  have HV2 := Lib.hid (Hb1.out.ext Hg2.out.1)
  have E2 := Lib.hid (bt Hg1.out.1 Hg2.out.1)
  have z2 := Lib.hid (show w.heap.size < w1.heap.size by have := Hg1.out.2; omega)
  generalize w1.heap.size = g1 at *
  clear Hg1 Hb1 Hg2
  go_wp2_with (first | refine wpList_load_blk rfl _ _ rfl _ rfl _ _ HV2.out _ Tryz.underlying44 rfl Tryz.viewSize ?_ | refine wpList_load_blk rfl _ _ rfl _ rfl _ _ Hb2.out _ Tryz.underlying59 rfl (Tryz.inoFits HXL.out) ?_)
  refine (HIx.out _ (HF.out.below (H0.out.trans (E2.out.mono H0.out.size)))).mono ?_; rintro e w3 ⟨rfl, hb3⟩
  have HV3 := Lib.hid (HV2.out.ext hb3)
  have HI3 := Lib.hid (Hb2.out.ext hb3)
  have E3 := Lib.hid (bt E2.out hb3)
  clear hb3 HV2 Hb2 E2 HIx
  go_wp2_with (refine wpList_alloc_row rfl _ rfl _ Tryz.ixZero ?_)
  apply Stop.go; intro w4 Hg4 Hb4
  go_wp2_with (refine wpList_store_arr rfl _ _ _ rfl _ _ rfl rfl _ _ Hb4.out (Tryz.ixFits HTL.out) (icells_same HzL.out HTL.out) (oneCell_icells _) ?_)
  apply Stop.go; intro w5 Ho5 Hb5
  have Dl := Lib.hid (bonly Hg4.out.1 Ho5.out (Nat.le_refl _))
  have HV5 := Lib.hid (HV3.out.ext Dl.out)
  have HI5 := Lib.hid (HI3.out.ext Dl.out)
  have E5 := Lib.hid (bt E3.out Dl.out)
  have z5 := Lib.hid (show w.heap.size ≤ w3.heap.size from E3.out.size)
  generalize w3.heap.size = gx at *
  clear Hg4 Hb4 Ho5 Dl HV3 HI3 E3
  go_wp2_with (first | refine wpList_load_blk rfl _ _ rfl _ rfl _ _ HV5.out _ Tryz.underlying44 rfl Tryz.viewSize ?_ | refine wpList_load_blk rfl _ _ rfl _ rfl _ _ HI5.out _ Tryz.underlying59 rfl (Tryz.inoFits HXL.out) ?_)
  refine (HBu.out _ (HF.out.below (H0.out.trans (E5.out.mono H0.out.size)))).mono ?_; rintro e w6 ⟨v6, rfl, hv6, hb6⟩
  have E6 := Lib.hid (bt E5.out hb6)
  have hFl : ∀ k, F k → k < w.heap.size := fun k hk => (HDl.out _ _ _ HSt.out k hk).2
  have S6 := Lib.hid (HDe.out _ _ _ _ HSt.out E6.out)
  have hvl : SureC F w6 w.heap.size 3 v6 (ivals bs) := ⟨hv6.low E5.out.size, fun k hk hf => by
    have h1 := hFl k hf
    have h2 := (hv6.lt k hk).1
    have := E5.out.size
    omega⟩
  obtain ⟨A6, c6, rfl, _, _, _⟩ := hv6.ints
  rw [Hn.out] at hvl ⊢
  have HVl := Lib.hid hvl
  have HV6 := Lib.hid (Sure.mk (HV5.out.ext hb6) (show ¬ F w.heap.size from fun hf => by have := hFl _ hf; omega))
  have HX6 := Lib.hid (Sure.mk (Hb5.out.ext hb6) (show ¬ F gx from fun hf => by have := hFl _ hf; have := z5.out; omega))
  have Sv6 := Lib.hid (Save.of_below (F := F) E6.out)
  clear hv6 hb6 hFl hvl HV5 HI5 Hb5 E5 E6 HSt HBu z2 z5
  have hn32 := HbL.out
  go_wp2_with fail
  go_loopw [25] (fun z wr => ∃ (k : Nat) (G : Nat → Prop), k ≤ n ∧ z = .int .i64 k ∧ Hid (St (ED k) G wr) ∧ Hid (Save F w wr) ∧ Hid (Next w F G) ∧ Hid (Sure G wr w.heap.size 44 (vval l f)) ∧ Hid (Sure G wr gx 102 (icells (RD :: RT))) ∧ Hid (SureC G wr w.heap.size 3 (.slice A6 n c6) (ivals bs))) (fun z _ => n - (intOf z).toNat)
  case atStart => exact ⟨0, F, Nat.zero_le _, rfl, Lib.hid (by rw [HE0.out]; exact S6.out), Sv6, Lib.hid (Next.refl _ _), HV6, HX6, HVl⟩
  case round =>
    obtain ⟨k, G, hk, rfl, HS, HSv, HNx, HV, HX, HVl⟩ := hrel
    by_cases hlt : k < n
    · have hkl : k < bs.length := by rw [Hn.out]; exact hlt
      have d1 : decide ((k : Int) < (n : Int)) = true := by simp; omega
      have p0 : (0 : Int) ≤ (k : Int) := by omega
      have p1 : (k : Int) < (n : Int) := by omega
      obtain ⟨ad, rfl, hcad⟩ := HVl.out.rc.int k hkl
      rw [ints_at hkl] at hcad
      have HE1 := Lib.hid (HEx.out k hkl)
      have HEk := Lib.hid (show (ED k).length + 7 ≤ 224 by have := HEl.out k; have := HbL.out; omega)
      obtain ⟨x, hx⟩ : ∃ x, fld bs k = x := ⟨_, rfl⟩
      rw [hx] at hcad HE1
      have HBx := Lib.hid (HBk.out x)
      have HBl := Lib.hid (HBL.out x)
      have HEnx := Lib.hid (HEn.out x)
      generalize Bf x = b at *
      obtain ⟨ls, hls⟩ : ∃ ls, listS b 7 = ls := ⟨_, rfl⟩
      have HLi := Lib.hid (fun w => blist_any b HBl.out w)
      have HNm := Lib.hid (fun (q : Nat × En) (hq : q ∈ ls) => show q.2.name.size ≤ maxLen from HEnx.out q.1 q.2 (by rw [← hls] at hq; exact (listS_mem hq).2))
      have Hll := Lib.hid (show ls.length ≤ 7 by rw [← hls]; exact listS_len b 7)
      rw [hls] at HLi HE1
      clear hls hkl hx HEnx
      go_wp2_with (refine wpList_load_blk rfl _ _ rfl _ rfl _ _ HV.out.blk _ Tryz.underlying44 rfl Tryz.viewSize ?_)
      refine (HBx.out _ (HF.out.below (HBel.out _ HSv.out))).mono ?_; rintro e wa ⟨rfl, hba⟩
      have HSa := Lib.hid (HDe.out _ _ _ _ HS.out hba)
      have HSva := Lib.hid (HSv.out.ext hba)
      have HVa := Lib.hid (HV.out.ext hba)
      have HXa := Lib.hid (HX.out.ext hba)
      have HVla := Lib.hid (HVl.out.ext hba)
      clear hba HS HSv HV HX HVl HBx hcad
      go_wp2_with fail
      refine (HLi.out _).mono ?_; rintro e wb ⟨vb, rfl, hvb, hbb⟩
      have hGl : ∀ k, G k → k < wa.heap.size := fun k hk => (HDl.out _ _ _ HSa.out k hk).2
      have hsb : SureN G wb w.heap.size 142 3 vb (srows ls) := ⟨hvb.low HSva.out.size, fun k hk hf => by
        have h1 := hGl k hf
        have h2 := (hvb.lt k hk).1
        omega⟩
      have HSb := Lib.hid (HDe.out _ _ _ _ HSa.out hbb)
      have HSvb := Lib.hid (HSva.out.ext hbb)
      have HVb := Lib.hid (HVa.out.ext hbb)
      have HXb := Lib.hid (HXa.out.ext hbb)
      have HVlb := Lib.hid (HVla.out.ext hbb)
      obtain ⟨A2, c2, rfl, _, _, _⟩ := hvb.read
      rw [srows_len] at hsb ⊢
      have HLb := Lib.hid hsb
      clear hvb hbb hGl hsb HSa HSva HVa HXa HVla HLi
      obtain ⟨m, Hm⟩ : ∃ m, Hid (ls.length = m) := ⟨_, Lib.hid rfl⟩
      rw [Hm.out] at HLb Hll ⊢
      have hm7 := Hll.out
      go_wp2_with fail
      go_loopw [34] (fun z wi => ∃ (j : Nat) (H : Nat → Prop), j ≤ m ∧ z = .int .i64 j ∧ Hid (St (ED k ++ (ls.take j).map (entP x)) H wi) ∧ Hid (Save F w wi) ∧ Hid (Next w F H) ∧ Hid (Sure H wi w.heap.size 44 (vval l f)) ∧ Hid (Sure H wi gx 102 (icells (RD :: RT))) ∧ Hid (SureC H wi w.heap.size 3 (.slice (some ad) n c6) (ivals bs)) ∧ Hid (SureN H wi w.heap.size 142 3 (.slice A2 m c2) (srows ls))) (fun z _ => m - (intOf z).toNat)
      case atStart => exact ⟨0, G, Nat.zero_le _, rfl, Lib.hid (by rw [List.take_zero, List.map_nil, List.append_nil]; exact HSb.out), HSvb, HNx, HVb, HXb, HVlb, HLb⟩
      case round =>
        obtain ⟨j, H, hj, rfl, HS, HSv, HNx, HV, HX, HVl, HLs⟩ := hrel
        by_cases hlj : j < m
        · have hjl : j < ls.length := by rw [Hm.out]; exact hlj
          have d2 : decide ((j : Int) < (m : Int)) = true := by simp; omega
          have q0 : (0 : Int) ≤ (j : Int) := by omega
          have q1 : (j : Int) < (m : Int) := by omega
          have hrn := HLs.out.own.rn
          obtain ⟨ad2, rfl⟩ := hrn.adr (k := j) (by rw [srows_len]; exact hjl) (by decide)
          have hrow := hrn.row (srows_at hjl) rfl
          have HE2 := Lib.hid (map_take_next (entP x) hjl)
          have HNj := Lib.hid (HNm.out ls[j] (List.getElem_mem hjl))
          have HPl := Lib.hid (show (ED k ++ (ls.take j).map (entP x)).length < 224 by rw [List.length_append, List.length_map, List.length_take]; have := HEk.out; have := Hll.out; omega)
          obtain ⟨q, hq⟩ : ∃ q, ls[j] = q := ⟨_, rfl⟩
          rw [hq] at hrow HE2 HNj
          clear hq hrn
          obtain ⟨kk, e⟩ := q
          have HRw : Hid (∀ i v, [Value.int .i64 (kk : Int), .string e.name, .int .i64 e.ino][i]? = some v → wr.cell? ((ad2.add (j * 3)).add i) = some v) := Lib.hid hrow
          clear hrow hjl
          go_wp2_with (first | refine wpList_load_cells rfl _ _ rfl (ad2.add (j * 3)) rfl _ Tryz.underlying142 [.int .i64 (kk : Int), .string e.name, .int .i64 e.ino] Tryz.slotSize HRw.out ?_ | refine wpList_alloc_row rfl _ rfl _ Tryz.slotZero ?_)
          apply Stop.go; intro w3 Hg3 Hb3
          go_wp2_with (refine wpList_store_arr rfl _ _ _ rfl _ (scells (kk : Int) e) rfl rfl _ _ Hb3.out Tryz.slotSize rfl (by simp [scells, Value.oneCell']) ?_)
          apply Stop.go; intro w4 Ho4 Hb4
          have Dl := Lib.hid (bonly Hg3.out.1 Ho4.out (Nat.le_refl _))
          have HS4 := Lib.hid (HDe.out _ _ _ _ HS.out Dl.out)
          have HSv4 := Lib.hid (HSv.out.ext Dl.out)
          have HV4 := Lib.hid (HV.out.ext Dl.out)
          have HX4 := Lib.hid (HX.out.ext Dl.out)
          have HVl4 := Lib.hid (HVl.out.ext Dl.out)
          have HLs4 := Lib.hid (HLs.out.ext Dl.out)
          have Ng := Lib.hid (show ¬ H wr.heap.size from fun hf => by have := (HDl.out _ _ _ HS.out _ hf).2; omega)
          generalize wr.heap.size = gs at *
          clear Hg3 Hb3 Ho4 Dl HS HSv HV HX HVl HLs HRw
          go_wp2_with (refine wpList_load_blk rfl _ _ rfl _ rfl _ _ Hb4.out _ Tryz.underlying142 rfl Tryz.slotSize ?_)
          refine (dplaced_any x (kk : Int) e _).mono ?_; rintro e w5 ⟨rfl, hb5⟩
          have H3 := Lib.hid (show ([x, (kk : Int), e.ino] : List Int).length = 3 from rfl)
          have HS5 := Lib.hid (HDe.out _ _ _ _ HS4.out hb5)
          have HSv5 := Lib.hid (HSv4.out.ext hb5)
          have HV5 := Lib.hid (HV4.out.ext hb5)
          have HX5 := Lib.hid (HX4.out.ext hb5)
          have HVl5 := Lib.hid (HVl4.out.ext hb5)
          have HLs5 := Lib.hid (HLs4.out.ext hb5)
          have Hs5 := Lib.hid (Hb4.out.ext hb5)
          clear hb5 HS4 HSv4 HV4 HX4 HVl4 HLs4 Hb4
          go_wp2_with (refine wpList_alloc_row rfl _ rfl _ Tryz.plZero ?_)
          apply Stop.go; intro w6 Hg6 Hb6
          go_wp2_with (refine wpList_store_arr rfl _ _ _ rfl _ _ rfl rfl _ _ Hb6.out (Tryz.plFits H3.out) (icells_sizes Hz.out H3.out) (oneCell_icells _) ?_)
          apply Stop.go; intro w7 Ho7 Hb7
          have Dl := Lib.hid (bonly Hg6.out.1 Ho7.out (Nat.le_refl _))
          have HS7 := Lib.hid (HDe.out _ _ _ _ HS5.out Dl.out)
          have HSv7 := Lib.hid (HSv5.out.ext Dl.out)
          have HV7 := Lib.hid (HV5.out.ext Dl.out)
          have HX7 := Lib.hid (HX5.out.ext Dl.out)
          have HVl7 := Lib.hid (HVl5.out.ext Dl.out)
          have HLs7 := Lib.hid (HLs5.out.ext Dl.out)
          have Hs7 := Lib.hid (Hs5.out.ext Dl.out)
          have Na := Lib.hid (show ¬ H w5.heap.size from fun hf => by have := (HDl.out _ _ _ HS5.out _ hf).2; omega)
          generalize w5.heap.size = ga at *
          clear Hg6 Hb6 Ho7 Dl HS5 HSv5 HV5 HX5 HVl5 HLs5 Hs5
          have c1 : w7.cell? ⟨gs, 1, none⟩ = some (.string e.name) := Hs7.out.cell 1
          go_wp2_with (first | refine wpList_load_blk rfl _ _ rfl _ rfl _ _ HV7.out.blk _ Tryz.underlying44 rfl Tryz.viewSize ?_ | refine wpList_load_blk rfl _ _ rfl _ rfl _ _ HX7.out.blk _ Tryz.underlying102 rfl (Tryz.ixFits HTL.out) ?_)
          refine (HLk.out e.name HNj.out _ (HF.out.below (HBel.out _ HSv7.out))).mono ?_; rintro e w8 ⟨rfl, hb8⟩
          have HLL := Lib.hid (HLkL.out e.name)
          have HFq := Lib.hid (HFb.out (entP x (kk, e)))
          have HS8 := Lib.hid (HDe.out _ _ _ _ HS7.out hb8)
          have HSv8 := Lib.hid (HSv7.out.ext hb8)
          have HV8 := Lib.hid (HV7.out.ext hb8)
          have HX8 := Lib.hid (HX7.out.ext hb8)
          have HVl8 := Lib.hid (HVl7.out.ext hb8)
          have HLs8 := Lib.hid (HLs7.out.ext hb8)
          have Hs8 := Lib.hid (Hs7.out.ext hb8)
          have Ha8 := Lib.hid (Hb7.out.ext hb8)
          clear hb8 HS7 HSv7 HV7 HX7 HVl7 HLs7 Hs7 Hb7 c1
          generalize lb e.name = rbb at *
          obtain ⟨rp, Hrp⟩ : ∃ rp, Hid (lp e.name = rp) := ⟨_, Lib.hid rfl⟩
          rw [Hrp.out] at HLL ⊢
          go_wp2_with (refine wpList_alloc_row rfl _ rfl _ Tryz.plZero ?_)
          apply Stop.go; intro w9 Hg9 Hb9
          go_wp2_with (refine wpList_store_arr rfl _ _ _ rfl _ _ rfl rfl _ _ Hb9.out (Tryz.plFits HLL.out) (icells_sizes Hz.out HLL.out) (oneCell_icells _) ?_)
          apply Stop.go; intro wA HoA HbA
          have Dl := Lib.hid (bonly Hg9.out.1 HoA.out (Nat.le_refl _))
          have HSA := Lib.hid (HDe.out _ _ _ _ HS8.out Dl.out)
          have HSvA := Lib.hid (HSv8.out.ext Dl.out)
          have HVA := Lib.hid (HV8.out.ext Dl.out)
          have HXA := Lib.hid (HX8.out.ext Dl.out)
          have HVlA := Lib.hid (HVl8.out.ext Dl.out)
          have HLsA := Lib.hid (HLs8.out.ext Dl.out)
          have HsA := Lib.hid (Hs8.out.ext Dl.out)
          have HaA := Lib.hid (Ha8.out.ext Dl.out)
          have Nf := Lib.hid (show ¬ H w8.heap.size from fun hf => by have := (HDl.out _ _ _ HS8.out _ hf).2; omega)
          generalize w8.heap.size = gf at *
          clear Hg9 Hb9 HoA Dl HS8 HSv8 HV8 HX8 HVl8 HLs8 Hs8 Ha8
          have HCall := Lib.hid (fun w h => HAct.out (ED k ++ (ls.take j).map (entP x)) (entP x (kk, e)) H w HPl.out rfl h)
          rw [← HFq.out] at HCall
          have HCall : Hid (∀ w : World, St (ED k ++ (ls.take j).map (entP x)) H w → Calls Tryz.prog Fn #[.agg (icells [x, (kk : Int), e.ino]), .agg (ecells e), .bool (!(rp == [x, (kk : Int), e.ino])), .pointer (some p)] w fun e' w' => e' = .returned (.tuple #[]) ∧ ∃ F', St ((ED k ++ (ls.take j).map (entP x)) ++ [entP x (kk, e)]) F' w' ∧ Save H w w' ∧ Next w H F') := by
            rw [← Hrp.out]
            exact HCall
          clear HFq Hrp
          go_wp2_with fail
          refine WH.start (S := fun w' : World => Blk w' gs 142 (scells (kk : Int) e) ∧ Blk w' ga 186 (icells [x, (kk : Int), e.ino]) ∧ Blk w' gf 186 (icells rp)) [false, false, false, false, false, false, false, false] 8 rfl rfl (by kernel_rfl) ⟨HsA.out.ext (bdrew wA 1), HaA.out.ext (bdrew wA 1), HbA.out.ext (bdrew wA 1)⟩ (fun hSn => ?_); obtain ⟨wS, hwS⟩ : ∃ x, (wA).drew = x := ⟨_, rfl⟩; have HE := Lib.hid (show Below (wA).heap.size (wA) wS from hwS ▸ bdrew wA 1); rw [hwS] at hSn ⊢; clear hwS
          refine WH.tk 0 ?_; simp only [setL]
          refine WH.tv 1 rfl (fun w' hSw => exec_load_blk _ _ rfl _ rfl _ _ (hSw.2.1) _ (Tryz.underlying186) rfl ((Tryz.plFits H3.out))) ?_; simp only [setL]
          refine WH.tk 2 ?_; simp only [setL]
          refine WH.tv 3 rfl (fun w' hSw => exec_load_cells _ _ rfl ⟨gs, 1, none⟩ rfl _ Tryz.underlying56 [.string e.name, .int .i64 e.ino] Tryz.entSize hSw.1.slotE) ?_; simp only [setL]
          refine WH.tv 4 rfl (fun w' hSw => exec_load_blk _ _ rfl _ rfl _ _ (hSw.2.2) _ (Tryz.underlying186) rfl ((Tryz.plFits HLL.out))) ?_; simp only [setL]
          refine WH.tv 5 rfl (fun w' hSw => exec_load_blk _ _ rfl _ rfl _ _ (hSw.2.1) _ (Tryz.underlying186) rfl ((Tryz.plFits H3.out))) ?_; simp only [setL]
          refine WH.tv 6 rfl (fun w' hSw => exec_eql_agg _ _ _ _ _ rfl (by kernel_rfl) _ _ rfl rfl _ (run_neq_pl rp [x, (kk : Int), e.ino] HLL.out H3.out _)) ?_; simp only [setL]
          refine WH.only 7 _ rfl (by kernel_rfl) rfl (fun K hK => ?_)
          go_simp; refine (HCall.out _ (HDe.out _ _ _ _ HSA.out HE.out)).mono ?_; rintro e wB ⟨rfl, H', hst, hsv, hnx⟩; go_simp
          have HSB := Lib.hid hst
          have HSvB := Lib.hid ((HSvA.out.ext HE.out).trans (HNx.out) hsv)
          have HNxB := Lib.hid (HNx.out.trans (show w.heap.size ≤ wS.heap.size from (HSvA.out.ext HE.out).size) hnx)
          have HVB := Lib.hid ((HVA.out.ext HE.out).next hsv hnx)
          have HXB := Lib.hid ((HXA.out.ext HE.out).next hsv hnx)
          have HVlB := Lib.hid ((HVlA.out.ext HE.out).next hsv hnx)
          have HLsB := Lib.hid ((HLsA.out.ext HE.out).next hsv hnx)
          have hB := And.intro (hSn.1.save hsv Ng.out) (And.intro (hSn.2.1.save hsv Na.out) (hSn.2.2.save hsv Nf.out))
          clear hst hsv hnx HSA HSvA HVA HXA HVlA HLsA HsA HaA HbA HE HNx HCall Ng Na Nf
          have hSn := hB; refine hK _ _ hSn ?_; clear hK; clear K; simp only [setL]
          refine WH.done (by kernel_rfl) ?_
          clear hSn hB
          go_wp2_with fail
          go_roundw
          case rel => exact ⟨j + 1, H', by omega, by go_num, Lib.hid (by rw [HE2.out, ← List.append_assoc]; exact HSB.out), HSvB, HNxB, HVB, HXB, HVlB, HLsB⟩
          case measure => simp [intOf]; omega
        · obtain rfl : j = m := by omega
          have d2 : decide ((j : Int) < (j : Int)) = false := by simp
          have HT := Lib.hid (show ls.take j = ls by rw [← Hm.out, List.take_length])
          rw [HT.out, ← HE1.out] at HS
          clear HT HLs
          go_wp2_with fail
          go_roundw
          case rel => exact ⟨k + 1, H, by omega, by go_num, HS, HSv, HNx, HV, HX, HVl⟩
          case measure => simp [intOf]; omega
    · obtain rfl : k = n := by omega
      have d1 : decide ((k : Int) < (k : Int)) = false := by simp
      go_wp2_with fail
      go_end0
      exact ⟨rfl, G, HS.out, HSv.out, HNx.out⟩

end Go.Proofs.YtkakihbfhmiabaaGreat

/-
  Contracts of package dread's closures over a list, and of Stray.
-/
namespace Go.Proofs.YtkakihbfhmiabaaGreat
open Go.RowKit
set_option maxRecDepth 10000

theorem Tryz.plInfo : (Tryz.prog.info? 186).map (fun i => (i.zero, i.size, i.bytes)) = some (some (.agg (icells [0, 0, 0])), 3, 24) := by kernel_rfl
theorem Tryz.entInfo24 : (Tryz.prog.info? 56).map (fun i => (i.zero, i.size, i.bytes)) = some (some (.agg #[.string ⟨#[]⟩, .int .i64 0]), 2, 24) := by kernel_rfl
/-- A variable that holds a list of the call's own. -/
structure StV (t e : TypeId) (N B g : Nat) (row : List (List Int × En) → List (List Value)) (P : List (List Int × En)) (F : Nat → Prop) (w : World) : Prop where
  low : B ≤ g
  ex : ∃ v, (∀ k, F k ↔ k = g ∨ v.ownBlock = some k) ∧ Blk w g t #[v] ∧ OwnN w B e N v (row P) ∧ v.ownBlock ≠ some g
section
variable {t e : TypeId} {N B g : Nat} {row : List (List Int × En) → List (List Value)} {P : List (List Int × En)} {F : Nat → Prop} {w w' : World}
theorem StV.lt (h : StV t e N B g row P F w) : ∀ k, F k → B ≤ k ∧ k < w.heap.size := fun k hk => by
  obtain ⟨v, hF, hg, ho, _⟩ := h.ex
  rcases (hF k).1 hk with h1 | h1
  · exact ⟨by rw [h1]; exact h.low, by rw [h1]; exact hg.lt⟩
  · exact ho.lt k h1
theorem StV.ext (h : StV t e N B g row P F w) (hb : Below w.heap.size w w') : StV t e N B g row P F w' := by
  obtain ⟨v, hF, hg, ho, hn⟩ := h.ex
  exact ⟨h.low, v, hF, hg.ext hb, ho.ext hb, hn⟩
theorem StV.start (hB : B ≤ g) (hg : Blk w g t #[.slice none 0 0]) (h0 : row [] = []) : StV t e N B g row [] (fun k => k = g) w :=
  ⟨hB, .slice none 0 0, fun k => by simp [Value.ownBlock], hg, by rw [h0]; exact OwnN.nil_ _ _ _ _, by simp [Value.ownBlock]⟩
/-- .. behind what was appended and stored. -/
theorem StV.next {P' : List (List Int × En)} {v v' : Value} {w1 w2 w3 : World} (hB : B ≤ g) (hF : ∀ k, F k ↔ k = g ∨ v.ownBlock = some k) (hg : Blk w g t #[v]) (hne : v.ownBlock ≠ some g) (hb : Below w.heap.size w w1)
    (hs : Save (Has v) w1 w2) (hn : Next w1 (Has v) (Has v')) (ho : Only w2 w3 g) (hg3 : Blk w3 g t #[v']) (hown : OwnN w2 B e N v' (row P')) : ∃ F', StV t e N B g row P' F' w3 ∧ Save F w w3 ∧ Next w F F' := by
  have hg1 : g < w1.heap.size := (hg.ext hb).lt
  have hne' : v'.ownBlock ≠ some g := fun h => by
    rcases hn g h with h1 | h1
    · exact hne h1
    · omega
  have hs1 : Save F w w2 := (Save.of_below hb).trans (Next.refl _ _) (hs.weak fun k hk => (hF k).2 (Or.inr hk))
  refine ⟨fun k => k = g ∨ v'.ownBlock = some k, ⟨hB, v', fun k => Iff.rfl, hg3, ?_, hne'⟩, hs1.only ho ((hF g).2 (Or.inl rfl)), fun k hk => ?_⟩
  · obtain ⟨hL, hl, h | ⟨g', cap, cur, hv, hbg, hgg, h⟩⟩ := hown
    · exact ⟨hL, hl, Or.inl h⟩
    · exact ⟨hL, hl, Or.inr ⟨g', cap, cur, hv, hbg, Blk.only hgg ho (fun e' => hne' (by rw [hv]; simp [Value.ownBlock, e'])), h⟩⟩
  · rcases hk with h | h
    · exact Or.inl ((hF k).2 (Or.inl h))
    · rcases hn k h with h1 | h1
      · exact Or.inl ((hF k).2 (Or.inr h1))
      · exact Or.inr (Nat.le_trans hb.size h1)
end
/-- What is stray so far, what is listed so far: as rows. -/
def strR (f : List Int × En → Bool) (P : List (List Int × En)) : List (List Value) := irows (strE f P)
def lisR (f : List Int × En → Bool) (P : List (List Int × En)) : List (List Value) := erows (lisE f P)
theorem strR_next (f : List Int × En → Bool) (P : List (List Int × En)) (q : List Int × En) : strR f (P ++ [q]) = if f q then strR f P ++ [ivals q.1] else strR f P := by
  unfold strR
  rw [strE_snoc]
  split
  · rw [irows_snoc]
  · rfl
theorem lisR_next (f : List Int × En → Bool) (P : List (List Int × En)) (q : List Int × En) : lisR f (P ++ [q]) = if f q then lisR f P else lisR f P ++ [erow q.2] := by
  unfold lisR
  rw [lisE_snoc]
  split
  · rfl
  · unfold erows
    rw [List.map_append]
    rfl
theorem strR_len (f : List Int × En → Bool) (P : List (List Int × En)) : (strR f P).length ≤ P.length := by unfold strR; rw [irows_len]; exact strE_len f P
theorem lisR_len (f : List Int × En → Bool) (P : List (List Int × En)) : (lisR f P).length ≤ P.length := by unfold lisR; rw [erows_len]; exact lisE_len f P


theorem Tryz.entsSize : (Tryz.prog.info? 27).map (·.size) = some 1 := by kernel_rfl
theorem Tryz.entsZero : (Tryz.prog.info? 27).map (·.zero) = some (some (.slice none 0 0)) := by kernel_rfl
set_option maxHeartbeats 1600000 in
theorem dlist1_any (fb : List Int × En → Bool) (B g : Nat) (P : List (List Int × En)) (q : List Int × En) (F : Nat → Prop) (w : World) (hP : P.length < 224) (_hq : q.1.length = 3)
    (hs : StV 27 56 2 B g (lisR fb) P F w) :
    Calls Tryz.prog 138 #[.agg (icells q.1), .agg (ecells q.2), .bool (fb q), .pointer (some ⟨g, 0, none⟩)] w fun e w' => e = .returned (.tuple #[]) ∧ ∃ F', StV 27 56 2 B g (lisR fb) (P ++ [q]) F' w' ∧ Save F w w' ∧ Next w F F' := by
  have hB := hs.low
  obtain ⟨v, hF, hg, ho, hne⟩ := hs.ex
  have HB := Lib.hid hB
  have HF := Lib.hid hF
  have HG := Lib.hid hg
  have HO := Lib.hid ho
  have HN := Lib.hid hne
  have HRx := Lib.hid (lisR_next fb P q)
  have HRl := Lib.hid (show (lisR fb P).length < 224 from Nat.lt_of_le_of_lt (lisR_len fb P) hP)
  obtain ⟨b, hb⟩ : ∃ b, fb q = b := ⟨_, rfl⟩
  rw [hb] at HRx ⊢
  obtain ⟨p, e⟩ := q
  clear hB hF hg ho hne hP hb hs
  obtain ⟨cs, Hcs⟩ : ∃ cs, Hid (icells p = cs) := ⟨_, Lib.hid rfl⟩
  rw [show icells (p, e).1 = cs from Hcs.out]
  clear Hcs
  go_enter Tryz.func138, Tryz.ntmps138
  go_wp2_with (refine wpList_box_row rfl _ _ rfl _ rfl ?_)
  apply Stop.go; intro w1 Hg1 Hb1
  go_wp2_with (refine wpList_box_row rfl _ _ rfl _ rfl ?_)
  apply Stop.go; intro w2 Hg2 Hb2
  have E2 := Lib.hid (bt Hg1.out.1 Hg2.out.1)
  have HG2 := Lib.hid (HG.out.ext E2.out)
  have HO2 := Lib.hid (HO.out.ext E2.out)
  generalize w1.heap.size = g1 at *
  clear Hg1 Hb1 Hg2
  cases b
  · have c0 : w2.cell? ⟨g, 0, none⟩ = some v := HG2.out.cell 0
    go_wp2_with (first | refine wpList_load_blk rfl _ _ rfl _ rfl _ _ Hb2.out _ Tryz.underlying56 rfl Tryz.entSize ?_ | refine wpList_build_row rfl _ _ _ rfl Tryz.underlying27 2 _ _ Tryz.entInfo24 (by decide) (by decide) (ecells e) rfl rfl ?_)
    apply Stop.go; intro w3 Hg3 Hb3
    have E3 := Lib.hid (bt E2.out Hg3.out.1)
    have HO3 := Lib.hid (HO2.out.ext Hg3.out.1)
    have HG3 := Lib.hid (HG2.out.ext Hg3.out.1)
    have z3 := Lib.hid (show B ≤ w3.heap.size by have := HB.out; have := HG3.out.lt; omega)
    go_wp2_with (refine wpList_append_rowS rfl _ _ _ _ rfl Tryz.underlying27 2 _ _ Tryz.entInfo24 rfl (by decide) B _ _ rfl HO3.out _ (ecells e) rfl Hb3.out rfl (by simp [ecells, Value.oneCell']) z3.out (by have := HRl.out; omega) (by have := HRl.out; omega) ?_)
    apply Stop.go; intro gn cap w4 HO4 HS4 HN4
    have HG4 := Lib.hid (HG3.out.save HS4.out HN.out)
    clear c0 Hg3 Hb3
    go_wp2_with (refine wpList_store_cell rfl _ _ _ rfl Tryz.entsSize g 0 rfl _ rfl rfl rfl _ _ HG4.out (show 0 < 1 by decide) ?_)
    apply Stop.go; intro w5 Ho5 Hb5
    go_wp2_with fail
    go_end0
    refine ⟨rfl, StV.next HB.out HF.out HG.out HN.out E3.out HS4.out HN4.out Ho5.out Hb5.out ?_⟩
    rw [HRx.out]
    exact HO4.out
  · go_wp2_with fail
    go_end0
    refine ⟨rfl, F, ⟨HB.out, v, HF.out, HG2.out, ?_, HN.out⟩, Save.of_below E2.out, Next.refl _ _⟩
    rw [HRx.out]
    exact HO2.out


end Go.Proofs.YtkakihbfhmiabaaGreat
