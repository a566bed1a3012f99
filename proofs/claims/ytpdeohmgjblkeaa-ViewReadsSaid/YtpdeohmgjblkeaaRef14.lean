/-
  Contracts of the document's answer 14: Put, Get.
-/
import Derived.Test.YtpdeohmgjblkeaaSup3
import Derived.Test.YtpdeohmgjblkeaaRef01
import Derived.Test.YtpdeohmgjblkeaaRef02
namespace Go.Proofs.Ytpdeohmgjblkeaa
open Go.RowKit
set_option maxRecDepth 10000

set_option maxHeartbeats 1600000 in
theorem rput14_any (l : Lay14) (hmay : l.may = true) (hm : l.merge < 18446744073709551616) (w : World) :
    Calls Try.prog 47 #[.agg l.val] w (RetB w l.put) := by
  have HW := Lib.hid (wrap_blocks hmay)
  have HhL := Lib.hid l.head_len
  have HHd := Lib.hid (show magic ++ (leBytes 2 l.blocks.toNat ++ (leBytes 2 l.inodes.toNat ++ leBytes 8 l.merge)) = l.head from rfl)
  have HPd := Lib.hid (put_doc l)
  clear hmay
  go_enter Try.func47, Try.ntmps47
  go_wp2_with (refine wpList_box_row rfl _ _ rfl _ rfl ?_)
  apply Stop.go; intro w1 Hg1 Hb1
  go_wp2_with (refine wpList_conv_text rfl _ _ _ rfl Try.underlying61 Try.underlying5 magic _ rfl _ _ rfl ?_)
  apply Stop.go; intro w2 Hg2 Hr2
  have HB2 := Lib.hid (Hb1.out.ext Hg2.out.1)
  have E2 := Lib.hid (bt Hg1.out.1 Hg2.out.1)
  have c0 := HB2.out.lay0
  clear Hb1 Hg1 Hg2
  go_wp2_with fail
  rw [HW.out.1]
  refine (bytes_any 2 l.blocks.toNat (by omega) HW.out.2.1 _).mono ?_; rintro e w3 ⟨A3, n3, c3, rfl, hl3, hc3, hm3, hr3, hb3⟩
  have hn3 : n3 = 2 := by rw [← hl3, leBytes_len]
  subst hn3
  have HL3 := Lib.hid hl3
  have HR3 := Lib.hid hr3
  have HR2 := Lib.hid (Hr2.out.below hb3)
  have HB3 := Lib.hid (HB2.out.ext hb3)
  have E3 := Lib.hid (bt E2.out hb3)
  clear hl3 hc3 hm3 hr3 hb3 HB2 Hr2 c0 E2
  go_wp2_with (at_builtin; refine wpList_append_grow_bytes rfl _ _ _ _ rfl Try.underlying61 Try.byteInfo _ _ _ magic rfl magic_len HR2.out _ _ _ _ rfl HL3.out HR3.out (by omega) (by omega) (by omega) ?_)
  apply Stop.go; intro v4 w4 Ho4 He4
  have HB4 := Lib.hid (HB3.out.ext He4.out)
  have E4 := Lib.hid (bt E3.out He4.out)
  have Z4 := Lib.hid He4.out.size
  have c1 := HB4.out.lay1
  have ZB := Lib.hid HB3.out.lt
  generalize w3.heap.size = B at *
  have M4 : Hid ((magic ++ leBytes 2 l.blocks.toNat).length = 10) := Lib.hid (by rw [List.length_append, leBytes_len, magic_len])
  clear HB3 E3 HR2 HR3 HL3 He4
  go_wp2_with fail
  rw [HW.out.2.2.1]
  refine (bytes_any 2 l.inodes.toNat (by omega) HW.out.2.2.2 _).mono ?_; rintro e w5 ⟨A5, n5, c5, rfl, hl5, hc5, hm5, hr5, hb5⟩
  have hn5 : n5 = 2 := by rw [← hl5, leBytes_len]
  subst hn5
  have HL5 := Lib.hid hl5
  have HR5 := Lib.hid hr5
  have Ho5 := Lib.hid (Ho4.out.below hb5)
  have HB5 := Lib.hid (HB4.out.ext hb5)
  have E5 := Lib.hid (bt E4.out hb5)
  have Z5 := Lib.hid (Nat.le_trans Z4.out hb5.size)
  clear hl5 hc5 hm5 hr5 hb5 HB4 c1 E4 Ho4 Z4
  go_wp2_with (at_builtin; refine wpList_append_own_bytes rfl _ _ _ _ rfl Try.underlying61 Try.byteInfo B _ _ rfl Ho5.out Z5.out _ _ _ _ rfl HL5.out HR5.out (by omega) (by rw [M4.out]; omega) ?_)
  apply Stop.go; intro v6 w6 Ho6 He6
  have HB6 := Lib.hid (HB5.out.below He6.out ZB.out)
  have E6 := Lib.hid (E5.out.trans (He6.out.mono (Nat.le_of_lt ZB.out)))
  have Z6 := Lib.hid (Nat.le_trans Z5.out He6.out.size)
  have M6 : Hid ((magic ++ (leBytes 2 l.blocks.toNat ++ leBytes 2 l.inodes.toNat)).length = 12) := Lib.hid (by rw [← List.append_assoc, List.length_append, leBytes_len, M4.out])
  have c2 := HB6.out.lay2
  clear HB5 E5 Z5 Ho5 HR5 HL5 He6
  go_wp2_with fail
  refine (bytes_any 8 l.merge (by omega) hm _).mono ?_; rintro e w7 ⟨A7, n7, c7, rfl, hl7, hc7, hm7, hr7, hb7⟩
  have hn7 : n7 = 8 := by rw [← hl7, leBytes_len]
  subst hn7
  have HL7 := Lib.hid hl7
  have HR7 := Lib.hid hr7
  have Ho7 := Lib.hid (Ho6.out.below hb7)
  have E7 := Lib.hid (bt E6.out hb7)
  have Z7 := Lib.hid (Nat.le_trans Z6.out hb7.size)
  clear hl7 hc7 hm7 hr7 hb7 HB6 c2 E6 Ho6 Z6
  go_wp2_with (at_builtin; refine wpList_append_own_bytes rfl _ _ _ _ rfl Try.underlying61 Try.byteInfo B _ _ rfl Ho7.out Z7.out _ _ _ _ rfl HL7.out HR7.out (by omega) (by rw [M6.out]; omega) ?_)
  apply Stop.go; intro v8 w8 Ho8 He8
  have ho8 := Ho8.out
  rw [HHd.out] at ho8
  have E8 := Lib.hid (E7.out.trans (He8.out.mono (Nat.le_of_lt ZB.out)))
  have Z8 := Lib.hid (Nat.le_trans Z7.out He8.out.size)
  obtain ⟨A8, c8, rfl, hc8, hm8, hr8⟩ := ho8.read
  obtain ⟨a8, rfl⟩ := hr8.addr (by rw [HhL.out]; omega)
  have HO8 := Lib.hid ho8
  have HR8 := Lib.hid hr8
  obtain ⟨n8, hn8⟩ : ∃ n, l.head.length = n := ⟨_, rfl⟩
  rw [hn8] at HO8 ⊢
  have HN8 := Lib.hid hn8
  clear ho8 hr8 hc8 hm8 hn8 Ho8 HR7 HL7 E7 Z7 Ho7 He8
  go_wp2_with (refine wpList_bytes_text rfl _ _ _ _ rfl Try.underlying61 Try.underlying5 Try.underlying9 _ _ _ rfl l.head HN8.out HR8.out ?_)
  refine (rof_any ⟨l.head.toArray⟩ (by simp [ByteArray.size, HhL.out, maxLen]) _).mono ?_; rintro e wx ⟨rfl, rfl⟩
  rw [hashN_bytes]
  have hf := fnvs_start_lt l.head
  obtain ⟨F, HF⟩ : ∃ F, Hid (fnvs start l.head = F) := ⟨_, Lib.hid rfl⟩
  rw [HF.out] at hf ⊢
  go_wp2_with fail
  refine (bytes_any 4 F (by omega) (by omega) _).mono ?_; rintro e w9 ⟨A9, n9, c9, rfl, hl9, hc9, hm9, hr9, hb9⟩
  have hn9 : n9 = 4 := by rw [← hl9, leBytes_len]
  subst hn9
  have HL9 := Lib.hid hl9
  have HR9 := Lib.hid hr9
  have Ho9 := Lib.hid (HO8.out.below hb9)
  have E9 := Lib.hid (bt E8.out hb9)
  have Z9 := Lib.hid (Nat.le_trans Z8.out hb9.size)
  clear hl9 hc9 hm9 hr9 hb9 E8 Z8 HO8 HR8
  go_wp2_with (at_builtin; refine wpList_append_own_bytes rfl _ _ _ _ rfl Try.underlying61 Try.byteInfo B _ _ rfl Ho9.out Z9.out _ _ _ _ rfl HL9.out HR9.out (by omega) (by rw [HhL.out]; omega) ?_)
  apply Stop.go; intro v10 w10 Ho10 He10
  have E10 := Lib.hid (E9.out.trans (He10.out.mono (Nat.le_of_lt ZB.out)))
  obtain ⟨A10, c10, rfl, hc10, hm10, hr10⟩ := Ho10.out.read
  have HR10 := Lib.hid hr10
  have HPf : Hid (rlayL (zeros 256) 0 (l.head ++ leBytes 4 F) = l.put) := Lib.hid (by rw [← HF.out]; exact HPd.out)
  obtain ⟨D, HD⟩ : ∃ D, Hid (l.head ++ leBytes 4 F = D) := ⟨_, Lib.hid rfl⟩
  rw [HD.out] at HR10 HPf ⊢
  obtain ⟨nD, hnD⟩ : ∃ n, D.length = n := ⟨_, rfl⟩
  rw [hnD]
  have HnD := Lib.hid hnD
  clear hnD hr10 hc10 hm10 Ho10 HR9 HL9 E9 Z9 Ho9 He10 hf
  go_wp2_with (refine wpList_make_bytes rfl _ _ _ _ rfl Try.underlying61 Try.byteInfo _ _ _ _ 256 rfl rfl rfl rfl (by omega) ?_)
  apply Stop.go; intro w11 Hg11 Hb11
  go_wp2_with fail
  refine (rlay_any _ _ _ (zeros 256) (zeros_len 256) (by omega) _ _ _ _ D HnD.out _ (RB.of_blk0 Hb11.out) (HR10.out.below Hg11.out.1)).mono ?_; rintro e w12 ⟨A12, n12, c12, rfl, hl12, hc12, hm12, hr12, hb12⟩
  have HR12 := Lib.hid (show RB w12 A12 l.put from HPf.out ▸ hr12)
  have HL12 := Lib.hid (show l.put.length = n12 from HPf.out ▸ hl12)
  have E12 := Lib.hid (bt (bt E10.out Hg11.out.1) hb12)
  have Hc := Lib.hid hc12
  have Hm2 := Lib.hid hm12
  clear hl12 hc12 hm12 hr12 hb12
  go_wp2_with fail
  go_ret
  exact ⟨A12, n12, c12, rfl, HL12.out, Hc.out, Hm2.out, HR12.out, E12.out⟩

theorem get14_cases (L : List UInt8) (S : Lay14) (h : seen14 L = S) : (S.may = false → get14 L = none) ∧ (S.may = true → decide (S.put = L) = false → get14 L = none) ∧ (S.may = true → decide (S.put = L) = true → get14 L = some S) := by
  subst h
  unfold get14
  refine ⟨fun h => if_neg (by simp [h]), fun _ h2 => if_neg (by simpa using fun _ => by simpa using h2), fun h1 h2 => if_pos ⟨h1, by simpa using h2⟩⟩
set_option maxHeartbeats 1600000 in
theorem rget14_any (A : Option Addr) (n cap : Nat) (L : List UInt8) (hL : L.length = 256) (hn : L.length = n) (w : World) (hr : RB w A L) :
    Calls Try.prog 26 #[.slice A n cap] w fun e w' => e = .returned (.tuple #[.agg (got14 L).val, .bool (get14 L).isSome]) ∧ Below w.heap.size w w' := by
  obtain rfl : n = 256 := by rw [← hn, hL]
  have Hn := Lib.hid hn
  have Hr0 := Lib.hid hr
  obtain ⟨g8, g10, g12⟩ := getN_seen L hL
  have HM := Lib.hid (seen_merge L)
  obtain ⟨S, HS⟩ : ∃ S, Hid (seen14 L = S) := ⟨_, Lib.hid rfl⟩
  have hv : #[Value.int .i64 ((leVal ((L.drop 8).take 2) : Nat) : Int), .int .i64 ((leVal ((L.drop 10).take 2) : Nat) : Int), .int .u64 ((leVal ((L.drop 12).take 8) : Nat) : Int)] = S.val := by rw [← HS.out]; rfl
  rw [← g8, ← g10, ← g12] at hv
  obtain ⟨n8, HG8⟩ : ∃ n, Hid (getN L 8 2 4 = n) := ⟨_, Lib.hid rfl⟩
  obtain ⟨n10, HG10⟩ : ∃ n, Hid (getN L 10 2 4 = n) := ⟨_, Lib.hid rfl⟩
  obtain ⟨n12, HG12⟩ : ∃ n, Hid (getN L 12 8 8 = n) := ⟨_, Lib.hid rfl⟩
  rw [HG8.out, HG10.out, HG12.out] at hv
  have HSv := Lib.hid hv
  rw [HS.out] at HM
  have HC := Lib.hid (get14_cases L S HS.out)
  clear g8 g10 g12 hL hv hn hr
  go_enter Try.func26, Try.ntmps26
  go_wp2_with (refine wpList_alloc_row rfl _ rfl _ Try.layZero ?_)
  apply Stop.go; intro w1 Hg1 Hb1
  have Hr1 := Lib.hid (Hr0.out.below Hg1.out.1)
  go_wp2_with fail
  refine (rget_any _ _ _ L Hn.out (by unfold maxLen; omega) _ _ _ Hr1.out).mono ?_; rintro e wx ⟨rfl, rfl⟩
  rw [HG12.out]
  go_wp2_with fail
  refine (nrat_any _ _ _ L Hn.out (by unfold maxLen; omega) _ _ _ Hr1.out).mono ?_; rintro e wx ⟨rfl, rfl⟩
  rw [HG8.out]
  go_wp2_with fail
  refine (nrat_any _ _ _ L Hn.out (by unfold maxLen; omega) _ _ _ Hr1.out).mono ?_; rintro e wx ⟨rfl, rfl⟩
  rw [HG10.out]
  go_wp2_with (refine wpList_alloc_row rfl _ rfl _ Try.layZero ?_)
  apply Stop.go; intro w2 Hg2 Hb2
  go_wp2_with (refine wpList_store_arr rfl _ _ _ rfl _ S.val rfl (congrArg Value.agg HSv.out) _ _ Hb2.out Try.laySize rfl (val_one _) ?_)
  apply Stop.go; intro w3 Ho3 Hb3
  have z1 := Lib.hid Hg1.out.2
  have E3 := Lib.hid (bonly (bt Hg1.out.1 Hg2.out.1) Ho3.out Hg1.out.1.size)
  have HZ3 := Lib.hid ((Hb1.out.ext Hg2.out.1).only Ho3.out (by rw [z1.out]; omega))
  have Hr3 := Lib.hid (Hr0.out.below E3.out)
  generalize w1.heap.size = G at *
  clear Hg1 Hb1 Hg2 Hb2 Ho3 Hr1 HG8 HG10 HG12 HSv
  go_wp2_with (refine wpList_load_blk rfl _ _ rfl _ rfl _ _ Hb3.out _ Try.underlying26 rfl Try.laySize ?_)
  refine (rmay_any S _).mono ?_; rintro e w4 ⟨rfl, hb4⟩
  have E4 := Lib.hid (bt E3.out hb4)
  have HX4 := Lib.hid (Hb3.out.ext hb4)
  have HZ4 := Lib.hid (HZ3.out.ext hb4)
  have Hr4 := Lib.hid (Hr0.out.below E4.out)
  clear hb4 E3 Hb3 HZ3 Hr3
  obtain ⟨b, Hm⟩ : ∃ b, Hid (S.may = b) := ⟨_, Lib.hid rfl⟩
  rw [Hm.out]
  cases b
  · have HG0 := Lib.hid (HC.out.1 Hm.out)
    go_wp2_with (refine wpList_store_arr rfl _ _ _ rfl _ zero14.val rfl rfl _ _ HZ4.out Try.laySize rfl (val_one _) ?_)
    apply Stop.go; intro w7 Ho7 Hb7
    go_wp2_with ((with_reducible show bodyPost _ _ _ _ _ _); refine bodyPost_struct_tmp rfl _ rfl _ _ Hb7.out _ Try.underlying26 rfl Try.laySize rfl _ rfl ?_)
    apply Stop.go
    rw [got14, HG0.out]
    exact ⟨⟨rfl, rfl⟩, bonly E4.out Ho7.out (Nat.le_refl _)⟩
  · go_wp2_with (refine wpList_load_blk rfl _ _ rfl _ rfl _ _ HX4.out _ Try.underlying26 rfl Try.laySize ?_)
    refine (rput14_any S Hm.out HM.out _).mono ?_; rintro e w5 ⟨A5, n5, c5, rfl, hl5, hc5, hm5, hr5, hb5⟩
    have E5 := Lib.hid (bt E4.out hb5)
    have HX5 := Lib.hid (HX4.out.ext hb5)
    have HZ5 := Lib.hid (HZ4.out.ext hb5)
    have Hr5 := Lib.hid (Hr0.out.below E5.out)
    have HL5 := Lib.hid hl5
    have HR5 := Lib.hid hr5
    obtain rfl : n5 = 256 := by rw [← hl5, S.put_len]
    clear hb5 hl5 hc5 hm5 hr5 E4 HX4 HZ4 Hr4
    go_wp2_with fail
    refine (same_any _ _ _ S.put HL5.out _ _ _ L Hn.out (by unfold maxLen; omega) (by unfold maxLen; omega) _ HR5.out Hr5.out).mono ?_; rintro e w6 ⟨rfl, k6, rfl⟩
    have e6 := bdrew w5 k6
    obtain ⟨w6, hw6⟩ : ∃ x, w5.drewN k6 = x := ⟨_, rfl⟩
    rw [hw6] at e6 ⊢
    have E6 := Lib.hid (bt E5.out e6)
    have HX6 := Lib.hid (HX5.out.ext e6)
    have HZ6 := Lib.hid (HZ5.out.ext e6)
    clear e6 hw6 E5 HX5 HZ5 Hr5 HR5 HL5
    obtain ⟨r, Hr⟩ : ∃ r, Hid (decide (S.put = L) = r) := ⟨_, Lib.hid rfl⟩
    rw [Hr.out]
    cases r
    · have HG0 := Lib.hid (HC.out.2.1 Hm.out Hr.out)
      go_wp2_with (refine wpList_store_arr rfl _ _ _ rfl _ zero14.val rfl rfl _ _ HZ6.out Try.laySize rfl (val_one _) ?_)
      apply Stop.go; intro w7 Ho7 Hb7
      go_wp2_with ((with_reducible show bodyPost _ _ _ _ _ _); refine bodyPost_struct_tmp rfl _ rfl _ _ Hb7.out _ Try.underlying26 rfl Try.laySize rfl _ rfl ?_)
      apply Stop.go
      rw [got14, HG0.out]
      exact ⟨⟨rfl, rfl⟩, bonly E6.out Ho7.out (Nat.le_refl _)⟩
    · have HG1 := Lib.hid (HC.out.2.2 Hm.out Hr.out)
      go_wp2_with (first | refine wpList_load_blk rfl _ _ rfl _ rfl _ _ HX6.out _ Try.underlying26 rfl Try.laySize ?_ | refine wpList_store_arr rfl _ _ _ rfl _ S.val rfl rfl _ _ HZ6.out Try.laySize rfl (val_one _) ?_)
      apply Stop.go; intro w7 Ho7 Hb7
      go_wp2_with ((with_reducible show bodyPost _ _ _ _ _ _); refine bodyPost_struct_tmp rfl _ rfl _ _ Hb7.out _ Try.underlying26 rfl Try.laySize rfl _ rfl ?_)
      apply Stop.go
      rw [got14, HG1.out]
      exact ⟨⟨rfl, rfl⟩, bonly E6.out Ho7.out (Nat.le_refl _)⟩

end Go.Proofs.Ytpdeohmgjblkeaa
