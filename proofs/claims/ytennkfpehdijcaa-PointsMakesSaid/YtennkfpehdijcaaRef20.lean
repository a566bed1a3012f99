/-
  Contracts of the document's answers of layer 20: Numbers, Fine, Block, Below.
-/
import Derived.Test.YtennkfpehdijcaaPts2
import Derived.Test.YtennkfpehdijcaaRef01
import Derived.Test.YtennkfpehdijcaaAppB
namespace Go.Proofs.Ytennkfpehdijcaa
open Go.RowKit

theorem Try.intSz20 : (Try.prog.info? 3).map (·.size) = some 1 := by kernel_rfl

theorem numsK_next (b : List UInt8) (k : Nat) : (List.range (k + 1)).map (nmQ b) = (List.range k).map (nmQ b) ++ [nmQ b k] := by rw [List.range_succ, List.map_append]; rfl
set_option maxHeartbeats 1600000 in
theorem rnums_any (A : Option Addr) (cap : Nat) (b : List UInt8) (hb : b.length = 256) (w : World) (hr : RB w A b) :
    Calls Try.prog 7 #[.slice A 256 cap] w (RetL w (numsQ b)) := by
  have HbL := Lib.hid hb
  have Hr := Lib.hid hr
  have HG := Lib.hid (fun (k : Nat) (hk : k < 128) => show ((getN b (2 * (k : Int)) 2 4 : Nat) : Int) = nmQ b k from getN_nm hb hk)
  clear hb hr
  go_enter Try.func7, Try.ntmps7
  go_wp2_with fail
  go_loopw [3, 4] (fun u i wr => ∃ k : Nat, k ≤ 128 ∧ i = .int .i64 k ∧ Hid (Below w.heap.size w wr) ∧ Hid (OwnC wr w.heap.size 3 u (ivals ((List.range k).map (nmQ b))))) (fun _ i _ => 128 - (intOf i).toNat)
  case atStart => exact ⟨0, Nat.zero_le _, rfl, Lib.hid (Below.refl _ _), Lib.hid (OwnC.nil_ _ _ _)⟩
  case round =>
    obtain ⟨k, hk, rfl, E, HO⟩ := hrel
    by_cases hlt : k < 128
    · have d0 : decide ((k : Int) < 128) = true := by simp; omega
      have hw : IntKind.i64.wrap (2 * (k : Int)) = 2 * (k : Int) := IntWalk.i64_in _ (by omega)
      have HX := Lib.hid (HG.out k hlt)
      have Hr' := Lib.hid (Hr.out.below E.out)
      have HLn := Lib.hid (show ((List.range k).map (nmQ b)).length = k by rw [List.length_map, List.length_range])
      have HNx := Lib.hid (numsK_next b k)
      have Z := Lib.hid E.out.size
      go_wp2_with fail
      refine (nrat_any A 256 cap b HbL.out (by unfold maxLen; omega) (2 * (k : Int)) 2 _ Hr'.out).mono ?_; rintro e w2 ⟨rfl, rfl⟩
      rw [HX.out]
      generalize nmQ b k = x at *
      generalize (List.range k).map (nmQ b) = l at *
      have hl1 : (ivals l).length + 1 ≤ maxLen := by rw [ivals_len, HLn.out]; unfold maxLen; omega
      have hl2 : ((ivals l).length + 1) * 8 ≤ 140737488355328 := by rw [ivals_len, HLn.out]; omega
      clear HX HG Hr'
      go_wp2_with (at_builtin; refine wpList_append_one rfl _ _ _ _ rfl Try.underlying24 (.int .i64 0) 8 Try.intInfo rfl w.heap.size _ _ rfl HO.out (.int .i64 x) rfl rfl Z.out hl1 hl2 ?_)
      apply Stop.go
      intro v' w3 Hv' Ha'
      have HO3 := Lib.hid (show OwnC w3 w.heap.size 3 v' (ivals (l ++ [x])) by rw [← ivals_snoc]; exact Hv'.out)
      have E3 := Lib.hid (E.out.trans Ha'.out.below)
      clear Hv' Ha' HO E hl1 hl2
      go_wp2_with fail
      go_roundw
      case rel => exact ⟨k + 1, by omega, by go_num, E3, Lib.hid (by rw [HNx.out]; exact HO3.out)⟩
      case measure => simp [intOf]; omega
    · obtain rfl : k = 128 := by omega
      go_wp2_with fail
      go_ret
      exact ⟨_, rfl, HO.out, E.out⟩

set_option maxHeartbeats 400000 in
theorem rfine_any (n : Int) (w : World) : Calls Try.prog 18 #[.int .i64 n] w fun e w' => e = .returned (.bool (shortB n)) ∧ w = w' := by
  by_cases h : 0 ≤ n
  · go_enter Try.func18, Try.ntmps18
    go_wp2
    go_ret
    simp [h, shortB]
  · go_enter Try.func18, Try.ntmps18
    go_wp2
    go_ret
    simp [shortB]
    omega

set_option maxHeartbeats 1600000 in
theorem rblock_any (A : Option Addr) (n cap : Nat) (l : List Int) (hn : l.length = n) (hm : n ≤ 128) (hf : fineL l) (w : World) (hr : RC w A (ivals l)) :
    Calls Try.prog 21 #[.slice A n cap] w (RetB w (blkQ l)) := by
  have Hn := Lib.hid hn
  have Hr := Lib.hid hr
  have Hf := Lib.hid hf
  have HQ := Lib.hid (rlay_blkQ (l := l) (by rw [hn]; exact hm))
  clear hn hr hf
  go_enter Try.func21, Try.ntmps21
  go_wp2_with fail
  go_loopw [3, 4] (fun u i wr => ∃ k : Nat, k ≤ n ∧ i = .int .i64 k ∧ Hid (Below w.heap.size w wr) ∧ Hid (OwnB wr w.heap.size 5 u (flatI (l.take k)))) (fun _ i _ => n - (intOf i).toNat)
  case atStart => exact ⟨0, Nat.zero_le _, rfl, Lib.hid (Below.refl _ _), Lib.hid (OwnB.nil_ _ _ _)⟩
  case round =>
    obtain ⟨k, hk, rfl, E, HO⟩ := hrel
    have Z := Lib.hid E.out.size
    by_cases hlt : k < n
    · have hkl : k < l.length := by rw [Hn.out]; exact hlt
      have Hr' := Lib.hid (Hr.out.below E.out)
      obtain ⟨ad, rfl, hc⟩ := Hr'.out.int k hkl
      have HT := Lib.hid (show flatI (l.take (k + 1)) = flatI (l.take k) ++ leBytes 2 (l[k]).toNat by rw [List.take_succ_eq_append_getElem hkl, flatI_snoc])
      have HM := Lib.hid (show (flatI (l.take k)).length = 2 * k by rw [flatI_len, List.length_take, Hn.out]; omega)
      have hx : 0 ≤ l[k] ∧ l[k] ≤ 65535 := by
        have h1 := Hf.out k hkl
        have h2 := fld_get l k hkl
        rw [List.getElem?_eq_getElem hkl] at h2
        rwa [← Option.some.inj h2] at h1
      generalize l[k] = x at *
      obtain ⟨v, rfl⟩ := Int.eq_ofNat_of_zero_le hx.1
      have HV := Lib.hid (show v < 18446744073709551616 by omega)
      have hw : IntKind.u64.wrap (v : Int) = (v : Int) := IntWalk.u64_in _ (by omega)
      have HT := Lib.hid (show flatI (l.take (k + 1)) = flatI (l.take k) ++ leBytes 2 v from HT.out)
      generalize flatI (l.take k) = d at *
      clear hx
      go_wp2_with fail
      refine (bytes_any 2 v (by omega) HV.out _).mono ?_; rintro e w2 ⟨A2, n2, c2, rfl, hl2, hc2, hm2, hr2, hb2⟩
      obtain rfl : n2 = 2 := by rw [← hl2, leBytes_len]
      have HO2 := Lib.hid (show OwnB w2 w.heap.size 5 u3 d from HO.out.below hb2)
      have E2 := Lib.hid (bt E.out hb2)
      have Z2 := Lib.hid E2.out.size
      have HL2 := Lib.hid hl2
      have HR2 := Lib.hid hr2
      generalize leBytes 2 v = d2 at *
      clear hl2 hc2 hm2 hr2 hb2 HO E Z hc hw HV
      go_wp2_with (at_builtin; refine wpList_append_own_bytes rfl _ _ _ _ rfl Try.underlying26 Try.byteInfo w.heap.size _ d rfl HO2.out Z2.out _ _ _ _ rfl HL2.out HR2.out (by omega) (by rw [HM.out]; omega) ?_)
      apply Stop.go; intro v3 w3 Ho3 He3
      have E3 := Lib.hid (E2.out.trans He3.out)
      clear He3 HO2 E2 Z2 HL2 HR2
      go_wp2_with fail
      go_roundw
      case rel => exact ⟨k + 1, by omega, by go_num, E3, Lib.hid (by rw [HT.out]; exact Ho3.out)⟩
      case measure => simp [intOf]; omega
    · obtain rfl : k = n := by omega
      rw [List.take_of_length_le (by rw [Hn.out]; omega)] at HO
      obtain ⟨A2, c2, rfl, hc2, hm2, hr2⟩ := HO.out.read
      have HR2 := Lib.hid hr2
      clear hr2 hc2 hm2 HO
      go_wp2_with (refine wpList_make_bytes rfl _ _ _ _ rfl Try.underlying26 Try.byteInfo _ _ _ _ 256 rfl rfl rfl rfl (by omega) ?_)
      apply Stop.go; intro w3 Hg3 Hb3
      have HR3 := Lib.hid (HR2.out.below Hg3.out.1)
      have E3 := Lib.hid (bt E.out Hg3.out.1)
      have HZ3 := Lib.hid (RB.of_blk0 Hb3.out)
      clear Hg3 Hb3 HR2 E
      go_wp2_with fail
      refine (rlay_any _ 256 256 (zeros 256) (zeros_len 256) (by omega) 0 A2 _ c2 (flatI l) rfl _ HZ3.out HR3.out).mono ?_; rintro e w4 ⟨A4, n4, c4, rfl, hl4, hc4, hm4, hr4, hb4⟩
      rw [HQ.out] at hl4 hr4
      have HL4 := Lib.hid hl4
      have HR4 := Lib.hid hr4
      have E4 := Lib.hid (bt E3.out hb4)
      clear hl4 hr4 hb4
      go_wp2_with fail
      go_ret
      exact ⟨A4, n4, c4, rfl, HL4.out, hc4, hm4, HR4.out, E4.out⟩

theorem rem3r (k : Nat) : ∃ r : Nat, r < 3 ∧ k % 3 = r ∧ (k : Int) % 3 = (r : Int) ∧ Int.tmod (k : Int) 3 = (r : Int) := ⟨k % 3, Nat.mod_lt _ (by omega), rfl, by omega, by rw [Int.tmod_eq_emod_of_nonneg (by omega)]; omega⟩
theorem cell_of_ivals {w : World} {g : Nat} {t : TypeId} {cs : Array Value} {l : List Int} (h : Blk w g t cs) (hl : cs.toList.take l.length = ivals l) (k : Nat) (hk : k < l.length) : w.cell? ⟨g, k, none⟩ = some (.int .i64 (fld l k)) := by
  rw [h.cell]
  have e : (cs.toList.take l.length)[k]? = (ivals l)[k]? := by rw [hl]
  rw [List.getElem?_take_of_lt hk] at e
  unfold ivals at e
  rw [List.getElem?_map, fld_get l k hk] at e
  simpa using e
set_option maxHeartbeats 1600000 in
theorem rbelow_any (A : Option Addr) (cap : Nat) (b : List UInt8) (hb : b.length = 256) (e : Int) (w : World) (hr : RB w A b) :
    Calls Try.prog 15 #[.slice A 256 cap, .int .i64 e] w (RetB w (keepQ e b)) := by
  have Hq := Lib.hid (rnums_any A cap b hb w hr)
  obtain ⟨L, HLd⟩ : ∃ L, Hid (numsQ b = L) := ⟨_, Lib.hid rfl⟩
  have HLL := Lib.hid (show L.length = 128 by rw [← HLd.out]; exact numsQ_len b)
  have HLF := Lib.hid (show fineL L by rw [← HLd.out]; exact numsQ_fine b)
  have HQ := Lib.hid (show keepQ e b = blkQ (keepL e L 128) by unfold keepQ; rw [HLd.out])
  rw [HLd.out] at Hq
  rw [HQ.out]
  clear hb hr
  go_enter Try.func15, Try.ntmps15
  go_wp2_with fail
  refine (Hq.out).mono ?_; rintro e w1 ⟨v, rfl, hv, hb1⟩
  obtain ⟨g, cp, cs, rfl, hg, hbk, hcp, hcm, hcs, hct⟩ := hv.blk (by rw [ivals_len, HLL.out]; omega)
  rw [ivals_len, HLL.out] at hct hcp ⊢
  have E1 := Lib.hid hb1
  have HG := Lib.hid hg
  have HB1 := Lib.hid hbk
  have HC1 := Lib.hid (show cs.toList.take L.length = ivals L by rw [HLL.out]; exact hct)
  have HS1 := Lib.hid (show 128 ≤ cs.size by omega)
  clear hv hb1 hg hbk hcm hcs hct hcp Hq
  go_wp2_with fail
  go_loopw [6] (fun i wr => ∃ (k : Nat) (cs : Array Value), k ≤ 128 ∧ i = .int .i64 k ∧ Hid (Below w.heap.size w wr) ∧ Hid (Blk wr g 3 cs) ∧ Hid (cs.toList.take 128 = ivals (keepL e L k)) ∧ Hid (128 ≤ cs.size)) (fun i _ => 128 - (intOf i).toNat)
  case atStart => exact ⟨0, cs, Nat.zero_le _, rfl, E1, HB1, Lib.hid (by rw [← HLL.out]; exact HC1.out), HS1⟩
  case round =>
    obtain ⟨k, cs, hk, rfl, E, HB, HC, HS⟩ := hrel
    clear E1 HB1 HC1 HS1
    have HSL := Lib.hid (show (keepL e L k).length = 128 by rw [keepL_len, HLL.out])
    by_cases hlt : k < 128
    · have d0 : decide ((k : Int) < 128) = true := by simp; omega
      have c := cell_of_ivals HB.out (by rw [HSL.out]; exact HC.out) k (by rw [HSL.out]; exact hlt)
      have HNX := Lib.hid (show keepL e L (k + 1) = stepK e k (keepL e L k) from rfl)
      have H1 := Lib.hid (stepK_yes (e := e) (k := k) (s := keepL e L k))
      have H2 := Lib.hid (stepK_no (e := e) (k := k) (s := keepL e L k))
      rw [← HNX.out] at H1 H2
      obtain ⟨t, HTd⟩ : ∃ t, Hid (keepL e L (k + 1) = t) := ⟨_, Lib.hid rfl⟩
      rw [HTd.out] at H1 H2
      generalize keepL e L k = s at *
      generalize fld s k = x at *
      obtain ⟨r, h3, e1, e2, e3⟩ := rem3r k
      have HK := Lib.hid (show kpB e k x = (decide (x < e) && !decide (r = 2)) by unfold kpB; rw [e1])
      have hw : IntKind.i64.wrap (r : Int) = (r : Int) := IntWalk.i64_in _ (by omega)
      clear HNX
      cases hf : kpB e k x
      · have HT := Lib.hid (H2.out hf)
        rw [HK.out] at hf
        have HCn := Lib.hid (show (cs.setIfInBounds k (.int .i64 0)).toList.take 128 = ivals t by
          rw [Array.toList_setIfInBounds, List.take_set, HC.out, HT.out]
          unfold ivals
          rw [List.map_set])
        have hor : ¬ x < e ∨ x < e ∧ r = 2 := by
          by_cases hx : x < e
          · rw [decide_eq_true hx] at hf
            simp at hf
            exact Or.inr ⟨hx, hf⟩
          · exact Or.inl hx
        clear H1 H2 hf
        rcases hor with hx | ⟨hx, rfl⟩
        focus (
          have d1 : decide (e ≤ x) = true := by simp; omega
          clear hx)
        rotate_left
        focus (
          have d1 : decide (e ≤ x) = false := by simp; omega
          have d2 : (((2 : Nat) : Int) == 2) = true := rfl
          clear hx)
        rotate_left
        all_goals
          go_wp2_with (refine wpList_store_cell rfl _ _ _ rfl Try.intSz20 g k rfl (.int .i64 0) rfl rfl rfl _ _ HB.out (by have := HS.out; omega) ?_)
          apply Stop.go; intro w3 Ho3 Hb3
          have E3 := Lib.hid (bonly E.out Ho3.out (by have := HG.out; omega))
          have HS3 := Lib.hid (show 128 ≤ (cs.setIfInBounds k (.int .i64 0)).size by rw [Array.size_setIfInBounds]; exact HS.out)
          clear Ho3 HB E HC HS c
          go_wp2_with fail
          go_roundw
          case rel => exact ⟨k + 1, cs.setIfInBounds k (.int .i64 0), by omega, by go_num, E3, Hb3, Lib.hid (by rw [HTd.out]; exact HCn.out), HS3⟩
          case measure => simp [intOf]; omega
      · have HT := Lib.hid (H1.out hf)
        rw [HK.out] at hf
        simp at hf
        have d1 : decide (e ≤ x) = false := by simp; omega
        have d2 : ((r : Int) == 2) = false := by simp; omega
        clear H1 H2 hf
        go_wp2_with fail
        go_roundw
        case rel => exact ⟨k + 1, cs, by omega, by go_num, E, HB, Lib.hid (by rw [HTd.out, HT.out]; exact HC.out), HS⟩
        case measure => simp [intOf]; omega
    · obtain rfl : k = 128 := by omega
      have HF := Lib.hid (keepL_fine (e := e) HLF.out 128)
      have hrc := RC.of_blk HB.out (ivals (keepL e L 128)) (by rw [ivals_len, HSL.out]; exact HC.out)
      go_wp2_with fail
      refine (rblock_any _ 128 cp (keepL e L 128) HSL.out (by omega) HF.out _ hrc).mono ?_; rintro e w4 ⟨A4, n4, c4, rfl, hl4, hc4, hm4, hr4, hb4⟩
      have HL4 := Lib.hid hl4
      have HR4 := Lib.hid hr4
      have E4 := Lib.hid (bt E.out hb4)
      clear hl4 hr4 hb4 hrc
      go_wp2_with fail
      go_ret
      exact ⟨A4, n4, c4, rfl, HL4.out, hc4, hm4, HR4.out, E4.out⟩

end Go.Proofs.Ytennkfpehdijcaa
