/-
  Contracts of the document's answers of layer 22: Data (of 21), Block, Some, All, Index, Buckets, Owns.
-/
import Derived.Test.YtcdbligdcikphaaGreatGrD
import Derived.Test.YtcdbligdcikphaaGreatGrI
import Derived.Test.YtcdbligdcikphaaGreatGrK
import Derived.Test.YtcdbligdcikphaaGreatGrJ
import Derived.Test.YtcdbligdcikphaaGreatAppM
import Derived.Test.YtcdbligdcikphaaGreatSlcF
import Derived.Test.YtcdbligdcikphaaGreatHeldT
namespace Go.Proofs.YtcdbligdcikphaaGreat
open Go.RowKit
set_option maxRecDepth 10000

theorem area_data (l : Lay14) (no : Int) : decide (l.area no = 4) = l.isD no := by
  cases hm : l.may
  · rw [Lay14.area_off hm, Lay14.isD_off hm]; decide
  · rw [Lay14.isD_on hm]
    exact decide_eq_decide.2 (Lay14.area4_iff hm no)
set_option maxHeartbeats 800000 in
theorem rdata_any (l : Lay14) (no : Int) (hno : no < 9223372036854775808) (w : World) :
    Calls Tryz.prog 30 #[.agg l.val, .int .i64 no] w fun e w' => e = .returned (.bool (l.isD no)) ∧ Below w.heap.size w w' := by
  have HA := Lib.hid (area_data l no)
  go_enter Tryz.func30, Tryz.ntmps30
  go_wp2_with (refine wpList_box_row rfl _ _ rfl _ rfl ?_)
  apply Stop.go; intro w1 Hg1 Hb1
  go_wp2_with (refine wpList_load_blk rfl _ _ rfl _ rfl _ _ Hb1.out _ Tryz.underlying26 rfl Tryz.laySize ?_)
  refine (area_any l no hno _).mono ?_; rintro e w2 ⟨rfl, hb2⟩
  generalize l.area no = q at *
  go_wp2_with fail
  go_ret
  refine ⟨?_, bt Hg1.out.1 hb2⟩
  rw [← HA.out]
  congr 2

set_option maxHeartbeats 1600000 in
theorem rblock22_any (A : Option Addr) (n cap : Nat) (L : List (List UInt8)) (hn : L.length = n) (hL : Bks L) (hm : n ≤ maxLen) (no : Int) (w : World) (hr : RK w A L) :
    Calls Tryz.prog 32 #[.slice A n cap, .int .i64 no] w fun e w' => ∃ A', e = .returned (.slice A' 256 256) ∧ RB w' A' (bkV L no) ∧ Below w.heap.size w w' := by
  unfold maxLen at hm
  have Hn := Lib.hid hn
  by_cases h : no < 0 ∨ 0 ≤ no ∧ (n : Int) ≤ no
  · have H0 := Lib.hid (bkV_off (L := L) (no := no) (by rw [hn]; omega))
    clear hn hL hr
    rcases h with h | ⟨h, h2⟩
    focus (
      have d0 : decide (no < 0) = true := decide_eq_true h
      clear h)
    rotate_left
    focus (
      have d0 : decide (no < 0) = false := decide_eq_false (by omega)
      have d1 : decide ((n : Int) ≤ no) = true := decide_eq_true h2
      clear h h2)
    all_goals
      go_enter Tryz.func32, Tryz.ntmps32
      go_wp2_with (refine wpList_make_bytes rfl _ _ _ _ rfl Tryz.underlying65 Tryz.byteInfo _ _ _ _ 256 rfl rfl rfl rfl (by omega) ?_)
      apply Stop.go; intro w1 Hg1 Hb1
      go_wp2_with fail
      go_ret
      rw [H0.out]
      exact ⟨_, rfl, RB.of_blk0 Hb1.out, Hg1.out.1⟩
  · obtain ⟨q, rfl⟩ := Int.eq_ofNat_of_zero_le (show 0 ≤ no by omega)
    have hqL : q < L.length := by omega
    obtain ⟨ad, rfl⟩ := hr.addr (by omega)
    have H0 := Lib.hid (bkV_at hqL)
    have HR := Lib.hid (hr.at_ hL hqL)
    have d0 : decide ((q : Int) < 0) = false := decide_eq_false (by omega)
    have d1 : decide ((n : Int) ≤ (q : Int)) = false := decide_eq_false (by omega)
    have d2 : decide (n ≤ q) = false := decide_eq_false (by omega)
    have p0 : (0 : Int) ≤ (q : Int) := by omega
    have p1 : (q : Int) < (n : Int) := by omega
    clear hn hL hr h
    go_enter Tryz.func32, Tryz.ntmps32
    go_wp2_with (refine wpList_slice_ad rfl _ _ rfl 256 _ Tryz.underlying54 Tryz.byteSize _ rfl ?_)
    go_wp2_with fail
    go_ret
    rw [H0.out]
    exact ⟨_, rfl, HR.out, Below.refl _ _⟩

set_option maxHeartbeats 1600000 in
theorem rsome_any (A : Option Addr) (n cap : Nat) (t : List Int) (hn : t.length = n) (hm : n ≤ 134) (w : World) (hr : RC w A (ivals t)) :
    Calls Tryz.prog 38 #[.slice A n cap] w (RetL w (someF t)) := by
  have Hn := Lib.hid hn
  have Hr := Lib.hid hr
  clear hn hr
  go_enter Tryz.func38, Tryz.ntmps38
  go_wp2_with fail
  go_loopw [3, 4] (fun u z wr => ∃ k : Nat, k ≤ n ∧ z = .int .i64 k ∧ Hid (Below w.heap.size w wr) ∧ Hid (OwnC wr w.heap.size 3 u (ivals (someF (t.take k))))) (fun _ z _ => n - (intOf z).toNat)
  case atStart => exact ⟨0, Nat.zero_le _, rfl, Lib.hid (Below.refl _ _), Lib.hid (OwnC.nil_ _ _ _)⟩
  case round =>
    obtain ⟨k, hk, rfl, E, HO⟩ := hrel
    by_cases hlt : k < n
    · have hkl : k < t.length := by rw [Hn.out]; exact hlt
      have hc0 := (Hr.out.below E.out)
      obtain ⟨ad, rfl, hc⟩ := hc0.int k hkl
      have hfk : t[k] = fld t k := by
        have := fld_get t k hkl
        rw [List.getElem?_eq_getElem hkl] at this
        exact Option.some.inj this
      rw [hfk] at hc
      have HNx := Lib.hid (someF_next hkl)
      have HLn := Lib.hid (show (someF (t.take k)).length ≤ k from Nat.le_trans (someF_len _) (by rw [List.length_take]; omega))
      have Z := Lib.hid E.out.size
      have p0 : (0 : Int) ≤ (k : Int) := by omega
      generalize fld t k = x at *
      clear hfk hkl
      by_cases hx : x = 0
      · have HN := Lib.hid (show someF (t.take (k + 1)) = someF (t.take k) by rw [HNx.out, if_pos hx])
        have d1 : (x != 0) = false := by simpa using hx
        clear hx HNx
        go_wp2_with fail
        go_roundw
        case rel => exact ⟨k + 1, by omega, by go_num, E, Lib.hid (by rw [HN.out]; exact HO.out)⟩
        case measure => simp [intOf]; omega
      · have HN := Lib.hid (show someF (t.take (k + 1)) = someF (t.take k) ++ [x] by rw [HNx.out, if_neg hx])
        have d1 : (x != 0) = true := by simpa using hx
        have hl1 : (ivals (someF (t.take k))).length + 1 ≤ maxLen := by rw [ivals_len]; unfold maxLen; have := HLn.out; omega
        have hl2 : ((ivals (someF (t.take k))).length + 1) * 8 ≤ 140737488355328 := by rw [ivals_len]; have := HLn.out; omega
        clear hx HNx
        go_wp2_with (at_builtin; refine wpList_append_one rfl _ _ _ _ rfl Tryz.underlying50 (.int .i64 0) 8 Tryz.intInfo rfl w.heap.size _ _ rfl HO.out (.int .i64 x) rfl rfl Z.out hl1 hl2 ?_)
        apply Stop.go
        intro v' w3 Hv' Ha'
        have HO3 := Lib.hid (show OwnC w3 w.heap.size 3 v' (ivals (someF (t.take (k + 1)))) by rw [HN.out, ← ivals_snoc]; exact Hv'.out)
        have E3 := Lib.hid (E.out.trans Ha'.out.below)
        clear Hv' Ha' HO E hl1 hl2 HLn hc hc0
        go_wp2_with fail
        go_roundw
        case rel => exact ⟨k + 1, by omega, by go_num, E3, HO3⟩
        case measure => simp [intOf]; omega
    · obtain rfl : k = n := by omega
      rw [List.take_of_length_le (by rw [Hn.out]; omega)] at HO
      go_wp2_with fail
      go_ret
      exact ⟨_, rfl, HO.out, E.out⟩

theorem OwnC.of_icells {w : World} {B g : Nat} {e : TypeId} {l : List Int} (hg : Blk w g e (icells l)) (hb : B ≤ g) (hm : l.length ≤ maxLen) : OwnC w B e (.slice (some ⟨g, 0, none⟩) l.length l.length) (ivals l) :=
  ⟨by rw [ivals_len, Nat.mul_one], Or.inr ⟨g, l.length, icells l, by rw [ivals_len], hb, hg, by rw [ivals_len]; exact Nat.le_refl _, hm, by rw [icells_size]; omega, by rw [ivals_len, Nat.mul_one]; unfold icells ivals; rw [List.toList_toArray, List.take_of_length_le (by rw [List.length_map]; exact Nat.le_refl _)]⟩⟩
/-- A list of numbers in a block of the call's own. -/
theorem cell_ints {w : World} {g : Nat} {t : TypeId} {cs : Array Value} {n : Nat} {l : List Int} (h : Blk w g t cs) (hl : cs.toList.take n = ivals l) (hn : l.length = n) (k : Nat) (hk : k < n) : w.cell? ⟨g, k, none⟩ = some (.int .i64 (fld l k)) := by
  subst hn
  rw [h.cell]
  have e : (cs.toList.take l.length)[k]? = (ivals l)[k]? := by rw [hl]
  rw [List.getElem?_take_of_lt hk] at e
  unfold ivals at e
  rw [List.getElem?_map, fld_get l k hk] at e
  simpa using e
theorem OwnC.rc {w : World} {B : Nat} {e : TypeId} {A : Option Addr} {n c : Nat} {l : List Int} (h : OwnC w B e (.slice A n c) (ivals l)) : RC w A (ivals l) := by
  obtain ⟨A', c', hv, _, _, hr⟩ := h.ints
  injection hv with h1
  subst h1
  exact hr
theorem rc_nums {w : World} {A : Option Addr} {b : List UInt8} (h : RC w A (ivals (numsQ b))) (k : Nat) (hk : k < 128) : ∃ ad, A = some ad ∧ w.cell? (ad.add k) = some (.int .i64 (nmQ b k)) := by
  obtain ⟨ad, h1, h2⟩ := h.int k (by rw [numsQ_len]; exact hk)
  have e := fld_get (numsQ b) k (by rw [numsQ_len]; exact hk)
  rw [List.getElem?_eq_getElem (by rw [numsQ_len]; exact hk), numsQ_at b hk] at e
  rw [Option.some.inj e] at h2
  exact ⟨ad, h1, h2⟩
theorem fld_in {X : List Int} (hX : ∀ z ∈ X, z < 9223372036854775808) (k : Nat) : fld X k < 9223372036854775808 := by
  unfold fld
  rw [List.getD_eq_getElem?_getD]
  by_cases h : k < X.length
  · rw [List.getElem?_eq_getElem h]
    exact hX _ (List.getElem_mem h)
  · rw [List.getElem?_eq_none (by omega)]
    decide
set_option maxHeartbeats 3200000 in
theorem rall_any (A : Option Addr) (n cap : Nat) (L : List (List UInt8)) (hn : L.length = n) (hL : Bks L) (hm : n ≤ maxLen) (l : Lay14) (hly : layW L = some l) (X : List Int) (hX : X.length = 11) (hXi : ∀ z ∈ X, z < 9223372036854775808) (w : World) (hr : RK w A L) :
    Calls Tryz.prog 37 #[.slice A n cap, .agg l.val, .agg (icells X)] w (RetL w (allF l (bkV L) X)) := by
  have Hr := Lib.hid hr
  have HXL := Lib.hid hX
  have HXi := Lib.hid (fld_in hXi)
  obtain ⟨K, HK⟩ : ∃ K, Hid (fld X 0 = K) := ⟨_, Lib.hid rfl⟩
  obtain ⟨I, HI⟩ : ∃ I, Hid (fld X 10 = I) := ⟨_, Lib.hid rfl⟩
  have HIb := Lib.hid (show I < 9223372036854775808 by rw [← HI.out]; exact HXi.out 10)
  have HBk := Lib.hid (fun w h => rblock22_any A n cap L hn hL hm I w h)
  have HBL := Lib.hid (bkV_len hL I)
  have HKn := Lib.hid (fun h : K ≠ 1 => partF_kind (l := l) (T := bkV L) (X := X) (by rw [HK.out]; exact h))
  have HIn := Lib.hid (fun h : l.isD I = false => partF_none (l := l) (T := bkV L) (X := X) (by rw [HI.out]; exact h))
  have HLo := Lib.hid (fun (h : K = 1) (k : Nat) (hk : k < 6) => atF_low (l := l) (T := bkV L) (X := X) (by rw [HK.out]; exact h) hk)
  have HHi := Lib.hid (fun (h : K = 1) (hd : l.isD I = true) (k : Nat) => show atF l (bkV L) X (6 + k) = datF l (nmQ (bkV L I) k) by
    have := atF_high (l := l) (T := bkV L) (X := X) (by rw [HK.out]; exact h) (by rw [HI.out]; exact hd) k
    rw [HI.out, vBk_is hly] at this
    exact this)
  have HP0 := Lib.hid (partF_zero (l := l) (T := bkV L) (X := X))
  have HPL := Lib.hid (fun m => partF_len (l := l) (T := bkV L) (X := X) m)
  have HPS := Lib.hid (fun (m : Nat) (h : m < 134) => partF_set (l := l) (T := bkV L) (X := X) h)
  have HPE := Lib.hid (fun (m : Nat) (h : atF l (bkV L) X m = 0) => partF_same (l := l) (T := bkV L) (X := X) (n := m) (m := m + 1) (by omega) (fun k h1 h2 => by rw [show k = m from by omega]; exact h))
  have HPA : Hid (partF l (bkV L) X 134 = allF l (bkV L) X) := Lib.hid rfl
  have HDy := Lib.hid (fun no h => datF_yes (l := l) (no := no) h)
  have HDn := Lib.hid (fun no h => datF_no (l := l) (no := no) h)
  clear hr hX hXi hly
  go_enter Tryz.func37, Tryz.ntmps37
  go_wp2_with (refine wpList_box_row rfl _ _ rfl _ rfl ?_)
  apply Stop.go; intro w1 Hg1 Hb1
  go_wp2_with (refine wpList_box_row rfl _ _ rfl _ rfl ?_)
  apply Stop.go; intro w2 Hg2 Hb2
  have HL2 := Lib.hid (Hb1.out.ext Hg2.out.1)
  have E2 := Lib.hid (bt Hg1.out.1 Hg2.out.1)
  have z2 := Lib.hid (show w.heap.size < w1.heap.size ∧ w1.heap.size < w2.heap.size by have := Hg1.out.2; have := Hg2.out.2; omega)
  generalize w1.heap.size = g5 at *
  clear Hg1 Hb1 Hg2
  have HZ0 := Lib.hid (show (List.replicate 134 (Value.int .i64 0)).toArray = icells (partF l (bkV L) X 0) by rw [HP0.out]; unfold icells; rw [List.map_replicate])
  go_wp2_with (refine wpList_make_zero rfl _ _ _ _ rfl Tryz.underlying50 (.int .i64 0) 8 Tryz.intInfo rfl _ _ _ _ 134 rfl rfl rfl rfl (by omega) (by omega) _ HZ0.out ?_)
  apply Stop.go; intro w3 Hg3 Hb3
  have HL3 := Lib.hid (HL2.out.ext Hg3.out.1)
  have HX3 := Lib.hid (Hb2.out.ext Hg3.out.1)
  have E3 := Lib.hid (bt E2.out Hg3.out.1)
  have z3 := Lib.hid (show w.heap.size < w2.heap.size ∧ g5 < w2.heap.size by have := z2.out; omega)
  generalize w2.heap.size = gl at *
  clear Hg3 Hb2 HL2 E2 HZ0 HP0 z2
  have c0 : w3.cell? ⟨g5, 0, none⟩ = some (.int .i64 K) := by rw [← HK.out]; exact HX3.out.fld 0 (by rw [HXL.out]; omega)
  by_cases hK : K = 1
  rotate_left
  · have d0 : (K != 1) = true := by simpa using hK
    have H0 := Lib.hid (HKn.out hK)
    rw [H0.out, HPA.out] at Hb3
    have HAL := Lib.hid (show (allF l (bkV L) X).length = 134 from allF_len)
    generalize allF l (bkV L) X = al at *
    have HOw := Lib.hid (OwnC.of_icells Hb3.out (show w.heap.size ≤ gl by have := z3.out; omega) (by rw [HAL.out]; unfold maxLen; omega))
    rw [HAL.out] at HOw
    clear hK H0
    go_wp2_with fail
    go_ret
    exact ⟨_, rfl, HOw.out, E3.out⟩
  · have HLo1 := Lib.hid (HLo.out hK)
    have HHi1 := Lib.hid (HHi.out hK)
    subst hK
    have d0 : ((1 : Int) != 1) = false := rfl
    clear HLo HHi HKn
    go_wp2_with fail
    clear c0
    go_loopw [8] (fun z wr => ∃ k : Nat, k ≤ 6 ∧ z = .int .i64 k ∧ Hid (Below w.heap.size w wr) ∧ Hid (Blk wr w.heap.size 26 l.val) ∧ Hid (Blk wr g5 39 (icells X)) ∧ Hid (Blk wr gl 3 (icells (partF l (bkV L) X k)))) (fun z _ => 6 - (intOf z).toNat)
    case atStart => exact ⟨0, Nat.zero_le _, rfl, E3, HL3, HX3, Hb3⟩
    case round =>
      obtain ⟨k, hk, rfl, E, HV, HX, HB⟩ := hrel
      clear E3 HL3 HX3 Hb3
      by_cases hlt : k < 6
      · have d1 : decide ((k : Int) < 6) = true := by simp; omega
        have p0 : (0 : Int) ≤ (k : Int) := by omega
        have p1 : (k : Int) < 6 := by omega
        have HA := Lib.hid (HLo1.out k hlt)
        have HS := Lib.hid (HPS.out k (by omega))
        have HE0 := Lib.hid (HPE.out k)
        have HPk := Lib.hid (HPL.out k)
        have hxb := HXi.out (4 + k)
        have hcx : ∀ w', Blk w' g5 39 (icells X) → w'.cell? ⟨g5, 4 + k, none⟩ = some (.int .i64 (fld X (4 + k))) := fun w' h => h.fld (4 + k) (by rw [HXL.out]; omega)
        obtain ⟨P1, HP1⟩ : ∃ P1, Hid (partF l (bkV L) X (k + 1) = P1) := ⟨_, Lib.hid rfl⟩
        rw [HP1.out] at HS HE0
        obtain ⟨P0, HP0'⟩ : ∃ P0, Hid (partF l (bkV L) X k = P0) := ⟨_, Lib.hid rfl⟩
        rw [HP0'.out] at HS HE0 HPk HB
        generalize fld X (4 + k) = x at *
        have Hcx := Lib.hid hcx
        have Hxb := Lib.hid hxb
        clear hcx hxb
        go_wp2_with fail
        refine WH.start (S := fun w' : World => Blk w' w.heap.size 26 l.val ∧ Blk w' g5 39 (icells X)) [false, false, false, false, false, false] 6 rfl rfl (by kernel_rfl) ⟨HV.out.ext (bdrew wr 1), HX.out.ext (bdrew wr 1)⟩ (fun hSn => ?_); obtain ⟨wS, hwS⟩ : ∃ x, (wr).drew = x := ⟨_, rfl⟩; have HE := Lib.hid (show Below (wr).heap.size (wr) wS from hwS ▸ bdrew wr 1); rw [hwS] at hSn ⊢; clear hwS
        refine WH.tv 0 rfl (fun w' hSw => exec_load_blk _ _ rfl _ rfl _ _ (hSw.1) _ (Tryz.underlying26) rfl (Tryz.laySize)) ?_; simp only [setL]
        refine WH.tk 1 ?_; simp only [setL]
        refine WH.tk 2 ?_; simp only [setL]
        refine WH.tk 3 ?_; simp only [setL]
        refine WH.tv 4 rfl (fun w' hSw => exec_load_cell _ _ rfl ⟨g5, 4 + k, none⟩ rfl (.int .i64 x) (Hcx.out _ hSw.2) _ Tryz.underlying3 rfl) ?_; simp only [setL]
        refine WH.only 5 _ rfl (by kernel_rfl) rfl (fun K hK => ?_)
        go_simp; refine (rdata_any l x Hxb.out _).mono ?_; rintro e wa ⟨rfl, hba⟩; go_simp
        have HE := Lib.hid (bt HE.out hba)
        have hSn := And.intro (hSn.1.ext hba) (hSn.2.ext hba); refine hK _ _ hSn ?_; clear hK; clear K; simp only [setL]
        refine WH.done (by kernel_rfl) ?_
        have HVa := Lib.hid hSn.1
        have HXa := Lib.hid hSn.2
        have HBa := Lib.hid (HB.out.ext HE.out)
        have Ea := Lib.hid (bt E.out HE.out)
        clear hSn HE hba HV HX HB E
        cases hd : l.isD x
        · have HP := Lib.hid (HE0.out (by rw [HA.out]; exact HDn.out _ hd))
          clear hd HA HS HE0
          go_wp2_with fail
          go_roundw
          case rel => exact ⟨k + 1, by omega, by go_num, Ea, HVa, HXa, Lib.hid (by rw [HP1.out, ← HP.out]; exact HBa.out)⟩
          case measure => simp [intOf]; omega
        · have HP := Lib.hid (show P0.set k x = P1 by rw [← HS.out, HA.out, HDy.out _ hd])
          have cx : wa.cell? ⟨g5, 4 + k, none⟩ = some (.int .i64 x) := Hcx.out _ HXa.out
          clear hd HA HS HE0
          go_wp2_with (refine wpList_store_cell rfl _ _ _ rfl Tryz.intSz20 gl k rfl (.int .i64 x) rfl rfl rfl _ _ HBa.out (by rw [icells_size, HPk.out]; omega) ?_)
          apply Stop.go; intro wb Hob Hbb
          have HBb := Lib.hid (show Blk wb gl 3 (icells P1) by
            have h := Hbb.out
            rw [icells_set, HP.out] at h
            exact h)
          have HVb := Lib.hid (HVa.out.only Hob.out (by have := z3.out; omega))
          have HXb := Lib.hid (HXa.out.only Hob.out (by have := z3.out; omega))
          have Eb := Lib.hid (bonly Ea.out Hob.out (by have := z3.out; omega))
          clear Hob Hbb HBa HVa HXa Ea cx
          go_wp2_with fail
          go_roundw
          case rel => exact ⟨k + 1, by omega, by go_num, Eb, HVb, HXb, Lib.hid (by rw [HP1.out]; exact HBb.out)⟩
          case measure => simp [intOf]; omega
      · obtain rfl : k = 6 := by omega
        have c10 : wr.cell? ⟨g5, 10, none⟩ = some (.int .i64 I) := by rw [← HI.out]; exact HX.out.fld 10 (by rw [HXL.out]; omega)
        go_wp2_with (refine wpList_load_blk rfl _ _ rfl _ rfl _ _ HV.out _ Tryz.underlying26 rfl Tryz.laySize ?_)
        refine (rdata_any l I HIb.out _).mono ?_; rintro e w4 ⟨rfl, hb4⟩
        have HV4 := Lib.hid (HV.out.ext hb4)
        have HX4 := Lib.hid (HX.out.ext hb4)
        have HB4 := Lib.hid (HB.out.ext hb4)
        have E4 := Lib.hid (bt E.out hb4)
        clear hb4 HV HX HB E c10
        cases hd : l.isD I
        · have H0 := Lib.hid (HIn.out hd)
          rw [H0.out, HPA.out] at HB4
          have HAL := Lib.hid (show (allF l (bkV L) X).length = 134 from allF_len)
          generalize allF l (bkV L) X = al at *
          have HOw := Lib.hid (OwnC.of_icells HB4.out (show w.heap.size ≤ gl by have := z3.out; omega) (by rw [HAL.out]; unfold maxLen; omega))
          rw [HAL.out] at HOw
          clear hd H0
          go_wp2_with fail
          go_ret
          exact ⟨_, rfl, HOw.out, E4.out⟩
        · have HHk := Lib.hid (HHi1.out hd)
          have c10 : w4.cell? ⟨g5, 10, none⟩ = some (.int .i64 I) := by rw [← HI.out]; exact HX4.out.fld 10 (by rw [HXL.out]; omega)
          clear hd HHi1 HIn HLo1
          go_wp2_with fail
          refine (HBk.out _ (Hr.out.below E4.out)).mono ?_; rintro e w5 ⟨A5, rfl, hr5, hb5⟩
          have HV5 := Lib.hid (HV4.out.ext hb5)
          have HB5 := Lib.hid (HB4.out.ext hb5)
          have HR5 := Lib.hid hr5
          have E5 := Lib.hid (bt E4.out hb5)
          clear hr5 hb5 HV4 HX4 HB4 E4 c10
          generalize bkV L I = b at *
          go_wp2_with fail
          refine (rnums_any A5 256 b HBL.out _ HR5.out).mono ?_; rintro e w6 ⟨v6, rfl, hv6, hb6⟩
          have HV6 := Lib.hid (HV5.out.ext hb6)
          have HB6 := Lib.hid (HB5.out.ext hb6)
          have E6 := Lib.hid (bt E5.out hb6)
          have HO6 := Lib.hid (hv6.low (B' := gl + 1) (by have := HB5.out.lt; omega))
          clear hv6 hb6 HV5 HB5 HR5 E5
          obtain ⟨An, cn, rfl, hcn, hmn, hrn⟩ := HO6.out.ints
          rw [numsQ_len] at HO6 ⊢
          clear hcn hmn hrn
          go_wp2_with fail
          go_loopw [10] (fun z wr => ∃ k : Nat, k ≤ 128 ∧ z = .int .i64 k ∧ Hid (Below w.heap.size w wr) ∧ Hid (Blk wr w.heap.size 26 l.val) ∧ Hid (OwnC wr (gl + 1) 3 (.slice An 128 cn) (ivals (numsQ b))) ∧ Hid (Blk wr gl 3 (icells (partF l (bkV L) X (6 + k))))) (fun z _ => 128 - (intOf z).toNat)
          case atStart => exact ⟨0, Nat.zero_le _, rfl, E6, HV6, HO6, HB6⟩
          case round =>
            obtain ⟨k, hk, rfl, E, HV, HO, HB⟩ := hrel
            clear E6 HV6 HO6 HB6
            by_cases hlt : k < 128
            · have d1 : decide ((k : Int) < 128) = true := by simp; omega
              have p0 : (0 : Int) ≤ (k : Int) := by omega
              have p1 : (k : Int) < 128 := by omega
              have q0 : (0 : Int) ≤ 6 + (k : Int) := by omega
              have q1 : 6 + (k : Int) < 134 := by omega
              have qt : (6 + (k : Int)).toNat = 6 + k := by omega
              have qw : IntKind.i64.wrap (6 + (k : Int)) = 6 + (k : Int) := IntWalk.i64_in _ (by omega)
              have HA := Lib.hid (HHk.out k)
              have HS := Lib.hid (HPS.out (6 + k) (by omega))
              have HE0 := Lib.hid (HPE.out (6 + k))
              have HPk := Lib.hid (HPL.out (6 + k))
              have hxb := (nmQ_in b k).2
              have HRn := Lib.hid HO.out.rc
              obtain ⟨ad, rfl, _⟩ := rc_nums HRn.out k hlt
              have Hcx := Lib.hid (fun w' (h : RC w' (some ad) (ivals (numsQ b))) => show w'.cell? (ad.add k) = some (.int .i64 (nmQ b k)) by
                obtain ⟨ad', e, hc⟩ := rc_nums h k hlt
                injection e with e
                subst e
                exact hc)
              rw [show 6 + k + 1 = 6 + (k + 1) from by omega] at HS HE0
              obtain ⟨P1, HP1⟩ : ∃ P1, Hid (partF l (bkV L) X (6 + (k + 1)) = P1) := ⟨_, Lib.hid rfl⟩
              rw [HP1.out] at HS HE0
              obtain ⟨P0, HP0'⟩ : ∃ P0, Hid (partF l (bkV L) X (6 + k) = P0) := ⟨_, Lib.hid rfl⟩
              rw [HP0'.out] at HS HE0 HPk HB
              generalize nmQ b k = x at *
              have Hxb := Lib.hid (show x < 9223372036854775808 by omega)
              clear hxb
              go_wp2_with fail
              refine WH.start (S := fun w' : World => Blk w' w.heap.size 26 l.val ∧ RC w' (some ad) (ivals (numsQ b))) [false, false, false, false, false, false] 6 rfl rfl (by kernel_rfl) ⟨HV.out.ext (bdrew wr 1), HRn.out.below (bdrew wr 1)⟩ (fun hSn => ?_); obtain ⟨wS, hwS⟩ : ∃ x, (wr).drew = x := ⟨_, rfl⟩; have HE := Lib.hid (show Below (wr).heap.size (wr) wS from hwS ▸ bdrew wr 1); rw [hwS] at hSn ⊢; clear hwS
              refine WH.tv 0 rfl (fun w' hSw => exec_load_blk _ _ rfl _ rfl _ _ (hSw.1) _ (Tryz.underlying26) rfl (Tryz.laySize)) ?_; simp only [setL]
              refine WH.tk 1 ?_; simp only [setL]
              refine WH.tk 2 ?_; simp only [setL]
              refine WH.tk 3 ?_; simp only [setL]
              refine WH.tv 4 rfl (fun w' hSw => exec_load_cell _ _ rfl (ad.add k) rfl (.int .i64 x) (Hcx.out _ hSw.2) _ Tryz.underlying3 rfl) ?_; simp only [setL]
              refine WH.only 5 _ rfl (by kernel_rfl) rfl (fun K hK => ?_)
              go_simp; refine (rdata_any l x Hxb.out _).mono ?_; rintro e wa ⟨rfl, hba⟩; go_simp
              have HE := Lib.hid (bt HE.out hba)
              have hSn := And.intro (hSn.1.ext hba) (hSn.2.below hba); refine hK _ _ hSn ?_; clear hK; clear K; simp only [setL]
              refine WH.done (by kernel_rfl) ?_
              have HVa := Lib.hid hSn.1
              have HOa := Lib.hid (HO.out.ext HE.out)
              have HBa := Lib.hid (HB.out.ext HE.out)
              have Ea := Lib.hid (bt E.out HE.out)
              have cx : wa.cell? (ad.add k) = some (.int .i64 x) := Hcx.out _ hSn.2
              clear hSn HE hba HV HO HB E HRn
              cases hdx : l.isD x
              · have HP := Lib.hid (HE0.out (by rw [HA.out]; exact HDn.out _ hdx))
                clear hdx HA HS HE0
                go_wp2_with fail
                go_roundw
                case rel => exact ⟨k + 1, by omega, by go_num, Ea, HVa, HOa, Lib.hid (by rw [HP1.out, ← HP.out]; exact HBa.out)⟩
                case measure => simp [intOf]; omega
              · have HP := Lib.hid (show P0.set (6 + k) x = P1 by rw [← HS.out, HA.out, HDy.out _ hdx])
                clear hdx HA HS HE0
                go_wp2_with (refine wpList_store_cell rfl _ _ _ rfl Tryz.intSz20 gl (6 + k) rfl (.int .i64 x) rfl rfl rfl _ _ HBa.out (by rw [icells_size, HPk.out]; omega) ?_)
                apply Stop.go; intro wb Hob Hbb
                have HBb := Lib.hid (show Blk wb gl 3 (icells P1) by
                  have h := Hbb.out
                  rw [icells_set, HP.out] at h
                  exact h)
                have HVb := Lib.hid (HVa.out.only Hob.out (by have := z3.out; omega))
                have HOb := Lib.hid (HOa.out.only Hob.out (by omega))
                have Eb := Lib.hid (bonly Ea.out Hob.out (by have := z3.out; omega))
                clear Hob Hbb HBa HVa HOa Ea cx
                go_wp2_with fail
                go_roundw
                case rel => exact ⟨k + 1, by omega, by go_num, Eb, HVb, HOb, Lib.hid (by rw [HP1.out]; exact HBb.out)⟩
                case measure => simp [intOf]; omega
            · obtain rfl : k = 128 := by omega
              have HB : Hid (Blk wr gl 3 (icells (allF l (bkV L) X))) := HB
              have HAL := Lib.hid (show (allF l (bkV L) X).length = 134 from allF_len)
              generalize allF l (bkV L) X = al at *
              have HOw := Lib.hid (OwnC.of_icells HB.out (show w.heap.size ≤ gl by have := z3.out; omega) (by rw [HAL.out]; unfold maxLen; omega))
              rw [HAL.out] at HOw
              go_wp2_with fail
              go_ret
              exact ⟨_, rfl, HOw.out, E.out⟩

set_option maxHeartbeats 3200000 in
theorem rix22_any (A : Option Addr) (n cap : Nat) (L : List (List UInt8)) (hn : L.length = n) (hL : Bks L) (hm : n ≤ maxLen) (l : Lay14) (hly : layW L = some l) (X : List Int) (hX : X.length = 11) (hXi : ∀ z ∈ X, z < 9223372036854775808) (w : World) (hr : RK w A L) :
    Calls Tryz.prog 10 #[.slice A n cap, .agg l.val, .agg (icells X)] w fun e w' => e = .returned (.tuple #[.agg (icells (ixD l (bkV L) X :: ixT l (bkV L) X)), .bool (isF l (bkV L) X)]) ∧ Below w.heap.size w w' := by
  have Hr := Lib.hid hr
  have HXL := Lib.hid hX
  obtain ⟨K, HK⟩ : ∃ K, Hid (fld X 0 = K) := ⟨_, Lib.hid rfl⟩
  obtain ⟨I, HI⟩ : ∃ I, Hid (fld X 4 = I) := ⟨_, Lib.hid rfl⟩
  have HIb := Lib.hid (show I < 9223372036854775808 by rw [← HI.out]; exact fld_in hXi 4)
  have HBk := Lib.hid (fun w h => rblock22_any A n cap L hn hL hm I w h)
  have HBL := Lib.hid (bkV_len hL I)
  obtain ⟨RD, HRD⟩ : ∃ RD, Hid (ixD l (bkV L) X = RD) := ⟨_, Lib.hid rfl⟩
  obtain ⟨RT, HRT⟩ : ∃ RT, Hid (ixT l (bkV L) X = RT) := ⟨_, Lib.hid rfl⟩
  obtain ⟨rb, HRB⟩ : ∃ rb, Hid (isF l (bkV L) X = rb) := ⟨_, Lib.hid rfl⟩
  have HOff := Lib.hid (fun h : K ≠ 2 ∨ l.isD I = false => show rb = false ∧ RD = 0 ∧ RT = zeroT by
    rw [← HRD.out, ← HRT.out, ← HRB.out]
    exact ix_off (by rw [HK.out, HI.out]; exact h))
  have HOn := Lib.hid (fun (h : K = 2) (hd : l.isD I = true) => show getB (bkV L I) = rb ∧ getD_ (bkV L I) = RD ∧ getT_ (bkV L I) = RT by
    have e := ix_on (l := l) (T := bkV L) (X := X) (by rw [HK.out]; exact h) (by rw [HI.out]; exact hd)
    rw [HI.out, vBk_is hly, HRD.out, HRT.out, HRB.out] at e
    exact ⟨e.1.symm, e.2.1.symm, e.2.2.symm⟩)
  have HzL := Lib.hid zeroT_len
  have HTL := Lib.hid (show RT.length = 32 by rw [← HRT.out]; exact ixT_len)
  rw [HRD.out, HRT.out, HRB.out]
  clear hr hX hXi hly HRD HRT HRB
  go_enter Tryz.func10, Tryz.ntmps10
  go_wp2_with (refine wpList_box_row rfl _ _ rfl _ rfl ?_)
  apply Stop.go; intro w1 Hg1 Hb1
  go_wp2_with (refine wpList_box_row rfl _ _ rfl _ rfl ?_)
  apply Stop.go; intro w2 Hg2 Hb2
  have HL2 := Lib.hid (Hb1.out.ext Hg2.out.1)
  have E2 := Lib.hid (bt Hg1.out.1 Hg2.out.1)
  have z2 := Lib.hid (show w.heap.size < w1.heap.size ∧ w1.heap.size < w2.heap.size by have := Hg1.out.2; have := Hg2.out.2; omega)
  generalize w1.heap.size = g5 at *
  clear Hg1 Hb1 Hg2
  go_wp2_with (refine wpList_alloc_row rfl _ rfl _ Tryz.rxZero ?_)
  apply Stop.go; intro w3 Hg3 Hb3
  have HL3 := Lib.hid (HL2.out.ext Hg3.out.1)
  have HX3 := Lib.hid (Hb2.out.ext Hg3.out.1)
  have E3 := Lib.hid (bt E2.out Hg3.out.1)
  have z3 := Lib.hid (show w.heap.size < w2.heap.size ∧ g5 < w2.heap.size by have := z2.out; omega)
  generalize w2.heap.size = gl at *
  clear Hg3 Hb2 HL2 E2 z2
  have c0 : w3.cell? ⟨g5, 0, none⟩ = some (.int .i64 K) := by rw [← HK.out]; exact HX3.out.fld 0 (by rw [HXL.out]; omega)
  by_cases hK : K = 2
  rotate_left
  · have d0 : (K != 2) = true := by simpa using hK
    obtain ⟨rfl, rfl, rfl⟩ := HOff.out (.inl hK)
    clear hK HOff HOn
    go_upto_region 2 with fail
    go_wp2_with (first | refine wpList_build_nil rfl _ rfl _ Tryz.rxBuilt0 ?_ | refine wpList_store_arr rfl _ _ _ rfl _ _ rfl rfl _ _ Hb3.out (Tryz.rxFits HzL.out) (icells_same HzL.out HzL.out) (oneCell_icells _) ?_)
    apply Stop.go; intro we Hoe Hbe
    go_wp2_with ((with_reducible show bodyPost _ _ _ _ _ _); refine bodyPost_struct_tmp rfl _ rfl _ _ Hbe.out _ Tryz.underlying46 rfl (Tryz.rxFits HzL.out) rfl _ rfl ?_)
    apply Stop.go
    exact bonly E3.out Hoe.out (by have := z3.out; omega)
  · have HOn1 := Lib.hid (HOn.out hK)
    have HOf1 := Lib.hid (fun h => HOff.out (.inr h))
    subst hK
    have d0 : ((2 : Int) != 2) = false := rfl
    clear HOff HOn
    have c4 : w3.cell? ⟨g5, 4, none⟩ = some (.int .i64 I) := by rw [← HI.out]; exact HX3.out.fld 4 (by rw [HXL.out]; omega)
    go_wp2_with (refine wpList_load_blk rfl _ _ rfl _ rfl _ _ HL3.out _ Tryz.underlying26 rfl Tryz.laySize ?_)
    refine (rdata_any l I HIb.out _).mono ?_; rintro e w4 ⟨rfl, hb4⟩
    have HX4 := Lib.hid (HX3.out.ext hb4)
    have HR4 := Lib.hid (Hb3.out.ext hb4)
    have E4 := Lib.hid (bt E3.out hb4)
    clear hb4 HL3 HX3 Hb3 E3 c0 c4
    cases hd : l.isD I
    · obtain ⟨rfl, rfl, rfl⟩ := HOf1.out hd
      clear hd HOf1 HOn1
      go_upto_region 2 with fail
      go_wp2_with (first | refine wpList_build_nil rfl _ rfl _ Tryz.rxBuilt0 ?_ | refine wpList_store_arr rfl _ _ _ rfl _ _ rfl rfl _ _ HR4.out (Tryz.rxFits HzL.out) (icells_same HzL.out HzL.out) (oneCell_icells _) ?_)
      apply Stop.go; intro we Hoe Hbe
      go_wp2_with ((with_reducible show bodyPost _ _ _ _ _ _); refine bodyPost_struct_tmp rfl _ rfl _ _ Hbe.out _ Tryz.underlying46 rfl (Tryz.rxFits HzL.out) rfl _ rfl ?_)
      apply Stop.go
      exact bonly E4.out Hoe.out (by have := z3.out; omega)
    · have HN := Lib.hid (HOn1.out hd)
      have c4 : w4.cell? ⟨g5, 4, none⟩ = some (.int .i64 I) := by rw [← HI.out]; exact HX4.out.fld 4 (by rw [HXL.out]; omega)
      clear hd HOf1 HOn1
      go_wp2_with fail
      refine (HBk.out _ (Hr.out.below E4.out)).mono ?_; rintro e w5 ⟨A5, rfl, hr5, hb5⟩
      have HR5 := Lib.hid (HR4.out.ext hb5)
      have Hr5 := Lib.hid hr5
      have E5 := Lib.hid (bt E4.out hb5)
      clear hr5 hb5 HX4 HR4 E4 c4
      generalize bkV L I = b at *
      go_wp2_with fail
      refine (rget19_any A5 256 b HBL.out _ Hr5.out).mono ?_; rintro e w6 ⟨rfl, hb6⟩
      rw [HN.out.1, HN.out.2.1, HN.out.2.2]
      have HR6 := Lib.hid (HR5.out.ext hb6)
      have E6 := Lib.hid (bt E5.out hb6)
      clear hb6 HR5 E5 Hr5
      go_wp2_with (refine wpList_store_arr rfl _ _ _ rfl _ _ rfl rfl _ _ HR6.out (Tryz.rxFits HTL.out) (icells_same HzL.out HTL.out) (oneCell_icells _) ?_)
      apply Stop.go; intro we Hoe Hbe
      go_wp2_with ((with_reducible show bodyPost _ _ _ _ _ _); refine bodyPost_struct_tmp rfl _ rfl _ _ Hbe.out _ Tryz.underlying46 rfl (Tryz.rxFits HTL.out) rfl _ rfl ?_)
      apply Stop.go
      exact bonly E6.out Hoe.out (by have := z3.out; omega)

theorem ixT_in {l : Lay14} {T : Int → List UInt8} {X : List Int} : ∀ z ∈ ixT l T X, z < 9223372036854775808 := by
  have hz : ∀ z ∈ zeroT, z < 9223372036854775808 := by decide
  unfold ixT
  split
  · unfold getT_
    split
    · intro z h
      unfold gotT gotX mapT at h
      obtain ⟨i, _, rfl⟩ := List.mem_map.1 h
      unfold gotF
      split
      · have := leV2_lt (vBk l T (fld X 4)) (32 + 2 * i)
        omega
      · decide
    · exact hz
  · exact hz
set_option maxHeartbeats 3200000 in
theorem rbuk22_any (A : Option Addr) (n cap : Nat) (L : List (List UInt8)) (hn : L.length = n) (hL : Bks L) (hm : n ≤ maxLen) (l : Lay14) (hly : layW L = some l) (X : List Int) (hX : X.length = 11) (hXi : ∀ z ∈ X, z < 9223372036854775808) (w : World) (hr : RK w A L) :
    Calls Tryz.prog 13 #[.slice A n cap, .agg l.val, .agg (icells X)] w (RetL w (bukF l (bkV L) X)) := by
  have Hr := Lib.hid hr
  have HXL := Lib.hid hX
  have HIx := Lib.hid (fun w h => rix22_any A n cap L hn hL hm l hly X hX hXi w h)
  obtain ⟨RD, HRD⟩ : ∃ RD, Hid (ixD l (bkV L) X = RD) := ⟨_, Lib.hid rfl⟩
  obtain ⟨RT, HRT⟩ : ∃ RT, Hid (ixT l (bkV L) X = RT) := ⟨_, Lib.hid rfl⟩
  obtain ⟨rb, HRB⟩ : ∃ rb, Hid (isF l (bkV L) X = rb) := ⟨_, Lib.hid rfl⟩
  obtain ⟨bs, HBs⟩ : ∃ bs, Hid (buckK RT (2 ^ dpN RD) = bs) := ⟨_, Lib.hid rfl⟩
  obtain ⟨tl, HTl⟩ : ∃ tl, Hid (bukF l (bkV L) X = tl) := ⟨_, Lib.hid rfl⟩
  have HU := Lib.hid (show tl = if rb then dataF l bs else [] by
    rw [← HTl.out, ← HBs.out, ← HRD.out, ← HRT.out, ← HRB.out]; rfl)
  have HzL := Lib.hid zeroT_len
  have HTL := Lib.hid (show RT.length = 32 by rw [← HRT.out]; exact ixT_len)
  have HBu := Lib.hid (fun w => rbuckets_any RD RT HTL.out w)
  have HKl := Lib.hid (show bs.length ≤ 32 by rw [← HBs.out]; exact Nat.le_trans (buckK_len RT _) (pow32 (dpN_le RD)))
  have HTi : ∀ z ∈ RT, z < 9223372036854775808 := by rw [← HRT.out]; exact ixT_in
  have HKi := Lib.hid (show ∀ k, fld bs k < 9223372036854775808 by
    rw [← HBs.out]
    refine fld_in fun z hz => ?_
    by_cases e : z = 0
    · subst e; decide
    · obtain ⟨i, _, rfl⟩ := (buckK_mem e).1 hz
      exact fld_in HTi i)
  rw [HRD.out, HRT.out, HRB.out] at HIx
  rw [HTl.out]
  rw [HBs.out] at HBu
  clear hr hX hXi hly HRD HRT HRB HTl HBs HTi
  go_enter Tryz.func13, Tryz.ntmps13
  go_wp2_with (refine wpList_box_row rfl _ _ rfl _ rfl ?_)
  apply Stop.go; intro w1 Hg1 Hb1
  go_wp2_with (refine wpList_box_row rfl _ _ rfl _ rfl ?_)
  apply Stop.go; intro w2 Hg2 Hb2
  have HL2 := Lib.hid (Hb1.out.ext Hg2.out.1)
  have E2 := Lib.hid (bt Hg1.out.1 Hg2.out.1)
  have z2 := Lib.hid (show w.heap.size < w1.heap.size ∧ w1.heap.size < w2.heap.size by have := Hg1.out.2; have := Hg2.out.2; omega)
  generalize w1.heap.size = g5 at *
  clear Hg1 Hb1 Hg2
  go_wp2_with (first | refine wpList_load_blk rfl _ _ rfl _ rfl _ _ HL2.out _ Tryz.underlying26 rfl Tryz.laySize ?_ | refine wpList_load_blk rfl _ _ rfl _ rfl _ _ Hb2.out _ Tryz.underlying39 rfl (Tryz.inoFits HXL.out) ?_)
  refine (HIx.out _ (Hr.out.below E2.out)).mono ?_; rintro e w3 ⟨rfl, hb3⟩
  have HL3 := Lib.hid (HL2.out.ext hb3)
  have E3 := Lib.hid (bt E2.out hb3)
  clear hb3 HL2 E2 Hb2
  go_wp2_with (refine wpList_alloc_row rfl _ rfl _ Tryz.rxZero ?_)
  apply Stop.go; intro w4 Hg4 Hb4
  have HL4 := Lib.hid (HL3.out.ext Hg4.out.1)
  have E4 := Lib.hid (bt E3.out Hg4.out.1)
  have z4 := Lib.hid (show w.heap.size < w3.heap.size by have := HL3.out.lt; omega)
  generalize w3.heap.size = gx at *
  clear Hg4 HL3 E3 z2
  go_wp2_with (refine wpList_store_arr rfl _ _ _ rfl _ _ rfl rfl _ _ Hb4.out (Tryz.rxFits HTL.out) (icells_same HzL.out HTL.out) (oneCell_icells _) ?_)
  apply Stop.go; intro w5 Ho5 Hb5
  have HL5 := Lib.hid (HL4.out.only Ho5.out (by have := z4.out; omega))
  have E5 := Lib.hid (bonly E4.out Ho5.out (by have := z4.out; omega))
  clear Ho5 Hb4 HL4 E4
  cases rb
  · obtain rfl : tl = [] := HU.out
    clear HU
    go_wp2_with fail
    go_ret
    exact ⟨_, rfl, OwnC.nil_ _ _ _, E5.out⟩
  · have HU1 := Lib.hid (show tl = dataF l bs from HU.out)
    clear HU
    go_wp2_with (refine wpList_load_blk rfl _ _ rfl _ rfl _ _ Hb5.out _ Tryz.underlying46 rfl (Tryz.rxFits HTL.out) ?_)
    refine (HBu.out _).mono ?_; rintro e w6 ⟨v6, rfl, hv6, hb6⟩
    have HL6 := Lib.hid (HL5.out.ext hb6)
    have E6 := Lib.hid (bt E5.out hb6)
    have HO6 := Lib.hid hv6
    clear hv6 hb6 HL5 Hb5 E5
    obtain ⟨Ab, cb, rfl, hcb, hmb, hrb⟩ := HO6.out.ints
    have HR6 := Lib.hid hrb
    obtain ⟨m, Hm⟩ : ∃ m, Hid (bs.length = m) := ⟨_, Lib.hid rfl⟩
    rw [Hm.out] at HKl ⊢
    clear hcb hmb hrb HO6
    have h32 := HKl.out
    go_wp2_with fail
    go_loopw [7, 11] (fun u z wr => ∃ k : Nat, k ≤ m ∧ z = .int .i64 k ∧ Hid (Below w6.heap.size w6 wr) ∧ Hid (OwnC wr w6.heap.size 3 u (ivals (dataF l (bs.take k))))) (fun _ z _ => m - (intOf z).toNat)
    case atStart => exact ⟨0, Nat.zero_le _, rfl, Lib.hid (Below.refl _ _), Lib.hid (OwnC.nil_ _ _ _)⟩
    case round =>
      obtain ⟨k, hk, rfl, E, HO⟩ := hrel
      by_cases hlt : k < m
      · have hkl : k < bs.length := by rw [Hm.out]; exact hlt
        have d1 : decide ((k : Int) < (m : Int)) = true := by simp; omega
        have p0 : (0 : Int) ≤ (k : Int) := by omega
        have p1 : (k : Int) < (m : Int) := by omega
        have HV := Lib.hid (HL6.out.ext E.out)
        have HRn := Lib.hid (HR6.out.below E.out)
        obtain ⟨ad, rfl, hcad⟩ := HRn.out.int k hkl
        have hfk : bs[k] = fld bs k := by
          have := fld_get bs k hkl
          rw [List.getElem?_eq_getElem hkl] at this
          exact Option.some.inj this
        have Hcx := Lib.hid (fun w' (h : RC w' (some ad) (ivals bs)) => show w'.cell? (ad.add k) = some (.int .i64 (fld bs k)) by
          obtain ⟨ad', e, hc⟩ := h.int k hkl
          injection e with e
          subst e
          rw [← hfk]
          exact hc)
        have HNx := Lib.hid (dataF_next (l := l) hkl)
        have HLn := Lib.hid (show (dataF l (bs.take k)).length ≤ k from Nat.le_trans (dataF_len _ _) (by rw [List.length_take]; omega))
        have Hxb := Lib.hid (HKi.out k)
        have Z := Lib.hid E.out.size
        generalize fld bs k = x at *
        clear hcad hfk hkl
        go_wp2_with fail
        refine WH.start (S := fun w' : World => Blk w' w.heap.size 26 l.val ∧ RC w' (some ad) (ivals bs)) [false, false, false, false, false, false] 6 rfl rfl (by kernel_rfl) ⟨HV.out.ext (bdrew wr 1), HRn.out.below (bdrew wr 1)⟩ (fun hSn => ?_); obtain ⟨wS, hwS⟩ : ∃ x, (wr).drew = x := ⟨_, rfl⟩; have HE := Lib.hid (show Below (wr).heap.size (wr) wS from hwS ▸ bdrew wr 1); rw [hwS] at hSn ⊢; clear hwS
        refine WH.tv 0 rfl (fun w' hSw => exec_load_blk _ _ rfl _ rfl _ _ (hSw.1) _ (Tryz.underlying26) rfl (Tryz.laySize)) ?_; simp only [setL]
        refine WH.tk 1 ?_; simp only [setL]
        refine WH.tk 2 ?_; simp only [setL]
        refine WH.tk 3 ?_; simp only [setL]
        refine WH.tv 4 rfl (fun w' hSw => exec_load_cell _ _ rfl (ad.add k) rfl (.int .i64 x) (Hcx.out _ hSw.2) _ Tryz.underlying3 rfl) ?_; simp only [setL]
        refine WH.only 5 _ rfl (by kernel_rfl) rfl (fun K hK => ?_)
        go_simp; refine (rdata_any l x Hxb.out _).mono ?_; rintro e wa ⟨rfl, hba⟩; go_simp
        have HE := Lib.hid (bt HE.out hba)
        have hSn := And.intro (hSn.1.ext hba) (hSn.2.below hba); refine hK _ _ hSn ?_; clear hK; clear K; simp only [setL]
        refine WH.done (by kernel_rfl) ?_
        have HOa := Lib.hid (HO.out.ext HE.out)
        have Ea := Lib.hid (bt E.out HE.out)
        have Za := Lib.hid Ea.out.size
        have cx : wa.cell? (ad.add k) = some (.int .i64 x) := Hcx.out _ hSn.2
        clear hSn HE hba HV HO E HRn Z
        cases hdx : l.isD x
        · have HN := Lib.hid (show dataF l (bs.take (k + 1)) = dataF l (bs.take k) by rw [HNx.out, hdx]; rfl)
          clear hdx HNx
          go_wp2_with fail
          go_roundw
          case rel => exact ⟨k + 1, by omega, by go_num, Ea, Lib.hid (by rw [HN.out]; exact HOa.out)⟩
          case measure => simp [intOf]; omega
        · have HN := Lib.hid (show dataF l (bs.take (k + 1)) = dataF l (bs.take k) ++ [x] by rw [HNx.out, hdx]; rfl)
          have hl1 : (ivals (dataF l (bs.take k))).length + 1 ≤ maxLen := by rw [ivals_len]; unfold maxLen; have := HLn.out; omega
          have hl2 : ((ivals (dataF l (bs.take k))).length + 1) * 8 ≤ 140737488355328 := by rw [ivals_len]; have := HLn.out; omega
          clear hdx HNx
          go_wp2_with (at_builtin; refine wpList_append_one rfl _ _ _ _ rfl Tryz.underlying50 (.int .i64 0) 8 Tryz.intInfo rfl w6.heap.size _ _ rfl HOa.out (.int .i64 x) rfl rfl Za.out hl1 hl2 ?_)
          apply Stop.go
          intro v' wb Hv' Ha'
          have HO3 := Lib.hid (show OwnC wb w6.heap.size 3 v' (ivals (dataF l (bs.take (k + 1)))) by rw [HN.out, ← ivals_snoc]; exact Hv'.out)
          have E3 := Lib.hid (Ea.out.trans Ha'.out.below)
          clear Hv' Ha' HOa Ea hl1 hl2 HLn cx Za
          go_wp2_with fail
          go_roundw
          case rel => exact ⟨k + 1, by omega, by go_num, E3, HO3⟩
          case measure => simp [intOf]; omega
      · obtain rfl : k = m := by omega
        have d1 : decide ((k : Int) < (k : Int)) = false := by simp
        rw [List.take_of_length_le (by rw [Hm.out]; omega), ← HU1.out] at HO
        go_wp2_with fail
        go_ret
        exact ⟨_, rfl, HO.out.low (E6.out.size), bt E6.out E.out⟩

theorem ivals_app (s t : List Int) : ivals s ++ ivals t = ivals (s ++ t) := by unfold ivals; rw [List.map_append]
set_option maxHeartbeats 3200000 in
theorem rown22_any (A : Option Addr) (n cap : Nat) (L : List (List UInt8)) (hn : L.length = n) (hL : Bks L) (hm : n ≤ maxLen) (l : Lay14) (hly : layW L = some l) (X : List Int) (hX : X.length = 11) (hXi : ∀ z ∈ X, z < 9223372036854775808) (w : World) (hr : RK w A L) :
    Calls Tryz.prog 15 #[.slice A n cap, .agg l.val, .agg (icells X)] w (RetL w (ownF l (bkV L) X)) := by
  have Hr := Lib.hid hr
  have HXL := Lib.hid hX
  have HIx := Lib.hid (fun w h => rix22_any A n cap L hn hL hm l hly X hX hXi w h)
  have HBk := Lib.hid (fun w h => rbuk22_any A n cap L hn hL hm l hly X hX hXi w h)
  have HAl := Lib.hid (fun w h => rall_any A n cap L hn hL hm l hly X hX hXi w h)
  obtain ⟨K, HK⟩ : ∃ K, Hid (fld X 0 = K) := ⟨_, Lib.hid rfl⟩
  obtain ⟨I, HI⟩ : ∃ I, Hid (fld X 10 = I) := ⟨_, Lib.hid rfl⟩
  obtain ⟨F4, HF⟩ : ∃ F4, Hid (fld X 4 = F4) := ⟨_, Lib.hid rfl⟩
  have HIb := Lib.hid (show I < 9223372036854775808 by rw [← HI.out]; exact fld_in hXi 10)
  obtain ⟨RD, HRD⟩ : ∃ RD, Hid (ixD l (bkV L) X = RD) := ⟨_, Lib.hid rfl⟩
  obtain ⟨RT, HRT⟩ : ∃ RT, Hid (ixT l (bkV L) X = RT) := ⟨_, Lib.hid rfl⟩
  obtain ⟨rb, HRB⟩ : ∃ rb, Hid (isF l (bkV L) X = rb) := ⟨_, Lib.hid rfl⟩
  obtain ⟨bk, HBL⟩ : ∃ bk, Hid (bukF l (bkV L) X = bk) := ⟨_, Lib.hid rfl⟩
  obtain ⟨al, HAL⟩ : ∃ al, Hid (allF l (bkV L) X = al) := ⟨_, Lib.hid rfl⟩
  obtain ⟨tl, HTl⟩ : ∃ tl, Hid (ownF l (bkV L) X = tl) := ⟨_, Lib.hid rfl⟩
  have HzL := Lib.hid zeroT_len
  have HTL := Lib.hid (show RT.length = 32 by rw [← HRT.out]; exact ixT_len)
  have HBl := Lib.hid (show bk.length ≤ 32 by rw [← HBL.out]; exact bukF_len)
  have HAll := Lib.hid (show al.length = 134 by rw [← HAL.out]; exact allF_len)
  have H2 := Lib.hid (fun h : K = 2 => show tl = (if rb then [F4] else []) ++ bk by
    rw [← HTl.out, ← HRB.out, ← HF.out, ← HBL.out]
    unfold ownF
    rw [if_pos (by rw [HK.out]; exact h)])
  have H1 := Lib.hid (fun (h : K = 1) (hd : l.isD I = true) => show tl = (someF (al.take 6) ++ [I]) ++ someF (al.drop 6) by
    rw [← HTl.out, ← HAL.out]
    unfold ownF indF
    rw [if_neg (by rw [HK.out]; omega), HK.out, HI.out, hd, decide_eq_true h, List.append_assoc]
    rfl)
  have H0 := Lib.hid (fun (h : K ≠ 2) (hd : K ≠ 1 ∨ l.isD I = false) => show tl = someF (al.take 6) ++ someF (al.drop 6) by
    rw [← HTl.out, ← HAL.out]
    unfold ownF indF
    rw [if_neg (by rw [HK.out]; exact h), HK.out, HI.out, show (decide (K = 1) && l.isD I) = false from by rcases hd with hd | hd <;> simp [hd]]
    rfl)
  rw [HRD.out, HRT.out, HRB.out] at HIx
  rw [HBL.out] at HBk
  rw [HAL.out] at HAl
  rw [HTl.out]
  clear hr hX hXi hly HRD HRT HRB HBL HAL HTl
  go_enter Tryz.func15, Tryz.ntmps15
  go_wp2_with (refine wpList_box_row rfl _ _ rfl _ rfl ?_)
  apply Stop.go; intro w1 Hg1 Hb1
  go_wp2_with (refine wpList_box_row rfl _ _ rfl _ rfl ?_)
  apply Stop.go; intro w2 Hg2 Hb2
  have HL2 := Lib.hid (Hb1.out.ext Hg2.out.1)
  have E2 := Lib.hid (bt Hg1.out.1 Hg2.out.1)
  have z2 := Lib.hid (show w.heap.size < w1.heap.size ∧ w1.heap.size < w2.heap.size by have := Hg1.out.2; have := Hg2.out.2; omega)
  generalize w1.heap.size = g5 at *
  clear Hg1 Hb1 Hg2
  have c0 : w2.cell? ⟨g5, 0, none⟩ = some (.int .i64 K) := by rw [← HK.out]; exact Hb2.out.fld 0 (by rw [HXL.out]; omega)
  by_cases hK : K = 2
  · have d0 : (K == 2) = true := by simpa using hK
    have HT := Lib.hid (H2.out hK)
    clear hK H2 H1 H0
    go_wp2_with (first | refine wpList_load_blk rfl _ _ rfl _ rfl _ _ HL2.out _ Tryz.underlying26 rfl Tryz.laySize ?_ | refine wpList_load_blk rfl _ _ rfl _ rfl _ _ Hb2.out _ Tryz.underlying39 rfl (Tryz.inoFits HXL.out) ?_)
    refine (HIx.out _ (Hr.out.below E2.out)).mono ?_; rintro e w3 ⟨rfl, hb3⟩
    have HL3 := Lib.hid (HL2.out.ext hb3)
    have HX3 := Lib.hid (Hb2.out.ext hb3)
    have E3 := Lib.hid (bt E2.out hb3)
    clear hb3 HL2 E2 Hb2 c0
    go_wp2_with (refine wpList_alloc_row rfl _ rfl _ Tryz.rxZero ?_)
    apply Stop.go; intro w4 Hg4 Hb4
    have HL4 := Lib.hid (HL3.out.ext Hg4.out.1)
    have HX4 := Lib.hid (HX3.out.ext Hg4.out.1)
    have E4 := Lib.hid (bt E3.out Hg4.out.1)
    have z4 := Lib.hid (show w.heap.size < w3.heap.size ∧ g5 < w3.heap.size by have := HL3.out.lt; have := HX3.out.lt; omega)
    generalize w3.heap.size = gx at *
    clear Hg4 HL3 HX3 E3 z2
    go_wp2_with (refine wpList_store_arr rfl _ _ _ rfl _ _ rfl rfl _ _ Hb4.out (Tryz.rxFits HTL.out) (icells_same HzL.out HTL.out) (oneCell_icells _) ?_)
    apply Stop.go; intro w5 Ho5 Hb5
    have HL5 := Lib.hid (HL4.out.only Ho5.out (by have := z4.out; omega))
    have HX5 := Lib.hid (HX4.out.only Ho5.out (by have := z4.out; omega))
    have E5 := Lib.hid (bonly E4.out Ho5.out (by have := z4.out; omega))
    clear Ho5 Hb4 HL4 HX4 E4 Hb5
    cases rb
    · have HT1 := Lib.hid (show tl = [] ++ bk from HT.out)
      clear HT
      have HOz : Hid (OwnC w5 w5.heap.size 3 (.slice none 0 0) (ivals [])) := Lib.hid (OwnC.nil_ _ _ _)
      have Ez := Lib.hid (Below.refl w5.heap.size w5)
      have HLz := Lib.hid (HL5.out.ext Ez.out)
      have HXz := Lib.hid (HX5.out.ext Ez.out)
      go_wp2_with (first | refine wpList_load_blk rfl _ _ rfl _ rfl _ _ HLz.out _ Tryz.underlying26 rfl Tryz.laySize ?_ | refine wpList_load_blk rfl _ _ rfl _ rfl _ _ HXz.out _ Tryz.underlying39 rfl (Tryz.inoFits HXL.out) ?_)
      refine (HBk.out _ (Hr.out.below (bt E5.out Ez.out))).mono ?_; rintro e wy ⟨vy, rfl, hvy, hby⟩
      have HOy := Lib.hid (HOz.out.ext hby)
      have Ey := Lib.hid (bt Ez.out hby)
      obtain ⟨Ay, cy, rfl, hcy, hmy, hry⟩ := hvy.ints
      have HRy := Lib.hid hry
      obtain ⟨mb, Hmb⟩ : ∃ mb, Hid (bk.length = mb) := ⟨_, Lib.hid rfl⟩
      rw [Hmb.out] at HBl ⊢
      have hq1 : (ivals ([] : List Int)).length + mb ≤ maxLen := by rw [ivals_len]; unfold maxLen; have := HBl.out; simp only [List.length_nil]; omega
      have hq2 : ((ivals ([] : List Int)).length + mb) * 8 ≤ 140737488355328 := by rw [ivals_len]; have := HBl.out; simp only [List.length_nil]; omega
      clear hcy hmy hry hvy hby HLz HXz HL5 HX5 HOz
      go_wp2_with (at_builtin; refine wpList_append_many rfl _ _ _ _ rfl Tryz.underlying50 (.int .i64 0) 8 Tryz.intInfo rfl w5.heap.size _ _ rfl HOy.out Ay mb cy (ivals bk) rfl (by rw [ivals_len]; exact Hmb.out) HRy.out (ivals_one _) Ey.out.size hq1 hq2 ?_)
      apply Stop.go
      intro v' w6 Hv' Ha'
      have D6 := Lib.hid (Ey.out.grown Ha'.out Ey.out.size fun k hk => (HOy.out.lt k hk).1)
      have HO6 := Lib.hid (show OwnC w6 w.heap.size 3 v' (ivals tl) by
        have h := Hv'.out
        rw [ivals_app, ← HT1.out] at h
        exact h.low E5.out.size)
      clear Hv' Ha'
      go_wp2_with fail
      go_ret
      exact ⟨_, rfl, HO6.out, bt E5.out D6.out⟩
    · have HT1 := Lib.hid (show tl = [F4] ++ bk from HT.out)
      clear HT
      have c4 : w5.cell? ⟨g5, 4, none⟩ = some (.int .i64 F4) := by rw [← HF.out]; exact HX5.out.fld 4 (by rw [HXL.out]; omega)
      go_wp2_with (at_builtin; refine wpList_append_one rfl _ _ _ _ rfl Tryz.underlying50 (.int .i64 0) 8 Tryz.intInfo rfl w5.heap.size _ [] rfl (OwnC.nil_ _ _ _) (.int .i64 F4) rfl rfl (Nat.le_refl _) (by unfold maxLen; simp) (by simp) ?_)
      apply Stop.go
      intro vz wz Hv' Ha'
      have HOz : Hid (OwnC wz w5.heap.size 3 vz (ivals [F4])) := Lib.hid Hv'.out
      have Ez := Lib.hid ((Below.refl w5.heap.size w5).trans Ha'.out.below)
      clear c4 Hv' Ha'
      have HLz := Lib.hid (HL5.out.ext Ez.out)
      have HXz := Lib.hid (HX5.out.ext Ez.out)
      go_wp2_with (first | refine wpList_load_blk rfl _ _ rfl _ rfl _ _ HLz.out _ Tryz.underlying26 rfl Tryz.laySize ?_ | refine wpList_load_blk rfl _ _ rfl _ rfl _ _ HXz.out _ Tryz.underlying39 rfl (Tryz.inoFits HXL.out) ?_)
      refine (HBk.out _ (Hr.out.below (bt E5.out Ez.out))).mono ?_; rintro e wy ⟨vy, rfl, hvy, hby⟩
      have HOy := Lib.hid (HOz.out.ext hby)
      have Ey := Lib.hid (bt Ez.out hby)
      obtain ⟨Ay, cy, rfl, hcy, hmy, hry⟩ := hvy.ints
      have HRy := Lib.hid hry
      obtain ⟨mb, Hmb⟩ : ∃ mb, Hid (bk.length = mb) := ⟨_, Lib.hid rfl⟩
      rw [Hmb.out] at HBl ⊢
      have hq1 : (ivals [F4]).length + mb ≤ maxLen := by rw [ivals_len]; unfold maxLen; have := HBl.out; simp only [List.length_nil, List.length_cons]; omega
      have hq2 : ((ivals [F4]).length + mb) * 8 ≤ 140737488355328 := by rw [ivals_len]; have := HBl.out; simp only [List.length_nil, List.length_cons]; omega
      clear hcy hmy hry hvy hby HLz HXz HL5 HX5 HOz
      go_wp2_with (at_builtin; refine wpList_append_many rfl _ _ _ _ rfl Tryz.underlying50 (.int .i64 0) 8 Tryz.intInfo rfl w5.heap.size _ _ rfl HOy.out Ay mb cy (ivals bk) rfl (by rw [ivals_len]; exact Hmb.out) HRy.out (ivals_one _) Ey.out.size hq1 hq2 ?_)
      apply Stop.go
      intro v' w6 Hv' Ha'
      have D6 := Lib.hid (Ey.out.grown Ha'.out Ey.out.size fun k hk => (HOy.out.lt k hk).1)
      have HO6 := Lib.hid (show OwnC w6 w.heap.size 3 v' (ivals tl) by
        have h := Hv'.out
        rw [ivals_app, ← HT1.out] at h
        exact h.low E5.out.size)
      clear Hv' Ha'
      go_wp2_with fail
      go_ret
      exact ⟨_, rfl, HO6.out, bt E5.out D6.out⟩
  · have d0 : (K == 2) = false := by simpa using hK
    have HT0 := Lib.hid (H0.out hK)
    clear H2 H0
    go_wp2_with (first | refine wpList_load_blk rfl _ _ rfl _ rfl _ _ HL2.out _ Tryz.underlying26 rfl Tryz.laySize ?_ | refine wpList_load_blk rfl _ _ rfl _ rfl _ _ Hb2.out _ Tryz.underlying39 rfl (Tryz.inoFits HXL.out) ?_)
    refine (HAl.out _ (Hr.out.below E2.out)).mono ?_; rintro e w3 ⟨v3, rfl, hv3, hb3⟩
    have HL3 := Lib.hid (HL2.out.ext hb3)
    have HX3 := Lib.hid (Hb2.out.ext hb3)
    have E3 := Lib.hid (bt E2.out hb3)
    obtain ⟨A3, c3, rfl, hc3, hm3, hr3⟩ := hv3.ints
    rw [HAll.out] at hc3 ⊢
    obtain ⟨ad, rfl⟩ : ∃ ad, A3 = some ad := by
      obtain ⟨ad, e, _⟩ := hr3.int 0 (by rw [HAll.out]; omega)
      exact ⟨ad, e⟩
    have HR3 := Lib.hid hr3
    have Hc3 := Lib.hid hc3
    obtain ⟨c', Hc'⟩ : ∃ c', Hid (c3 = 6 + c') := ⟨c3 - 6, Lib.hid (by omega)⟩
    obtain ⟨s1, Hs1⟩ : ∃ s1, Hid (someF (al.take 6) = s1) := ⟨_, Lib.hid rfl⟩
    obtain ⟨s2, Hs2⟩ : ∃ s2, Hid (someF (al.drop 6) = s2) := ⟨_, Lib.hid rfl⟩
    have Hl1 := Lib.hid (show s1.length ≤ 6 by rw [← Hs1.out]; exact Nat.le_trans (someF_len _) (by rw [List.length_take]; omega))
    have Hl2 := Lib.hid (show s2.length ≤ 128 by rw [← Hs2.out]; exact Nat.le_trans (someF_len _) (by rw [List.length_drop, HAll.out]; omega))
    rw [Hs1.out, Hs2.out] at HT0 H1
    clear hv3 hb3 hc3 hm3 hr3 HL2 E2 Hb2 c0 z2
    go_wp2_with (refine wpList_slice_upto rfl _ _ _ rfl _ Tryz.underlying50 Tryz.intSz20 ad 134 c3 rfl .i64 6 rfl 6 rfl (by have := Hc3.out; omega) (by have := Hc3.out; omega) ?_)
    refine (rsome_any (some ad) 6 c3 (al.take 6) (by simp [HAll.out]) (by omega) _ (HR3.out.takeI 6)).mono ?_; rintro e w4 ⟨v4, rfl, hv4, hb4⟩
    rw [Hs1.out] at hv4
    have HOz := Lib.hid hv4
    have EZ := Lib.hid hb4
    have HL4 := Lib.hid (HL3.out.ext hb4)
    have HX4 := Lib.hid (HX3.out.ext hb4)
    clear hv4 hb4 HL3 HX3 Hs1
    have c0 : w4.cell? ⟨g5, 0, none⟩ = some (.int .i64 K) := by rw [← HK.out]; exact HX4.out.fld 0 (by rw [HXL.out]; omega)
    by_cases hK1 : K = 1
    · have d1 : (K == 1) = true := by simpa using hK1
      have HT0 := Lib.hid (fun hd => HT0.out (.inr hd))
      have H1 := Lib.hid (H1.out hK1)
      have c10 : w4.cell? ⟨g5, 10, none⟩ = some (.int .i64 I) := by rw [← HI.out]; exact HX4.out.fld 10 (by rw [HXL.out]; omega)
      clear hK1 hK
      go_wp2_with (refine wpList_load_blk rfl _ _ rfl _ rfl _ _ HL4.out _ Tryz.underlying26 rfl Tryz.laySize ?_)
      refine (rdata_any l I HIb.out _).mono ?_; rintro e w5 ⟨rfl, hb5⟩
      have HX5 := Lib.hid (HX4.out.ext hb5)
      have HOz := Lib.hid (HOz.out.ext hb5)
      have EZ := Lib.hid (bt EZ.out hb5)
      clear hb5 HL4 HX4 c0 c10
      cases hd : l.isD I
      · have HT1 := Lib.hid (HT0.out hd)
        have Hls := Lib.hid (show s1.length ≤ 7 by have := Hl1.out; omega)
        clear hd HT0 H1
        go_wp2_with (refine wpList_slice_off rfl _ _ _ rfl _ Tryz.underlying50 Tryz.intSz20 ad 134 c3 rfl .i64 6 rfl 6 rfl (by omega) Hc3.out 128 c' rfl Hc'.out ?_)
        refine (rsome_any (some (ad.add 6)) 128 c' (al.drop 6) (by simp [HAll.out]) (by omega) _ ((HR3.out.below EZ.out).dropI 6)).mono ?_; rintro e wy ⟨vy, rfl, hvy, hby⟩
        rw [Hs2.out] at hvy
        have HOy := Lib.hid (HOz.out.ext hby)
        have Ey := Lib.hid (bt EZ.out hby)
        obtain ⟨Ay, cy, rfl, hcy, hmy, hry⟩ := hvy.ints
        have HRy := Lib.hid hry
        obtain ⟨mb, Hmb⟩ : ∃ mb, Hid (s2.length = mb) := ⟨_, Lib.hid rfl⟩
        rw [Hmb.out] at Hl2 ⊢
        clear hcy hmy hry hvy hby HOz
        go_wp2_with (at_builtin; refine wpList_append_many rfl _ _ _ _ rfl Tryz.underlying50 (.int .i64 0) 8 Tryz.intInfo rfl w3.heap.size _ _ rfl HOy.out Ay mb cy (ivals s2) rfl (by rw [ivals_len]; exact Hmb.out) HRy.out (ivals_one _) Ey.out.size (by rw [ivals_len]; unfold maxLen; have := Hl2.out; have := Hls.out; omega) (by rw [ivals_len]; have := Hl2.out; have := Hls.out; omega) ?_)
        apply Stop.go
        intro v' w6 Hv' Ha'
        have D6 := Lib.hid (Ey.out.grown Ha'.out Ey.out.size fun k hk => (HOy.out.lt k hk).1)
        have HO6 := Lib.hid (show OwnC w6 w.heap.size 3 v' (ivals tl) by
          have h := Hv'.out
          rw [ivals_app, ← HT1.out] at h
          exact h.low E3.out.size)
        clear Hv' Ha'
        go_wp2_with fail
        go_ret
        exact ⟨_, rfl, HO6.out, bt E3.out D6.out⟩
      · have HT1 := Lib.hid (H1.out hd)
        have c10 : w5.cell? ⟨g5, 10, none⟩ = some (.int .i64 I) := by rw [← HI.out]; exact HX5.out.fld 10 (by rw [HXL.out]; omega)
        have hl1 : (ivals s1).length + 1 ≤ maxLen := by rw [ivals_len]; unfold maxLen; have := Hl1.out; omega
        have hl2 : ((ivals s1).length + 1) * 8 ≤ 140737488355328 := by rw [ivals_len]; have := Hl1.out; omega
        have Z := Lib.hid EZ.out.size
        clear hd HT0 H1
        go_wp2_with (at_builtin; refine wpList_append_one rfl _ _ _ _ rfl Tryz.underlying50 (.int .i64 0) 8 Tryz.intInfo rfl w3.heap.size _ _ rfl HOz.out (.int .i64 I) rfl rfl Z.out hl1 hl2 ?_)
        apply Stop.go
        intro vz wz Hv' Ha'
        have Hls := Lib.hid (show (s1 ++ [I]).length ≤ 7 by rw [List.length_append]; have := Hl1.out; simp; omega)
        have HOz := Lib.hid (show OwnC wz w3.heap.size 3 vz (ivals (s1 ++ [I])) by rw [← ivals_snoc]; exact Hv'.out)
        have EZ := Lib.hid (EZ.out.trans Ha'.out.below)
        clear Hv' Ha' hl1 hl2 Z c10 HX5
        go_wp2_with (refine wpList_slice_off rfl _ _ _ rfl _ Tryz.underlying50 Tryz.intSz20 ad 134 c3 rfl .i64 6 rfl 6 rfl (by omega) Hc3.out 128 c' rfl Hc'.out ?_)
        refine (rsome_any (some (ad.add 6)) 128 c' (al.drop 6) (by simp [HAll.out]) (by omega) _ ((HR3.out.below EZ.out).dropI 6)).mono ?_; rintro e wy ⟨vy, rfl, hvy, hby⟩
        rw [Hs2.out] at hvy
        have HOy := Lib.hid (HOz.out.ext hby)
        have Ey := Lib.hid (bt EZ.out hby)
        obtain ⟨Ay, cy, rfl, hcy, hmy, hry⟩ := hvy.ints
        have HRy := Lib.hid hry
        obtain ⟨mb, Hmb⟩ : ∃ mb, Hid (s2.length = mb) := ⟨_, Lib.hid rfl⟩
        rw [Hmb.out] at Hl2 ⊢
        clear hcy hmy hry hvy hby HOz
        go_wp2_with (at_builtin; refine wpList_append_many rfl _ _ _ _ rfl Tryz.underlying50 (.int .i64 0) 8 Tryz.intInfo rfl w3.heap.size _ _ rfl HOy.out Ay mb cy (ivals s2) rfl (by rw [ivals_len]; exact Hmb.out) HRy.out (ivals_one _) Ey.out.size (by rw [ivals_len]; unfold maxLen; have := Hl2.out; have := Hls.out; omega) (by rw [ivals_len]; have := Hl2.out; have := Hls.out; omega) ?_)
        apply Stop.go
        intro v' w6 Hv' Ha'
        have D6 := Lib.hid (Ey.out.grown Ha'.out Ey.out.size fun k hk => (HOy.out.lt k hk).1)
        have HO6 := Lib.hid (show OwnC w6 w.heap.size 3 v' (ivals tl) by
          have h := Hv'.out
          rw [ivals_app, ← HT1.out] at h
          exact h.low E3.out.size)
        clear Hv' Ha'
        go_wp2_with fail
        go_ret
        exact ⟨_, rfl, HO6.out, bt E3.out D6.out⟩
    · have d1 : (K == 1) = false := by simpa using hK1
      have HT1 := Lib.hid (HT0.out (.inl hK1))
      have Hls := Lib.hid (show s1.length ≤ 7 by have := Hl1.out; omega)
      clear hK1 hK HT0 H1
      go_wp2_with (refine wpList_slice_off rfl _ _ _ rfl _ Tryz.underlying50 Tryz.intSz20 ad 134 c3 rfl .i64 6 rfl 6 rfl (by omega) Hc3.out 128 c' rfl Hc'.out ?_)
      refine (rsome_any (some (ad.add 6)) 128 c' (al.drop 6) (by simp [HAll.out]) (by omega) _ ((HR3.out.below EZ.out).dropI 6)).mono ?_; rintro e wy ⟨vy, rfl, hvy, hby⟩
      rw [Hs2.out] at hvy
      have HOy := Lib.hid (HOz.out.ext hby)
      have Ey := Lib.hid (bt EZ.out hby)
      obtain ⟨Ay, cy, rfl, hcy, hmy, hry⟩ := hvy.ints
      have HRy := Lib.hid hry
      obtain ⟨mb, Hmb⟩ : ∃ mb, Hid (s2.length = mb) := ⟨_, Lib.hid rfl⟩
      rw [Hmb.out] at Hl2 ⊢
      clear hcy hmy hry hvy hby HOz
      go_wp2_with (at_builtin; refine wpList_append_many rfl _ _ _ _ rfl Tryz.underlying50 (.int .i64 0) 8 Tryz.intInfo rfl w3.heap.size _ _ rfl HOy.out Ay mb cy (ivals s2) rfl (by rw [ivals_len]; exact Hmb.out) HRy.out (ivals_one _) Ey.out.size (by rw [ivals_len]; unfold maxLen; have := Hl2.out; have := Hls.out; omega) (by rw [ivals_len]; have := Hl2.out; have := Hls.out; omega) ?_)
      apply Stop.go
      intro v' w6 Hv' Ha'
      have D6 := Lib.hid (Ey.out.grown Ha'.out Ey.out.size fun k hk => (HOy.out.lt k hk).1)
      have HO6 := Lib.hid (show OwnC w6 w.heap.size 3 v' (ivals tl) by
        have h := Hv'.out
        rw [ivals_app, ← HT1.out] at h
        exact h.low E3.out.size)
      clear Hv' Ha'
      go_wp2_with fail
      go_ret
      exact ⟨_, rfl, HO6.out, bt E3.out D6.out⟩

end Go.Proofs.YtcdbligdcikphaaGreat
