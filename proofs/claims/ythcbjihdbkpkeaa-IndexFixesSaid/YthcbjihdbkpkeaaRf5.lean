/-
  Contracts of the document's answer 19: Fix, Right.
-/
import Derived.Test.YthcbjihdbkpkeaaRf4
namespace Go.Proofs.Ythcbjihdbkpkeaa
open Go.RowKit

/-- The document's way: what is kept of the first k places, and noughts. -/
def docF (D : Nat) (t : List Int) (k i : Nat) : Int := if i < k then (if keepB D t i then fld t i else 0) else 0
def docK (D : Nat) (t : List Int) (k : Nat) : List Int := mapT (docF D t k)
theorem docK_len (D : Nat) (t : List Int) (k : Nat) : (docK D t k).length = 32 := mapT_len _
theorem docK_zero (D : Nat) (t : List Int) : docK D t 0 = zeroT := by
  unfold docK zeroT docF
  simp
theorem docK_end (D : Nat) (t : List Int) : docK D t (2 ^ D) = xfixT D t := by
  refine ext32 (mapT_len _) (xfixT_len _ _) fun i hi => ?_
  unfold docK
  rw [mapT_at _ i hi, xfixT_at D t i hi]
  rfl
theorem docK_skip {D : Nat} {t : List Int} {k : Nat} (h : fld t k = 0 ∨ keepB D t k = false) : docK D t (k + 1) = docK D t k := by
  refine ext32 (mapT_len _) (mapT_len _) fun i hi => ?_
  unfold docK
  rw [mapT_at _ i hi, mapT_at _ i hi]
  unfold docF
  by_cases e : i = k
  · subst e
    rw [if_pos (show i < i + 1 by omega), if_neg (show ¬ i < i by omega)]
    rcases h with h | h
    · rw [h]; simp
    · rw [h]; rfl
  · simp only [show i < k + 1 ↔ i < k by omega]
theorem docK_put {D : Nat} {t : List Int} {k : Nat} (hk : k < 32) (h : keepB D t k = true) : (docK D t k).set k (fld t k) = docK D t (k + 1) := by
  refine mapT_set _ _ k _ hk fun i _ => ?_
  unfold docF
  by_cases e : i = k
  · subst e
    rw [if_pos (show i < i + 1 by omega), if_pos h, if_pos rfl]
  · simp only [show i < k + 1 ↔ i < k by omega, if_neg e]
/-- Of the first k places: has none the block of place i? -/
def fstK (t : List Int) (i k : Nat) : Bool := (List.range k).all fun j => !(fld t j == fld t i)
theorem fstK_succ (t : List Int) (i k : Nat) : fstK t i (k + 1) = (fstK t i k && (fld t k != fld t i)) := by
  unfold fstK
  rw [List.range_succ, List.all_append]
  simp [bne]

set_option maxHeartbeats 6400000 in
theorem rfix_any (d : Int) (t : List Int) (ht : t.length = 32) (w : World) :
    Calls Try.prog 38 #[.agg (icells (d :: t))] w fun e w' => e = .returned (.agg (icells (fixD d :: fixV d t))) ∧ Below w.heap.size w w' := by
  have HL := Lib.hid ht
  have HzL := Lib.hid zeroT_len
  obtain ⟨RD, HRD⟩ : ∃ RD, Hid (fixD d = RD) := ⟨_, Lib.hid rfl⟩
  obtain ⟨RV, HRV⟩ : ∃ RV, Hid (fixV d t = RV) := ⟨_, Lib.hid rfl⟩
  rw [HRD.out, HRV.out]
  by_cases hin : 0 ≤ d ∧ d ≤ 5
  · have HQ0 := Lib.hid (show RD = d ∧ RV = xfixT (dpN d) t by
      rw [← HRD.out, ← HRV.out]
      unfold fixD fixV inD
      rw [decide_eq_true hin]
      exact ⟨rfl, rfl⟩)
    obtain ⟨D, rfl⟩ := Int.eq_ofNat_of_zero_le hin.1
    have h5 : D ≤ 5 := by omega
    have hDD : dpN (D : Int) = D := by unfold dpN; omega
    rw [hDD] at HQ0
    have h32 := pow32 h5
    have HQ := Lib.hid (show RD = (D : Int) ∧ RV = docK D t (2 ^ D) from ⟨HQ0.out.1, by rw [HQ0.out.2, docK_end]⟩)
    have HCl := Lib.hid (fun (p : Nat) (hp : p < 2 ^ D) (w : World) => rclass_any (D : Int) t HL.out p (by rw [hDD]; exact hp) w)
    rw [hDD] at HCl
    have HPow := Lib.hid (fun (w : World) => rpow_any D h5 w)
    have HSk := Lib.hid (fun (k : Nat) => docK_skip (D := D) (t := t) (k := k))
    have HPu := Lib.hid (fun (k : Nat) (hk : k < 32) => docK_put (D := D) (t := t) hk)
    have HDL := Lib.hid (docK_len D t)
    have HD0 := Lib.hid (docK_zero D t)
    obtain ⟨M, hM⟩ : ∃ M, 2 ^ D = M := ⟨_, rfl⟩
    rw [hM] at HPow HCl HQ h32
    have d0 : decide ((D : Int) < 0) = false := decide_eq_false (by omega)
    have d5 : decide (5 < (D : Int)) = false := decide_eq_false (by omega)
    have d6 : decide (5 < D) = false := decide_eq_false (by omega)
    clear hin hDD HQ0 hM HRD HRV
    go_enter Try.func38, Try.ntmps38
    go_wp2_with (refine wpList_box_row rfl _ _ rfl _ rfl ?_)
    apply Stop.go; intro w1 Hg1 Hb1
    go_wp2_with (refine wpList_alloc_row rfl _ rfl _ Try.rxZero ?_)
    apply Stop.go; intro w2 Hg2 Hb2
    have z1 := Hg1.out.2
    have z2 := Hb2.out.lt
    have HB2 := Lib.hid (Hb1.out.ext Hg2.out.1)
    have E2 := Lib.hid (bt Hg1.out.1 Hg2.out.1)
    have Hz := Lib.hid (show w.heap.size < w1.heap.size ∧ w1.heap.size < w2.heap.size by omega)
    clear z1 z2
    generalize w1.heap.size = g2 at *
    go_wp2_with (first | refine wpList_build_nil rfl _ rfl _ Try.rxBuilt0 ?_ | refine wpList_alloc_row rfl _ rfl _ Try.rxZero ?_)
    apply Stop.go; intro w3 Hg3 Hb3
    go_wp2_with (refine wpList_store_arr rfl _ _ _ rfl _ _ rfl rfl _ _ Hb3.out (Try.rxFits HzL.out) (icells_same HzL.out HzL.out) (oneCell_icells _) ?_)
    apply Stop.go; intro w4 Ho4 Hb4
    have HB4 := Lib.hid ((HB2.out.ext Hg3.out.1).only Ho4.out (by have := Hz.out; omega))
    have HR4 := Lib.hid ((Hb2.out.ext Hg3.out.1).only Ho4.out (by have := Hz.out; omega))
    have E4 := Lib.hid (bonly (bt E2.out Hg3.out.1) Ho4.out (by have := Hz.out; omega))
    have HG := Lib.hid (show w.heap.size < g2 ∧ g2 < w2.heap.size ∧ w.heap.size < w2.heap.size by have := Hz.out; omega)
    generalize w2.heap.size = g3 at *
    clear HB2 Hb2 E2 Hg1 Hb1 Hg2 Hg3 Hb3 Ho4 Hz
    have c0 := dep_cell HB4.out
    have hfit : 0 < (icells (0 :: zeroT)).size := by rw [icells_size, List.length_cons]; omega
    have Hfit := Lib.hid hfit
    clear hfit
    go_upto_region 4 with fail
    go_wp2_with (refine wpList_store_cell rfl _ _ _ rfl Try.int1Size g3 0 rfl (.int .i64 (D : Int)) rfl rfl rfl _ _ Hb4.out Hfit.out ?_)
    apply Stop.go; intro w5 Ho5 Hb5
    have hx5 := Hb5.out
    rw [icells_dep, ← HD0.out] at hx5
    have HX5 := Lib.hid hx5
    have HB5 := Lib.hid (HB4.out.only Ho5.out (by have := HG.out; omega))
    have HR5 := Lib.hid (HR4.out.only Ho5.out (by have := HG.out; omega))
    have E5 := Lib.hid (bonly E4.out Ho5.out (by have := HG.out; omega))
    clear hx5 Hb5 Ho5 HB4 HR4 E4 Hb4 c0 HD0 Hfit
    go_wp2_with fail
    go_loopw [4] (fun i wr => ∃ k : Nat, k ≤ M ∧ i = .int .i64 k ∧ Hid (Blk wr w.heap.size 24 (icells ((D : Int) :: t))) ∧ Hid (Blk wr g2 24 (icells (0 :: zeroT))) ∧ Hid (Blk wr g3 24 (icells ((D : Int) :: docK D t k))) ∧ Hid (Below w.heap.size w wr)) (fun i _ => M - (intOf i).toNat)
    case atStart => exact ⟨0, Nat.zero_le _, rfl, HB5, HR5, HX5, E5⟩
    case round =>
      obtain ⟨k, hk, rfl, HBk, HRk, HXk, Ek⟩ := hrel
      have c0 := dep_cell HBk.out
      go_wp2_with fail
      refine (HPow.out _).mono ?_; rintro e wx ⟨rfl, rfl⟩
      clear c0
      by_cases hlt : k < M
      · have e0 : decide ((k : Int) < M) = true := by simp; omega
        have e1 : decide (k < M) = true := by simp; omega
        have k0 : 0 ≤ (k : Int) := by omega
        have k1 : (k : Int) < 32 := by omega
        have HK := Lib.hid (show k < 32 by omega)
        have ck := int_cell HBk.out k (by rw [HL.out]; omega)
        have HSkk := Lib.hid (HSk.out k)
        have HPuk := Lib.hid (HPu.out k HK.out)
        have HClk := Lib.hid (HCl.out k hlt)
        obtain ⟨x, hx⟩ : ∃ x, fld t k = x := ⟨_, rfl⟩
        have Hx := Lib.hid hx
        rw [hx] at ck HSkk HPuk HClk
        clear hx
        by_cases h0 : x = 0
        · have HN := Lib.hid (HSkk.out (Or.inl h0))
          subst h0
          clear HSkk HPuk HClk
          go_wp2_with fail
          go_roundw
          case rel => exact ⟨k + 1, by omega, by go_num, HBk, HRk, by rw [HN.out]; exact HXk, Ek⟩
          case measure => simp [intOf]; omega
        · have e2 : (x == 0) = false := by simpa using h0
          obtain ⟨s, Hs⟩ : ∃ s, Hid (shortB x = s) := ⟨_, Lib.hid rfl⟩
          have HKe := Lib.hid (show keepB D t k = (s && (firstB t k || wholeB D t k)) by unfold keepB; rw [Hx.out, Hs.out])
          clear h0
          go_wp2_with fail
          refine (rfine_any x _).mono ?_; rintro e wx ⟨rfl, rfl⟩
          rw [Hs.out]
          cases s
          · have HN := Lib.hid (HSkk.out (Or.inr HKe.out))
            clear HSkk HPuk HClk
            go_wp2_with fail
            go_roundw
            case rel => exact ⟨k + 1, by omega, by go_num, HBk, HRk, by rw [HN.out]; exact HXk, Ek⟩
            case measure => simp [intOf]; omega
          · obtain ⟨q, Hq⟩ : ∃ q, Hid (wholeB D t k = q) := ⟨_, Lib.hid rfl⟩
            go_wp2_with fail
            refine WH.start (S := (fun w' : World => Blk w' w.heap.size 24 (icells ((D : Int) :: t)))) [false, false, false, false, false, false, false, false, false, false, false] 11 rfl rfl (by kernel_rfl) (HBk.out.ext (bdrew _ 1)) (fun hSn => ?_); obtain ⟨wS, hwS⟩ : ∃ x, (wr).drew = x := ⟨_, rfl⟩; have HE := Lib.hid (show Below (wr).heap.size (wr) wS from hwS ▸ bdrew wr 1); rw [hwS] at hSn ⊢; clear hwS
            refine WH.tv 0 rfl (fun w' hSw => exec_load_blk _ _ rfl _ rfl _ _ (hSw) _ (Try.underlying24) rfl (Try.rxFits HL.out)) ?_; simp only [setL]
            refine WH.tk 1 ?_; simp only [setL]
            refine WH.tk 2 ?_; simp only [setL]
            refine WH.tk 3 ?_; simp only [setL]
            refine WH.tv 4 rfl (fun w' hSw => exec_load_cell _ _ rfl ⟨w.heap.size, 1 + k, none⟩ rfl _ (int_cell hSw k (by rw [HL.out]; exact HK.out)) _ Try.underlying3 rfl) ?_; simp only [setL]
            rw [Hx.out]
            refine WH.only 5 _ rfl (by kernel_rfl) rfl (fun K hK => ?_)
            go_simp; refine (HClk.out _).mono ?_; rintro e wa ⟨⟨z, rfl⟩, hba⟩; go_simp
            rw [Hq.out]
            have HE := Lib.hid (bt HE.out hba)
            have hSn := hSn.ext hba; refine hK _ _ hSn ?_; clear hK; clear K; simp only [setL]
            clear hba
            refine WH.tk 6 ?_; simp only [setL]
            refine WH.tk 7 ?_; simp only [setL]
            refine WH.tk 8 ?_; simp only [setL]
            refine WH.tk 9 ?_; simp only [setL]
            refine WH.tk 10 ?_; simp only [setL]
            refine WH.done (by kernel_rfl) ?_
            have HBa := Lib.hid hSn
            have HRa := Lib.hid (HRk.out.ext HE.out)
            have HXa := Lib.hid (HXk.out.ext HE.out)
            have Ea := Lib.hid (bt Ek.out HE.out)
            clear HE hSn HBk HRk HXk Ek ck
            go_wp2_with fail
            obtain ⟨wb, hwb⟩ : ∃ y, y = wa := ⟨_, rfl⟩
            subst hwb
            go_loopw [7, 8] (fun v i wr => ∃ j : Nat, j ≤ k ∧ i = .int .i64 j ∧ v = .bool (fstK t k j) ∧ Hid (Blk wr w.heap.size 24 (icells ((D : Int) :: t))) ∧ Hid (Blk wr g2 24 (icells (0 :: zeroT))) ∧ Hid (Blk wr g3 24 (icells ((D : Int) :: docK D t k))) ∧ Hid (Below w.heap.size w wr)) (fun _ i _ => k - (intOf i).toNat)
            case atStart => exact ⟨0, Nat.zero_le _, rfl, rfl, HBa, HRa, HXa, Ea⟩
            case round =>
              obtain ⟨j, hj, rfl, rfl, HBj, HRj, HXj, Ej⟩ := hrel
              obtain ⟨a, Ha⟩ : ∃ a, Hid (fstK t k j = a) := ⟨_, Lib.hid rfl⟩
              rw [Ha.out]
              by_cases hjt : j < k
              · have f0 : decide ((j : Int) < k) = true := by simp; omega
                have f1 : decide (j < k) = true := by simp; omega
                have j0 : 0 ≤ (j : Int) := by omega
                have j1 : (j : Int) < 32 := by omega
                have HJ := Lib.hid (show j < 32 by omega)
                have HS := Lib.hid (fstK_succ t k j)
                rw [Ha.out] at HS
                cases a
                · have HN2 := Lib.hid (show fstK t k (j + 1) = false by rw [HS.out]; rfl)
                  clear HS
                  go_wp2_with fail
                  refine WH.start (S := (fun w' : World => Blk w' w.heap.size 24 (icells ((D : Int) :: t)))) [false, false, false, false, false, false, false, false, false, false, false, false, false] 13 rfl rfl (by kernel_rfl) (HBj.out.ext (bdrew _ 1)) (fun hSn => ?_); obtain ⟨wS, hwS⟩ : ∃ x, (wr).drew = x := ⟨_, rfl⟩; have HE := Lib.hid (show Below (wr).heap.size (wr) wS from hwS ▸ bdrew wr 1); rw [hwS] at hSn ⊢; clear hwS
                  refine WH.tk 0 ?_; simp only [setL]
                  refine WH.tk 1 ?_; simp only [setL]
                  refine WH.skip 2 _ rfl (by kernel_rfl) (fun _ _ _ h => h) rfl (by assumption) ?_; simp only [setL]
                  refine WH.skip 3 _ rfl (by kernel_rfl) (fun _ _ _ h => h) rfl (by assumption) ?_; simp only [setL]
                  refine WH.skip 4 _ rfl (by kernel_rfl) (fun _ _ _ h => h) rfl (by assumption) ?_; simp only [setL]
                  refine WH.skip 5 _ rfl (by kernel_rfl) (fun _ _ _ h => h) rfl (by assumption) ?_; simp only [setL]
                  refine WH.skip 6 _ rfl (by kernel_rfl) (fun _ _ _ h => h) rfl (by assumption) ?_; simp only [setL]
                  refine WH.skip 7 _ rfl (by kernel_rfl) (fun _ _ _ h => h) rfl (by assumption) ?_; simp only [setL]
                  refine WH.skip 8 _ rfl (by kernel_rfl) (fun _ _ _ h => h) rfl (by assumption) ?_; simp only [setL]
                  refine WH.skip 9 _ rfl (by kernel_rfl) (fun _ _ _ h => h) rfl (by assumption) ?_; simp only [setL]
                  refine WH.skip 10 _ rfl (by kernel_rfl) (fun _ _ _ h => h) rfl (by assumption) ?_; simp only [setL]
                  refine WH.tk 11 ?_; simp only [setL]
                  refine WH.tk 12 ?_; simp only [setL]
                  refine WH.done (by kernel_rfl) ?_
                  have HBn := Lib.hid hSn
                  have HRn := Lib.hid (HRj.out.ext HE.out)
                  have HXn := Lib.hid (HXj.out.ext HE.out)
                  have En := Lib.hid (bt Ej.out HE.out)
                  clear HE hSn HBj HRj HXj Ej
                  go_wp2_with fail
                  go_roundw
                  case rel => exact ⟨j + 1, by omega, by go_num, by rw [HN2.out], HBn, HRn, HXn, En⟩
                  case measure => simp [intOf]; omega
                · obtain ⟨u, Hu⟩ : ∃ u, Hid (fld t j = u) := ⟨_, Lib.hid rfl⟩
                  obtain ⟨v, hv⟩ : ∃ v, (u != x) = v := ⟨_, rfl⟩
                  have HN2 := Lib.hid (show fstK t k (j + 1) = v by rw [HS.out, Hu.out, Hx.out, hv]; rfl)
                  clear HS
                  go_wp2_with fail
                  refine WH.start (S := (fun w' : World => Blk w' w.heap.size 24 (icells ((D : Int) :: t)))) [false, false, false, false, false, false, false, false, false, false, false, false, false] 13 rfl rfl (by kernel_rfl) (HBj.out.ext (bdrew _ 1)) (fun hSn => ?_); obtain ⟨wS, hwS⟩ : ∃ x, (wr).drew = x := ⟨_, rfl⟩; have HE := Lib.hid (show Below (wr).heap.size (wr) wS from hwS ▸ bdrew wr 1); rw [hwS] at hSn ⊢; clear hwS
                  refine WH.tk 0 ?_; simp only [setL]
                  refine WH.tk 1 ?_; simp only [setL]
                  refine WH.tk 2 ?_; simp only [setL]
                  refine WH.tk 3 ?_; simp only [setL]
                  refine WH.tk 4 ?_; simp only [setL]
                  refine WH.tv 5 rfl (fun w' hSw => exec_load_cell _ _ rfl ⟨w.heap.size, 1 + j, none⟩ rfl _ (int_cell hSw j (by rw [HL.out]; exact HJ.out)) _ Try.underlying3 rfl) ?_; simp only [setL]
                  refine WH.tk 6 ?_; simp only [setL]
                  refine WH.tk 7 ?_; simp only [setL]
                  refine WH.tk 8 ?_; simp only [setL]
                  refine WH.tv 9 rfl (fun w' hSw => exec_load_cell _ _ rfl ⟨w.heap.size, 1 + k, none⟩ rfl _ (int_cell hSw k (by rw [HL.out]; exact HK.out)) _ Try.underlying3 rfl) ?_; simp only [setL]
                  rw [Hu.out, Hx.out]
                  refine WH.tk 10 ?_; simp only [setL]
                  refine WH.tk 11 ?_; simp only [setL]
                  refine WH.tk 12 ?_; simp only [setL]
                  refine WH.done (by kernel_rfl) ?_
                  have HBn := Lib.hid hSn
                  have HRn := Lib.hid (HRj.out.ext HE.out)
                  have HXn := Lib.hid (HXj.out.ext HE.out)
                  have En := Lib.hid (bt Ej.out HE.out)
                  clear HE hSn HBj HRj HXj Ej hv
                  go_wp2_with fail
                  go_roundw
                  case rel => exact ⟨j + 1, by omega, by go_num, by rw [HN2.out], HBn, HRn, HXn, En⟩
                  case measure => simp [intOf]; omega
              · obtain rfl : j = k := by omega
                have f0 : decide ((j : Int) < j) = false := by simp
                have HKq := Lib.hid (show keepB D t j = (a || q) by rw [HKe.out, Hq.out, ← Ha.out]; rfl)
                have cj := int_cell HBj.out j (by rw [HL.out]; exact HK.out)
                rw [Hx.out] at cj
                have hfit : 1 + j < (icells ((D : Int) :: docK D t j)).size := by rw [icells_size, List.length_cons, HDL.out j]; have := HK.out; omega
                have Hfit := Lib.hid hfit
                clear hfit
                cases q
                · cases a
                  · have HN := Lib.hid (HSkk.out (Or.inr HKq.out))
                    clear HSkk HPuk HClk
                    go_wp2_with fail
                    go_roundw
                    case rel => exact ⟨j + 1, by omega, by go_num, HBj, HRj, by rw [HN.out]; exact HXj, Ej⟩
                    case measure => simp [intOf]; omega
                  · have HN := Lib.hid (HPuk.out HKq.out)
                    clear HSkk HPuk HClk
                    go_upto_region 16 with fail
                    go_wp2_with (refine wpList_store_cell rfl _ _ _ rfl Try.int1Size g3 (1 + j) rfl (.int .i64 x) rfl rfl rfl _ _ HXj.out Hfit.out ?_)
                    apply Stop.go; intro wc Hoc Hbc
                    have hbc := Hbc.out
                    rw [icells_put, HN.out] at hbc
                    have HXc := Lib.hid hbc
                    have HBc := Lib.hid (HBj.out.only Hoc.out (by have := HG.out; omega))
                    have HRc := Lib.hid (HRj.out.only Hoc.out (by have := HG.out; omega))
                    have Ec := Lib.hid (bonly Ej.out Hoc.out (by have := HG.out; omega))
                    clear hbc Hbc Hoc HXj HBj HRj Ej cj
                    go_wp2_with fail
                    go_roundw
                    case rel => exact ⟨j + 1, by omega, by go_num, HBc, HRc, HXc, Ec⟩
                    case measure => simp [intOf]; omega
                · have HN := Lib.hid (HPuk.out (by rw [HKq.out]; simp))
                  clear HSkk HPuk HClk
                  go_upto_region 16 with fail
                  go_wp2_with (refine wpList_store_cell rfl _ _ _ rfl Try.int1Size g3 (1 + j) rfl (.int .i64 x) rfl rfl rfl _ _ HXj.out Hfit.out ?_)
                  apply Stop.go; intro wc Hoc Hbc
                  have hbc := Hbc.out
                  rw [icells_put, HN.out] at hbc
                  have HXc := Lib.hid hbc
                  have HBc := Lib.hid (HBj.out.only Hoc.out (by have := HG.out; omega))
                  have HRc := Lib.hid (HRj.out.only Hoc.out (by have := HG.out; omega))
                  have Ec := Lib.hid (bonly Ej.out Hoc.out (by have := HG.out; omega))
                  clear hbc Hbc Hoc HXj HBj HRj Ej cj
                  go_wp2_with fail
                  go_roundw
                  case rel => exact ⟨j + 1, by omega, by go_num, HBc, HRc, HXc, Ec⟩
                  case measure => simp [intOf]; omega
      · obtain rfl : k = M := by omega
        have e0 : decide ((k : Int) < k) = false := by simp
        have HLk := Lib.hid (HDL.out k)
        go_wp2_with (first | refine wpList_load_blk rfl _ _ rfl _ rfl _ _ HXk.out _ Try.underlying24 rfl (Try.rxFits HLk.out) ?_ | refine wpList_store_arr rfl _ _ _ rfl _ _ rfl rfl _ _ HRk.out (Try.rxFits HLk.out) (icells_same HzL.out HLk.out) (oneCell_icells _) ?_)
        apply Stop.go; intro we Hoe Hbe
        go_wp2_with ((with_reducible show bodyPost _ _ _ _ _ _); refine bodyPost_struct rfl _ rfl _ _ Hbe.out _ Try.underlying24 rfl (Try.rxFits HLk.out) rfl ?_)
        apply Stop.go
        rw [HQ.out.1, HQ.out.2]
        exact ⟨rfl, bonly Ek.out Hoe.out (by have := HG.out; omega)⟩
  · have HQ := Lib.hid (show RD = 0 ∧ RV = zeroT by
      rw [← HRD.out, ← HRV.out]
      unfold fixD fixV inD
      rw [decide_eq_false hin]
      exact ⟨rfl, rfl⟩)
    by_cases h0 : d < 0
    · clear hin
      go_enter Try.func38, Try.ntmps38
      go_wp2_with (refine wpList_box_row rfl _ _ rfl _ rfl ?_)
      apply Stop.go; intro w1 Hg1 Hb1
      go_wp2_with (refine wpList_alloc_row rfl _ rfl _ Try.rxZero ?_)
      apply Stop.go; intro w2 Hg2 Hb2
      have z1 := Hg1.out.2
      have z2 := Hb2.out.lt
      have HB2 := Lib.hid (Hb1.out.ext Hg2.out.1)
      have E2 := Lib.hid (bt Hg1.out.1 Hg2.out.1)
      have Hz := Lib.hid (show w.heap.size < w1.heap.size ∧ w1.heap.size < w2.heap.size by omega)
      clear z1 z2
      generalize w1.heap.size = g2 at *
      go_wp2_with (first | refine wpList_build_nil rfl _ rfl _ Try.rxBuilt0 ?_ | refine wpList_alloc_row rfl _ rfl _ Try.rxZero ?_)
      apply Stop.go; intro w3 Hg3 Hb3
      go_wp2_with (refine wpList_store_arr rfl _ _ _ rfl _ _ rfl rfl _ _ Hb3.out (Try.rxFits HzL.out) (icells_same HzL.out HzL.out) (oneCell_icells _) ?_)
      apply Stop.go; intro w4 Ho4 Hb4
      have HB4 := Lib.hid ((HB2.out.ext Hg3.out.1).only Ho4.out (by have := Hz.out; omega))
      have HR4 := Lib.hid ((Hb2.out.ext Hg3.out.1).only Ho4.out (by have := Hz.out; omega))
      have E4 := Lib.hid (bonly (bt E2.out Hg3.out.1) Ho4.out (by have := Hz.out; omega))
      have c0 := dep_cell HB4.out
      go_upto_region 3 with fail
      go_wp2_with (first | refine wpList_load_blk rfl _ _ rfl _ rfl _ _ Hb4.out _ Try.underlying24 rfl (Try.rxFits HzL.out) ?_ | refine wpList_store_arr rfl _ _ _ rfl _ _ rfl rfl _ _ HR4.out (Try.rxFits HzL.out) (icells_same HzL.out HzL.out) (oneCell_icells _) ?_)
      apply Stop.go; intro we Hoe Hbe
      go_wp2_with ((with_reducible show bodyPost _ _ _ _ _ _); refine bodyPost_struct rfl _ rfl _ _ Hbe.out _ Try.underlying24 rfl (Try.rxFits HzL.out) rfl ?_)
      apply Stop.go
      rw [HQ.out.1, HQ.out.2]
      exact ⟨rfl, bonly E4.out Hoe.out (by have := Hz.out; omega)⟩
    · have h5 : 5 < d := by omega
      clear hin
      go_enter Try.func38, Try.ntmps38
      go_wp2_with (refine wpList_box_row rfl _ _ rfl _ rfl ?_)
      apply Stop.go; intro w1 Hg1 Hb1
      go_wp2_with (refine wpList_alloc_row rfl _ rfl _ Try.rxZero ?_)
      apply Stop.go; intro w2 Hg2 Hb2
      have z1 := Hg1.out.2
      have z2 := Hb2.out.lt
      have HB2 := Lib.hid (Hb1.out.ext Hg2.out.1)
      have E2 := Lib.hid (bt Hg1.out.1 Hg2.out.1)
      have Hz := Lib.hid (show w.heap.size < w1.heap.size ∧ w1.heap.size < w2.heap.size by omega)
      clear z1 z2
      generalize w1.heap.size = g2 at *
      go_wp2_with (first | refine wpList_build_nil rfl _ rfl _ Try.rxBuilt0 ?_ | refine wpList_alloc_row rfl _ rfl _ Try.rxZero ?_)
      apply Stop.go; intro w3 Hg3 Hb3
      go_wp2_with (refine wpList_store_arr rfl _ _ _ rfl _ _ rfl rfl _ _ Hb3.out (Try.rxFits HzL.out) (icells_same HzL.out HzL.out) (oneCell_icells _) ?_)
      apply Stop.go; intro w4 Ho4 Hb4
      have HB4 := Lib.hid ((HB2.out.ext Hg3.out.1).only Ho4.out (by have := Hz.out; omega))
      have HR4 := Lib.hid ((Hb2.out.ext Hg3.out.1).only Ho4.out (by have := Hz.out; omega))
      have E4 := Lib.hid (bonly (bt E2.out Hg3.out.1) Ho4.out (by have := Hz.out; omega))
      have c0 := dep_cell HB4.out
      go_upto_region 3 with fail
      go_wp2_with (first | refine wpList_load_blk rfl _ _ rfl _ rfl _ _ Hb4.out _ Try.underlying24 rfl (Try.rxFits HzL.out) ?_ | refine wpList_store_arr rfl _ _ _ rfl _ _ rfl rfl _ _ HR4.out (Try.rxFits HzL.out) (icells_same HzL.out HzL.out) (oneCell_icells _) ?_)
      apply Stop.go; intro we Hoe Hbe
      go_wp2_with ((with_reducible show bodyPost _ _ _ _ _ _); refine bodyPost_struct rfl _ rfl _ _ Hbe.out _ Try.underlying24 rfl (Try.rxFits HzL.out) rfl ?_)
      apply Stop.go
      rw [HQ.out.1, HQ.out.2]
      exact ⟨rfl, bonly E4.out Hoe.out (by have := Hz.out; omega)⟩

set_option maxHeartbeats 1600000 in
theorem rright_any (d : Int) (t : List Int) (ht : t.length = 32) (w : World) :
    Calls Try.prog 11 #[.agg (icells (d :: t))] w fun e w' => e = .returned (.bool (rightX d t)) ∧ Below w.heap.size w w' := by
  have HL := Lib.hid ht
  obtain ⟨r, Hr⟩ : ∃ r, Hid (rightX d t = r) := ⟨_, Lib.hid rfl⟩
  rw [Hr.out]
  by_cases h0 : d < 0
  · have HF := Lib.hid (show r = false by rw [← Hr.out, Bool.eq_false_iff]; intro h; have := (rightX_iff.1 h).1; omega)
    have e0 : decide (0 ≤ d) = false := decide_eq_false (by omega)
    go_enter Try.func11, Try.ntmps11
    go_wp2_with (refine wpList_box_row rfl _ _ rfl _ rfl ?_)
    apply Stop.go; intro w1 Hg1 Hb1
    go_wp2_with fail
    refine WH.start (S := (fun w' : World => Blk w' w.heap.size 24 (icells (d :: t)))) [false, false, false, false, false, false, false, false, false, false, false, false, false, false, false] 15 rfl rfl (by kernel_rfl) (Hb1.out.ext (bdrew _ 1)) (fun hSn => ?_); obtain ⟨wS, hwS⟩ : ∃ x, (w1).drew = x := ⟨_, rfl⟩; have HE := Lib.hid (show Below (w1).heap.size (w1) wS from hwS ▸ bdrew w1 1); rw [hwS] at hSn ⊢; clear hwS
    refine WH.tk 0 ?_; simp only [setL]
    refine WH.tv 1 rfl (fun w' hSw => exec_load_cell _ _ rfl ⟨w.heap.size, 0, none⟩ rfl _ (dep_cell hSw) _ Try.underlying3 rfl) ?_; simp only [setL]
    refine WH.tk 2 ?_; simp only [setL]
    refine WH.tk 3 ?_; simp only [setL]
    refine WH.skip 4 _ rfl (by kernel_rfl) (fun _ _ _ h => h) rfl (by assumption) ?_; simp only [setL]
    refine WH.skip 5 _ rfl (by kernel_rfl) (fun _ _ _ h => h) rfl (by assumption) ?_; simp only [setL]
    refine WH.skip 6 _ rfl (by kernel_rfl) (fun _ _ _ h => h) rfl (by assumption) ?_; simp only [setL]
    refine WH.tk 7 ?_; simp only [setL]
    refine WH.tk 8 ?_; simp only [setL]
    refine WH.skip 9 _ rfl (by kernel_rfl) (fun _ _ _ h => h) rfl (by assumption) ?_; simp only [setL]
    refine WH.skip 11 _ rfl (by kernel_rfl) (fun _ _ _ h => h) rfl (by assumption) ?_; simp only [setL]
    refine WH.onlySkip 10 _ rfl (by kernel_rfl) rfl (by assumption) ?_; simp only [setL]
    refine WH.skip 12 _ rfl (by kernel_rfl) (fun _ _ _ h => h) rfl (by assumption) ?_; simp only [setL]
    refine WH.tk 13 ?_; simp only [setL]
    refine WH.tk 14 ?_; simp only [setL]
    refine WH.done (by kernel_rfl) ?_
    go_wp2_with fail
    go_ret
    rw [HF.out]
    exact ⟨rfl, bt Hg1.out.1 HE.out⟩
  · have e0 : decide (0 ≤ d) = true := decide_eq_true (by omega)
    by_cases h5 : 5 < d
    · have HF := Lib.hid (show r = false by rw [← Hr.out, Bool.eq_false_iff]; intro h; have := (rightX_iff.1 h).1; omega)
      have e5 : decide (d ≤ 5) = false := decide_eq_false (by omega)
      go_enter Try.func11, Try.ntmps11
      go_wp2_with (refine wpList_box_row rfl _ _ rfl _ rfl ?_)
      apply Stop.go; intro w1 Hg1 Hb1
      go_wp2_with fail
      refine WH.start (S := (fun w' : World => Blk w' w.heap.size 24 (icells (d :: t)))) [false, false, false, false, false, false, false, false, false, false, false, false, false, false, false] 15 rfl rfl (by kernel_rfl) (Hb1.out.ext (bdrew _ 1)) (fun hSn => ?_); obtain ⟨wS, hwS⟩ : ∃ x, (w1).drew = x := ⟨_, rfl⟩; have HE := Lib.hid (show Below (w1).heap.size (w1) wS from hwS ▸ bdrew w1 1); rw [hwS] at hSn ⊢; clear hwS
      refine WH.tk 0 ?_; simp only [setL]
      refine WH.tv 1 rfl (fun w' hSw => exec_load_cell _ _ rfl ⟨w.heap.size, 0, none⟩ rfl _ (dep_cell hSw) _ Try.underlying3 rfl) ?_; simp only [setL]
      refine WH.tk 2 ?_; simp only [setL]
      refine WH.tk 3 ?_; simp only [setL]
      refine WH.tk 4 ?_; simp only [setL]
      refine WH.tv 5 rfl (fun w' hSw => exec_load_cell _ _ rfl ⟨w.heap.size, 0, none⟩ rfl _ (dep_cell hSw) _ Try.underlying3 rfl) ?_; simp only [setL]
      refine WH.tk 6 ?_; simp only [setL]
      refine WH.tk 7 ?_; simp only [setL]
      refine WH.tk 8 ?_; simp only [setL]
      refine WH.skip 9 _ rfl (by kernel_rfl) (fun _ _ _ h => h) rfl (by assumption) ?_; simp only [setL]
      refine WH.skip 11 _ rfl (by kernel_rfl) (fun _ _ _ h => h) rfl (by assumption) ?_; simp only [setL]
      refine WH.onlySkip 10 _ rfl (by kernel_rfl) rfl (by assumption) ?_; simp only [setL]
      refine WH.skip 12 _ rfl (by kernel_rfl) (fun _ _ _ h => h) rfl (by assumption) ?_; simp only [setL]
      refine WH.tk 13 ?_; simp only [setL]
      refine WH.tk 14 ?_; simp only [setL]
      refine WH.done (by kernel_rfl) ?_
      go_wp2_with fail
      go_ret
      rw [HF.out]
      exact ⟨rfl, bt Hg1.out.1 HE.out⟩
    · have e5 : decide (d ≤ 5) = true := decide_eq_true (by omega)
      have HEQ := Lib.hid (show ∀ w, (binOp .eql 24 (.agg (icells (fixD d :: fixV d t))) (.agg (icells (d :: t)))).run Try.prog w = .ok (.bool r) w from fun w => by rw [run_eql_rx _ _ _ _ (fixV_len d t) ht w, fix_right, Hr.out])
      go_enter Try.func11, Try.ntmps11
      go_wp2_with (refine wpList_box_row rfl _ _ rfl _ rfl ?_)
      apply Stop.go; intro w1 Hg1 Hb1
      go_wp2_with fail
      refine WH.start (S := (fun w' : World => Blk w' w.heap.size 24 (icells (d :: t)))) [false, false, false, false, false, false, false, false, false, false, false, false, false, false, false] 15 rfl rfl (by kernel_rfl) (Hb1.out.ext (bdrew _ 1)) (fun hSn => ?_); obtain ⟨wS, hwS⟩ : ∃ x, (w1).drew = x := ⟨_, rfl⟩; have HE := Lib.hid (show Below (w1).heap.size (w1) wS from hwS ▸ bdrew w1 1); rw [hwS] at hSn ⊢; clear hwS
      refine WH.tk 0 ?_; simp only [setL]
      refine WH.tv 1 rfl (fun w' hSw => exec_load_cell _ _ rfl ⟨w.heap.size, 0, none⟩ rfl _ (dep_cell hSw) _ Try.underlying3 rfl) ?_; simp only [setL]
      refine WH.tk 2 ?_; simp only [setL]
      refine WH.tk 3 ?_; simp only [setL]
      refine WH.tk 4 ?_; simp only [setL]
      refine WH.tv 5 rfl (fun w' hSw => exec_load_cell _ _ rfl ⟨w.heap.size, 0, none⟩ rfl _ (dep_cell hSw) _ Try.underlying3 rfl) ?_; simp only [setL]
      refine WH.tk 6 ?_; simp only [setL]
      refine WH.tk 7 ?_; simp only [setL]
      refine WH.tk 8 ?_; simp only [setL]
      refine WH.tv 9 rfl (fun w' hSw => exec_load_blk _ _ rfl _ rfl _ _ (hSw) _ (Try.underlying24) rfl (Try.rxFits HL.out)) ?_; simp only [setL]
      refine WH.tv 11 rfl (fun w' hSw => exec_load_blk _ _ rfl _ rfl _ _ (hSw) _ (Try.underlying24) rfl (Try.rxFits HL.out)) ?_; simp only [setL]
      refine WH.only 10 _ rfl (by kernel_rfl) rfl (fun K hK => ?_)
      go_simp; refine (rfix_any d t HL.out _).mono ?_; rintro e wa ⟨rfl, hba⟩; go_simp
      have HE := Lib.hid (bt HE.out hba)
      have hSn := hSn.ext hba; refine hK _ _ hSn ?_; clear hK; clear K; simp only [setL]
      refine WH.tv 12 rfl (fun w' hSw => exec_eql_agg _ _ _ _ _ rfl (by kernel_rfl) (icells (fixD d :: fixV d t)) (icells (d :: t)) rfl rfl _ (HEQ.out _)) ?_; simp only [setL]
      refine WH.tk 13 ?_; simp only [setL]
      refine WH.tk 14 ?_; simp only [setL]
      refine WH.done (by kernel_rfl) ?_
      go_wp2_with fail
      go_ret
      exact ⟨rfl, bt Hg1.out.1 HE.out⟩

end Go.Proofs.Ythcbjihdbkpkeaa
