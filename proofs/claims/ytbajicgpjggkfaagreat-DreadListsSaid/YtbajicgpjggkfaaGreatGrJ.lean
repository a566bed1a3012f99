/-
  Texts of this claim joined: Rf1, Rf2, Rf4, Rf5, Rf6, Rf7.
-/
import Derived.Test.YtbajicgpjggkfaaGreatGrF
import Derived.Test.YtbajicgpjggkfaaGreatGrY
import Derived.Test.YtbajicgpjggkfaaGreatGrX
import Derived.Test.YtbajicgpjggkfaaGreatGrG

/-
  Contracts of the document's answer 19: Pow, Deep, Is, Fine, Places, Buckets.
-/
namespace Go.Proofs.YtbajicgpjggkfaaGreat
open Go.RowKit

theorem Tryz.rxSize : (Tryz.prog.info? 95).map (·.size) = some 33 := by kernel_rfl
theorem Tryz.rxZero : (Tryz.prog.info? 95).map (·.zero) = some (some (.agg (icells (0 :: zeroT)))) := by kernel_rfl
theorem Tryz.rxFits {d : Int} {t : List Int} (h : t.length = 32) : (Tryz.prog.info? 95).map (·.size) = some (icells (d :: t)).size := by rw [icells_size, List.length_cons, h]; exact Tryz.rxSize
theorem Tryz.rxBuilt0 : Tryz.prog.built 95 [] = some (icells (0 :: zeroT)) := by kernel_rfl
theorem Tryz.rxBuilt1 (d : Int) : Tryz.prog.built 95 [(0, .int .i64 d)] = some (icells (d :: zeroT)) := by kernel_rfl

set_option maxHeartbeats 400000 in
theorem rpow_any (n : Nat) (hn : n ≤ 5) (w : World) : Calls Tryz.prog 91 #[.int .i64 n] w fun e w' => e = .returned (.int .i64 ((2 ^ n : Nat) : Int)) ∧ w = w' := by
  obtain ⟨R, HR⟩ : ∃ R, Hid (2 ^ n = R) := ⟨_, Lib.hid rfl⟩
  rw [HR.out]
  go_enter Tryz.func91, Tryz.ntmps91
  go_wp2
  go_loop [3, 4] (fun v i => ∃ k : Nat, k ≤ n ∧ i = .int .i64 k ∧ v = .int .i64 ((2 ^ k : Nat) : Int)) (fun _ i => n - (intOf i).toNat)
  case atStart => exact ⟨0, Nat.zero_le _, rfl, rfl⟩
  case round =>
    obtain ⟨k, hk, rfl, rfl⟩ := hrel
    by_cases hlt : k < n
    · have d1 : decide ((k : Int) < n) = true := by simp; omega
      have d2 : decide (k < n) = true := by simp; omega
      have hp := pow32 (show k ≤ 5 by omega)
      have HP := Lib.hid (Nat.pow_succ 2 k)
      generalize 2 ^ k = K at *
      go_wp2
      go_round
      case rel => exact ⟨k + 1, by omega, by go_num, by rw [HP.out]; go_num⟩
      case measure => simp [intOf]; omega
    · obtain rfl : k = n := by omega
      have d1 : decide ((k : Int) < k) = false := by simp
      rw [HR.out]
      go_wp2
      go_ret
      exact ⟨rfl, rfl⟩

set_option maxHeartbeats 400000 in
theorem rdeep_any (d : Int) (t : List Int) (w : World) :
    Calls Tryz.prog 92 #[.agg (icells (d :: t))] w fun e w' => e = .returned (.int .i64 (dpN d : Nat)) ∧ Below w.heap.size w w' := by
  obtain ⟨D, HD⟩ : ∃ D, Hid (dpN d = D) := ⟨_, Lib.hid rfl⟩
  have HDD := Lib.hid (show D = (max 0 (min d 5)).toNat by rw [← HD.out]; rfl)
  rw [HD.out]
  go_enter Tryz.func92, Tryz.ntmps92
  go_wp2_with (refine wpList_box_row rfl _ _ rfl _ rfl ?_)
  apply Stop.go; intro w1 Hg1 Hb1
  have c0 := dep_cell Hb1.out
  go_wp2
  all_goals
    go_ret
    refine ⟨congrArg (fun x => Ending.returned (.int .i64 x)) ?_, Hg1.out.1⟩
    rw [HDD.out]
    omega

set_option maxHeartbeats 400000 in
theorem rfine_any (n : Int) (w : World) : Calls Tryz.prog 161 #[.int .i64 n] w fun e w' => e = .returned (.bool (shortB n)) ∧ w = w' := by
  by_cases h : 0 ≤ n
  · go_enter Tryz.func161, Tryz.ntmps161
    go_wp2
    go_ret
    simp [h, shortB]
  · go_enter Tryz.func161, Tryz.ntmps161
    go_wp2
    go_ret
    simp [shortB]
    omega


end Go.Proofs.YtbajicgpjggkfaaGreat

/-
  Contracts of the document's answer 19: Places, Buckets. Written by wip/tools/gen19/rf2.py.
-/
namespace Go.Proofs.YtbajicgpjggkfaaGreat
open Go.RowKit


set_option maxHeartbeats 1600000 in
theorem rbuckets_any (d : Int) (t : List Int) (ht : t.length = 32) (w : World) :
    Calls Tryz.prog 51 #[.agg (icells (d :: t))] w fun e w' => ∃ v, e = .returned v ∧ OwnC w' w.heap.size 3 v (ivals (buckK t (2 ^ dpN d))) ∧ Below w.heap.size w w' := by
  have HL := Lib.hid ht
  have h5 := dpN_le d
  have h32 := pow32 h5
  have HDp := Lib.hid (fun (w : World) => rdeep_any d t w)
  have HPow := Lib.hid (fun (w : World) => rpow_any (dpN d) h5 w)
  obtain ⟨D, hD⟩ : ∃ D, dpN d = D := ⟨_, rfl⟩
  rw [hD] at HDp HPow h32 ⊢
  obtain ⟨M, hM⟩ : ∃ M, 2 ^ D = M := ⟨_, rfl⟩
  rw [hM] at HPow h32 ⊢
  clear h5 hD hM
  go_enter Tryz.func51, Tryz.ntmps51
  go_wp2_with (refine wpList_box_row rfl _ _ rfl _ rfl ?_)
  apply Stop.go; intro w1 Hg1 Hb1
  have Hz := Lib.hid (show w.heap.size < w1.heap.size from Hb1.out.lt)
  go_wp2_with fail
  go_loopw [3, 4] (fun u i wr => ∃ k : Nat, k ≤ M ∧ i = .int .i64 k ∧ OwnC wr w1.heap.size 3 u (ivals (buckK t k)) ∧ Below w1.heap.size w1 wr) (fun _ i _ => M - (intOf i).toNat)
  case atStart => exact ⟨0, Nat.zero_le _, rfl, OwnC.nil_ _ _ _, Below.refl _ _⟩
  case round =>
    obtain ⟨k, hk, rfl, hu, hbw⟩ := hrel
    have Hu0 := Lib.hid hu
    have Hbw0 := Lib.hid hbw
    have HB0 := Lib.hid (Hb1.out.ext hbw)
    clear hu hbw
    go_wp2_with (refine wpList_load_blk rfl _ _ rfl _ rfl _ _ HB0.out _ Tryz.underlying95 rfl (Tryz.rxFits HL.out) ?_)
    refine (HDp.out _).mono ?_; rintro e wa ⟨rfl, hba⟩
    have Hu := Lib.hid (Hu0.out.ext hba)
    have Hbw := Lib.hid (bt Hbw0.out hba)
    have HBk := Lib.hid (HB0.out.ext hba)
    clear hba HB0 Hu0 Hbw0
    go_wp2_with fail
    refine (HPow.out _).mono ?_; rintro e wx ⟨rfl, rfl⟩
    by_cases hlt : k < M
    · have d0 : decide ((k : Int) < M) = true := by simp; omega
      have d1 : decide (k < M) = true := by simp; omega
      have k0 : 0 ≤ (k : Int) := by omega
      have k1 : (k : Int) < 32 := by omega
      have ck := int_cell HBk.out k (by rw [HL.out]; omega)
      have HS := Lib.hid (buckK_succ t k)
      have hlen := buckK_len t k
      have hl1 : (ivals (buckK t k)).length + 1 ≤ maxLen := by rw [ivals_len]; unfold maxLen; omega
      have hl2 : ((ivals (buckK t k)).length + 1) * 8 ≤ 140737488355328 := by rw [ivals_len]; omega
      obtain ⟨x, hx⟩ : ∃ x, fld t k = x := ⟨_, rfl⟩
      rw [hx] at HS ck
      clear hx
      by_cases h0 : x = 0
      · have HN := Lib.hid (show buckK t (k + 1) = buckK t k by rw [HS.out, if_pos h0])
        subst h0
        have d2 : ((0 : Int) != 0) = false := by decide
        clear HS
        go_wp2_with fail
        go_roundw
        case rel => exact ⟨k + 1, by omega, by go_num, by rw [HN.out]; exact Hu.out, Hbw.out⟩
        case measure => simp [intOf]; omega
      · have d2 : (x != 0) = true := by simpa using h0
        obtain ⟨q, hq⟩ : ∃ q, (buckK t k).contains x = q := ⟨_, rfl⟩
        have HS2 := Lib.hid (show buckK t (k + 1) = if q then buckK t k else buckK t k ++ [x] by rw [HS.out, if_neg h0, hq])
        obtain ⟨A, c, rfl, hc1, hc2, hrc⟩ := Hu.out.ints
        have HIn := Lib.hid (rin9_any A _ c (buckK t k) rfl (by unfold maxLen; omega) x _ hrc)
        rw [hq] at HIn
        clear HS h0 hrc hq
        go_wp2_with fail
        refine (HIn.out).mono ?_; rintro e wx ⟨rfl, rfl⟩
        cases q
        · have HN := Lib.hid (show buckK t (k + 1) = buckK t k ++ [x] by rw [HS2.out]; rfl)
          clear HS2 HIn
          go_wp2_with (at_builtin; refine wpList_append_one rfl _ _ _ _ rfl Tryz.underlying63 (.int .i64 0) 8 Tryz.intInfo rfl w1.heap.size _ _ rfl Hu.out (.int .i64 x) rfl rfl Hbw.out.size hl1 hl2 ?_)
          apply Stop.go
          intro v' w4 Hv' Ha'
          go_wp2_with fail
          go_roundw
          case rel => exact ⟨k + 1, by omega, by go_num, by rw [HN.out, ← ivals_snoc]; exact Hv'.out, Hbw.out.trans Ha'.out.below⟩
          case measure => simp [intOf]; omega
        · have HN := Lib.hid (show buckK t (k + 1) = buckK t k by rw [HS2.out]; rfl)
          clear HS2 HIn
          go_wp2_with fail
          go_roundw
          case rel => exact ⟨k + 1, by omega, by go_num, by rw [HN.out]; exact Hu.out, Hbw.out⟩
          case measure => simp [intOf]; omega
    · obtain rfl : k = M := by omega
      have d0 : decide ((k : Int) < k) = false := by simp
      go_wp2_with fail
      go_ret
      exact ⟨_, rfl, Hu.out.low (Nat.le_of_lt Hz.out), bt Hg1.out.1 Hbw.out⟩

end Go.Proofs.YtbajicgpjggkfaaGreat

/-
  The contract of the document's answer 19: Class.
-/
namespace Go.Proofs.YtbajicgpjggkfaaGreat
open Go.RowKit

/-- Of the first k places: have just those of the class the block? -/
def wbK (t : List Int) (v : Int) (F b k : Nat) : Bool := (List.range k).all fun i => (fld t i == v) == isB b i F
theorem wbK_succ (t : List Int) (v : Int) (F b k : Nat) : wbK t v F b (k + 1) = (wbK t v F b k && ((fld t k == v) == isB b k F)) := by
  unfold wbK
  rw [List.range_succ, List.all_append]
  simp

/-- The first place, once it is passed. -/
def fFst (F k : Nat) : Int := if F < k then (F : Int) else -1
theorem fFst_lo {F k : Nat} (h : ¬ F < k) : fFst F k = -1 := if_neg h
theorem fFst_hi {F k : Nat} (h : F < k) : fFst F k = F := if_pos h


end Go.Proofs.YtbajicgpjggkfaaGreat

/-
  Contracts of the document's answer 19: Fix, Right.
-/
namespace Go.Proofs.YtbajicgpjggkfaaGreat
open Go.RowKit

/-- The document's way: what is kept of the first k places, and noughts. -/
def docF (D : Nat) (t : List Int) (k i : Nat) : Int := if i < k then (if keepB D t i then fld t i else 0) else 0
def docK (D : Nat) (t : List Int) (k : Nat) : List Int := mapT (docF D t k)
theorem docK_len (D : Nat) (t : List Int) (k : Nat) : (docK D t k).length = 32 := mapT_len _
theorem docK_zero (D : Nat) (t : List Int) : docK D t 0 = zeroT := by
  unfold docK zeroT docF
  simp
theorem docK_end (D : Nat) (t : List Int) : docK D t (2 ^ D) = xfixT D t := by
  refine ext32 (mapT_len _) (xfixT_len _ _) fun i hi => ?_
  unfold docK
  rw [mapT_at _ i hi, xfixT_at D t i hi]
  rfl
theorem docK_skip {D : Nat} {t : List Int} {k : Nat} (h : fld t k = 0 ∨ keepB D t k = false) : docK D t (k + 1) = docK D t k := by
  refine ext32 (mapT_len _) (mapT_len _) fun i hi => ?_
  unfold docK
  rw [mapT_at _ i hi, mapT_at _ i hi]
  unfold docF
  by_cases e : i = k
  · subst e
    rw [if_pos (show i < i + 1 by omega), if_neg (show ¬ i < i by omega)]
    rcases h with h | h
    · rw [h]; simp
    · rw [h]; rfl
  · simp only [show i < k + 1 ↔ i < k by omega]
theorem docK_put {D : Nat} {t : List Int} {k : Nat} (hk : k < 32) (h : keepB D t k = true) : (docK D t k).set k (fld t k) = docK D t (k + 1) := by
  refine mapT_set _ _ k _ hk fun i _ => ?_
  unfold docF
  by_cases e : i = k
  · subst e
    rw [if_pos (show i < i + 1 by omega), if_pos h, if_pos rfl]
  · simp only [show i < k + 1 ↔ i < k by omega, if_neg e]
/-- Of the first k places: has none the block of place i? -/
def fstK (t : List Int) (i k : Nat) : Bool := (List.range k).all fun j => !(fld t j == fld t i)
theorem fstK_succ (t : List Int) (i k : Nat) : fstK t i (k + 1) = (fstK t i k && (fld t k != fld t i)) := by
  unfold fstK
  rw [List.range_succ, List.all_append]
  simp [bne]



end Go.Proofs.YtbajicgpjggkfaaGreat

/-
  The contract of the document's answer 19: Put.
-/
namespace Go.Proofs.YtbajicgpjggkfaaGreat
open Go.RowKit
set_option maxRecDepth 10000

theorem byte_in {d : Int} (h : 0 ≤ d ∧ d ≤ 5) : IntKind.u8.wrap d = ((UInt8.ofNat d.toNat).toNat : Int) := by
  simp [IntKind.wrap, IntKind.bits, IntKind.signed]
  omega
theorem OwnB.lowB {w : World} {B B' : Nat} {e : TypeId} {v : Value} {l : List UInt8} (h : OwnB w B e v l) (hb : B' ≤ B) : OwnB w B' e v l := by
  obtain ⟨hl, h | ⟨g, cap, cur, hv, hbg, h⟩⟩ := h
  · exact ⟨hl, Or.inl h⟩
  · exact ⟨hl, Or.inr ⟨g, cap, cur, hv, Nat.le_trans hb hbg, h⟩⟩
theorem idxH_len : idxH.length = 4 := rfl
theorem docX_start (d : Int) (t : List Int) : (idxH ++ [UInt8.ofNat d.toNat]) ++ zeros 27 = docX d t 0 := by
  unfold docX headX idxH
  simp [flatI]
theorem docX_end {t : List Int} (ht : t.length = 32) (d : Int) : rlayL (zeros 256) 0 (docX d t 32) = putX d t := by
  have hl := docX_len ht d 32 (Nat.le_refl _)
  unfold rlayL
  rw [if_pos (by rw [zeros_len]; decide), List.take_of_length_le (by rw [hl, zeros_len]; decide)]
  have h := splice_zeros [] (docX d t 32) 0 256 rfl
  rw [List.nil_append, List.nil_append] at h
  rw [show (0 : Int).toNat = 0 from rfl, h, hl]
  unfold docX putX
  rw [List.take_of_length_le (by omega), List.append_assoc]

/-- What Put tells. -/
def rputX (d : Int) (t : List Int) : List UInt8 := if mayX d t then putX d t else []
set_option maxHeartbeats 3200000 in
theorem rput19_any (d : Int) (t : List Int) (ht : t.length = 32) (w : World) :
    Calls Tryz.prog 123 #[.agg (icells (d :: t))] w (RetBB w (rputX d t) (mayX d t)) := by
  have HL := Lib.hid ht
  obtain ⟨m, Hm⟩ : ∃ m, Hid (mayX d t = m) := ⟨_, Lib.hid rfl⟩
  obtain ⟨R, HR⟩ : ∃ R, Hid (rputX d t = R) := ⟨_, Lib.hid rfl⟩
  have HU := Lib.hid (show R = if m then putX d t else [] by rw [← HR.out]; unfold rputX; rw [Hm.out])
  rw [Hm.out, HR.out]
  by_cases hin : 0 ≤ d ∧ d ≤ 5
  · have HMa := Lib.hid (mayX_at (d := d) HL.out)
    have HI := Lib.hid (show inD d = true from decide_eq_true hin)
    obtain ⟨x, hx⟩ : ∃ x, UInt8.ofNat d.toNat = x := ⟨_, rfl⟩
    have W0 : IntKind.u8.wrap d = (x.toNat : Int) := by rw [byte_in hin, hx]
    have HD0 := Lib.hid (show (idxH ++ [x]) ++ zeros 27 = docX d t 0 by rw [← hx]; exact docX_start d t)
    have HDE := Lib.hid (docX_end HL.out d)
    have HDL := Lib.hid (fun k (hk : k ≤ 32) => docX_len HL.out d k hk)
    have HDS := Lib.hid (fun k (hk : k < 32) => docX_step HL.out d k hk)
    have d0 : decide (d < 0) = false := decide_eq_false (by omega)
    have d5 : decide (5 < d) = false := decide_eq_false (by omega)
    clear hin hx HR
    go_enter Tryz.func123, Tryz.ntmps123
    go_wp2_with (refine wpList_box_row rfl _ _ rfl _ rfl ?_)
    apply Stop.go; intro w1 Hg1 Hb1
    have E1 := Lib.hid Hg1.out.1
    have c0 := dep_cell Hb1.out
    go_upto_region 3 with fail
    go_wp2_with (refine wpList_conv_text rfl _ _ _ rfl Tryz.underlying70 Tryz.underlying5 idxH _ rfl _ _ rfl ?_)
    apply Stop.go; intro w2 Hg2 Hr2
    have HB2 := Lib.hid (Hb1.out.ext Hg2.out.1)
    have E2 := Lib.hid (bt E1.out Hg2.out.1)
    have c0 := dep_cell HB2.out
    have B3 : Hid (Blk (w2.alloc (.cells #[.int .u8 (x.toNat : Int)] 5)) w2.heap.size 5 (bcells [x])) := Lib.hid (Blk.new w2 _ _)
    have G3 := Lib.hid (Grew.alloc w2 (.cells #[.int .u8 (x.toNat : Int)] 5))
    have R3 := Lib.hid (Hr2.out.below G3.out.1)
    go_wp2_with (at_builtin; refine wpList_append_grow_bytes rfl _ _ _ _ rfl Tryz.underlying70 Tryz.byteInfo _ 4 4 idxH rfl rfl R3.out _ 1 1 [x] rfl rfl (RB.of_blk0 B3.out) (by omega) (by omega) (by omega) ?_)
    apply Stop.go; intro v4 w4 Ho4 He4
    have hs3 : w2.heap.size ≤ (w2.alloc (.cells #[.int .u8 (x.toNat : Int)] 5)).heap.size := G3.out.1.size
    have HO4 := Lib.hid (show OwnB w4 w2.heap.size 5 v4 (idxH ++ [x]) from Ho4.out.lowB (by omega))
    have he4 : Below (w2.alloc (.cells #[.int .u8 (x.toNat : Int)] 5)).heap.size (w2.alloc (.cells #[.int .u8 (x.toNat : Int)] 5)) w4 := by rw [G3.out.2]; exact He4.out
    have HB4 := Lib.hid ((HB2.out.ext G3.out.1).ext he4)
    have E4 := Lib.hid (bt (bt E2.out G3.out.1) he4)
    have Z4 := Lib.hid (show w2.heap.size ≤ w4.heap.size from Nat.le_trans hs3 he4.size)
    have ZB := Lib.hid (show w.heap.size < w2.heap.size from HB2.out.lt)
    generalize w2.heap.size = B at *
    clear B3 G3 R3 hs3 Ho4 He4 he4 Hr2 Hg2 HB2 E2 Hb1 Hg1 E1 c0
    obtain ⟨Y, hY⟩ : ∃ Y, idxH ++ [x] = Y := ⟨_, rfl⟩
    have Hl5 : Hid (Y.length = 5) := Lib.hid (by rw [← hY]; rfl)
    rw [hY] at HO4 HD0
    clear hY
    go_wp2_with (at_builtin; refine wpList_append_zeros rfl _ _ _ _ _ rfl Tryz.underlying70 Tryz.underlying3 Tryz.byteInfo B _ Y rfl HO4.out Z4.out (by rw [Hl5.out]; omega) _ 27 rfl rfl (by omega) (by rw [Hl5.out]; omega) ?_)
    apply Stop.go; intro v5 w5 Ho5 He5
    have ho5 := Ho5.out
    rw [HD0.out] at ho5
    have HO5 := Lib.hid ho5
    have HB5 := Lib.hid (HB4.out.below He5.out ZB.out)
    have E5 := Lib.hid (E4.out.trans (He5.out.mono (Nat.le_of_lt ZB.out)))
    have Z5 := Lib.hid (Nat.le_trans Z4.out He5.out.size)
    clear ho5 Ho5 He5 HB4 E4 Z4 HO4 HD0
    go_wp2_with fail
    go_loopw [4, 5] (fun v i wr => ∃ k : Nat, k ≤ 32 ∧ i = .int .i64 k ∧ Hid (OwnB wr B 5 v (docX d t k)) ∧ Hid (Blk wr w.heap.size 95 (icells (d :: t))) ∧ Hid (Below w.heap.size w wr) ∧ Hid (B ≤ wr.heap.size) ∧ Hid (∀ j, j < k → shortB (fld t j) = true)) (fun _ i _ => 32 - (intOf i).toNat)
    case atStart => exact ⟨0, Nat.zero_le _, rfl, HO5, HB5, E5, Z5, Lib.hid fun j h => absurd h (Nat.not_lt_zero _)⟩
    case round =>
      obtain ⟨k, hk, rfl, HOk, HBk, Ek, Zk, HA⟩ := hrel
      by_cases hlt : k < 32
      · have e0 : decide ((k : Int) < 32) = true := by simp; omega
        have k0 : 0 ≤ (k : Int) := by omega
        have k1 : (k : Int) < 32 := by omega
        have HK := Lib.hid (show k < 32 from hlt)
        have ck := int_cell HBk.out k (by rw [HL.out]; exact hlt)
        have HLk := Lib.hid (HDL.out k hk)
        have HSk := Lib.hid (HDS.out k hlt)
        obtain ⟨s, Hs⟩ : ∃ s, Hid (shortB (fld t k) = s) := ⟨_, Lib.hid rfl⟩
        have HWk := Lib.hid (fun (h : s = true) => wrap_in (n := fld t k) (of_decide_eq_true (show shortB (fld t k) = true by rw [Hs.out, h])))
        have HFk := Lib.hid (show s = false → m = false from fun h => by
          rw [← Hm.out, Bool.eq_false_iff]
          intro h'
          have := (HMa.out.1 h').1 k hlt
          rw [Hs.out, h] at this
          cases this)
        have HTk := Lib.hid (show s = true → ∀ j, j < k + 1 → shortB (fld t j) = true from fun h j hj => by
          by_cases e : j = k
          · rw [e, Hs.out, h]
          · exact HA.out j (by omega))
        obtain ⟨y, hy⟩ : ∃ y, fld t k = y := ⟨_, rfl⟩
        rw [hy] at ck HSk HWk Hs
        clear hy
        go_wp2_with fail
        refine (rfine_any y _).mono ?_; rintro e wx ⟨rfl, rfl⟩
        rw [Hs.out]
        cases s
        · have HM := Lib.hid (HFk.out rfl)
          clear HFk HTk HWk
          go_wp2_with fail
          go_ret2
          have hR : R = [] := by rw [HU.out, HM.out]; rfl
          rw [HM.out, hR]
          exact ⟨_, _, _, rfl, rfl, Nat.le_refl _, by unfold maxLen; omega, RB.nil_ _ _, Ek.out⟩
        · have HW := Lib.hid (HWk.out rfl)
          have HT := Lib.hid (HTk.out rfl)
          clear HFk HTk HWk
          go_wp2_with fail
          rw [HW.out.1]
          refine (bytes_any 2 y.toNat (by omega) HW.out.2 _).mono ?_; rintro e w6 ⟨A3, n3, p3, rfl, hl3, hc3, hm3, hr3, hb3⟩
          have hn3 : n3 = 2 := by rw [← hl3, leBytes_len]
          subst hn3
          have HL3 := Lib.hid hl3
          have HR3 := Lib.hid hr3
          have HO6 := Lib.hid (HOk.out.below hb3)
          have HB6 := Lib.hid (HBk.out.ext hb3)
          have E6 := Lib.hid (bt Ek.out hb3)
          have Z6 := Lib.hid (Nat.le_trans Zk.out hb3.size)
          clear hl3 hc3 hm3 hr3 hb3 HOk HBk Ek Zk ck
          go_wp2_with (at_builtin; refine wpList_append_own_bytes rfl _ _ _ _ rfl Tryz.underlying70 Tryz.byteInfo B _ _ rfl HO6.out Z6.out _ _ _ _ rfl HL3.out HR3.out (by omega) (by rw [HLk.out]; omega) ?_)
          apply Stop.go; intro v7 w7 Ho7 He7
          have ho7 := Ho7.out
          rw [← HSk.out] at ho7
          have HO7 := Lib.hid ho7
          have HB7 := Lib.hid (HB6.out.below He7.out ZB.out)
          have E7 := Lib.hid (E6.out.trans (He7.out.mono (Nat.le_of_lt ZB.out)))
          have Z7 := Lib.hid (Nat.le_trans Z6.out He7.out.size)
          clear ho7 Ho7 He7 HB6 E6 Z6 HO6 HR3 HL3
          go_wp2_with fail
          go_roundw
          case rel => exact ⟨k + 1, by omega, by go_num, HO7, HB7, E7, Z7, HT⟩
          case measure => simp [intOf]; omega
      · obtain rfl : k = 32 := by omega
        have e0 : decide ((32 : Int) < 32) = false := by simp
        have HM := Lib.hid (show m = true by rw [← Hm.out]; exact HMa.out.2 ⟨HA.out, HI.out⟩)
        have hl := HDL.out 32 (by omega)
        obtain ⟨A8, c8, rfl, hc8, hm8, hr8⟩ := HOk.out.read
        obtain ⟨X, hX⟩ : ∃ X, docX d t 32 = X := ⟨_, rfl⟩
        rw [hX] at hl hr8 HOk HDE ⊢
        obtain ⟨P, hP⟩ : ∃ P, putX d t = P := ⟨_, rfl⟩
        have HPp := Lib.hid hP
        rw [hP] at HDE
        have hn8 : X.length = 96 := hl
        rw [hn8]
        clear hl
        have HN8 := Lib.hid hn8
        have HR8 := Lib.hid hr8
        clear hn8 hr8 hc8 hm8 hX hP
        go_wp2_with (refine wpList_make_bytes rfl _ _ _ _ rfl Tryz.underlying70 Tryz.byteInfo .i64 .i64 _ _ 256 rfl rfl rfl rfl (by decide) ?_)
        apply Stop.go; intro w9 Hg9 Hb9
        have HR9 := Lib.hid (HR8.out.below Hg9.out.1)
        have E9 := Lib.hid (bt Ek.out Hg9.out.1)
        have HRz := Lib.hid (RB.of_blk0 Hb9.out)
        clear HR8 Hg9 Hb9 HOk HBk Ek Zk
        go_wp2_with fail
        refine (rlay_any _ 256 _ (zeros 256) (zeros_len _) (by omega) 0 _ _ _ X HN8.out _ HRz.out HR9.out).mono ?_; rintro e wa ⟨Aa, na, ca, rfl, hla, hca, hma, hra, hba⟩
        rw [HDE.out] at hla hra
        have Ea := Lib.hid (bt E9.out hba)
        have HLa := Lib.hid hla
        have HRa := Lib.hid hra
        have HCa := Lib.hid hca
        have HMx := Lib.hid hma
        clear hla hra hca hma hba
        go_wp2_with fail
        go_ret2
        have hR : R = P := by rw [HU.out, HM.out, ← HPp.out]; rfl
        rw [HM.out, hR]
        exact ⟨_, _, _, rfl, HLa.out, HCa.out, HMx.out, HRa.out, Ea.out⟩
  · have HM := Lib.hid (show m = false by
      rw [← Hm.out, Bool.eq_false_iff]
      intro h
      have := ((mayX_at HL.out).1 h).2
      unfold inD at this
      exact hin (of_decide_eq_true this))
    have HRn := Lib.hid (show R = [] by rw [HU.out, HM.out]; rfl)
    by_cases h0 : d < 0
    · clear hin
      go_enter Tryz.func123, Tryz.ntmps123
      go_wp2_with (refine wpList_box_row rfl _ _ rfl _ rfl ?_)
      apply Stop.go; intro w1 Hg1 Hb1
      have c0 := dep_cell Hb1.out
      go_wp2_with fail
      go_ret2
      rw [HM.out, HRn.out]
      exact ⟨_, _, _, rfl, rfl, Nat.le_refl _, by unfold maxLen; omega, RB.nil_ _ _, Hg1.out.1⟩
    · have h5 : 5 < d := by omega
      clear hin
      go_enter Tryz.func123, Tryz.ntmps123
      go_wp2_with (refine wpList_box_row rfl _ _ rfl _ rfl ?_)
      apply Stop.go; intro w1 Hg1 Hb1
      have c0 := dep_cell Hb1.out
      go_wp2_with fail
      go_ret2
      rw [HM.out, HRn.out]
      exact ⟨_, _, _, rfl, rfl, Nat.le_refl _, by unfold maxLen; omega, RB.nil_ _ _, Hg1.out.1⟩

end Go.Proofs.YtbajicgpjggkfaaGreat

/-
  The contract of the document's answer 19: Get.
-/
namespace Go.Proofs.YtbajicgpjggkfaaGreat
open Go.RowKit
set_option maxRecDepth 10000

set_option maxHeartbeats 3200000 in
theorem rget19_any (A : Option Addr) (cap : Nat) (b : List UInt8) (hb : b.length = 256) (w : World) (hr : RB w A b) :
    Calls Tryz.prog 80 #[.slice A 256 cap] w fun e w' => e = .returned (.tuple #[.agg (icells (getD_ b :: getT_ b)), .bool (getB b)]) ∧ Below w.heap.size w w' := by
  have HbL := Lib.hid hb
  have Hr := Lib.hid hr
  have HzL := Lib.hid zeroT_len
  have HGL := Lib.hid (gotT_len b)
  have HXL := Lib.hid (gotX_len b)
  have HSt := Lib.hid (gotX_step b)
  obtain ⟨GD, HGD⟩ : ∃ GD, Hid (gotD b = GD) := ⟨_, Lib.hid rfl⟩
  have HN0 := Lib.hid (show ((getN b 4 1 4 : Nat) : Int) = GD by rw [← HGD.out]; exact congrArg (fun x : Nat => (x : Int)) (getN_in b hb 4 1 (by omega) (by omega) (by omega)))
  have HNk := Lib.hid (fun (k : Nat) (hk : k < 32) => show getN b ((32 + 2 * k : Nat) : Int) 2 4 = leV b (32 + 2 * k) 2 from getN_in b hb (32 + 2 * k) 2 (by omega) (by omega) (by omega))
  have HX0 := Lib.hid (gotX_zero b)
  obtain ⟨GT, HGT⟩ : ∃ GT, Hid (gotT b = GT) := ⟨_, Lib.hid rfl⟩
  have HXE := Lib.hid (show gotX b 32 = GT from HGT.out)
  rw [HGT.out] at HGL
  obtain ⟨RD, HRD⟩ : ∃ RD, Hid (getD_ b = RD) := ⟨_, Lib.hid rfl⟩
  obtain ⟨RT, HRT⟩ : ∃ RT, Hid (getT_ b = RT) := ⟨_, Lib.hid rfl⟩
  obtain ⟨rb, HRB⟩ : ∃ rb, Hid (getB b = rb) := ⟨_, Lib.hid rfl⟩
  have HQ := Lib.hid (show rb = (mayX GD GT && (putX GD GT == b && shortT (dpN GD) GT == GT)) by rw [← HRB.out, ← HGD.out, ← HGT.out]; rfl)
  have HQD := Lib.hid (show RD = if rb then GD else 0 by rw [← HRD.out, ← HGD.out, ← HRB.out]; rfl)
  have HQT := Lib.hid (show RT = if rb then GT else zeroT by rw [← HRT.out, ← HGT.out, ← HRB.out]; rfl)
  rw [HRD.out, HRT.out, HRB.out]
  have hm0 : 256 ≤ maxLen := by unfold maxLen; omega
  have Hm0 := Lib.hid hm0
  clear HRD HRT HRB HGD HGT hm0
  go_enter Tryz.func80, Tryz.ntmps80
  go_wp2_with (refine wpList_alloc_row rfl _ rfl _ Tryz.rxZero ?_)
  apply Stop.go; intro w2 Hg2 Hb2
  have E2 := Lib.hid Hg2.out.1
  have Hr2 := Lib.hid (Hr.out.below E2.out)
  have HZ2 := Lib.hid Hb2.out.lt
  clear Hg2
  go_wp2_with fail
  refine (nrat_any A 256 cap b HbL.out Hm0.out 4 1 _ Hr2.out).mono ?_; rintro e wx ⟨rfl, rfl⟩
  rw [HN0.out]
  go_wp2_with (first | refine wpList_build_1 rfl _ _ _ rfl _ rfl _ (Tryz.rxBuilt1 GD) ?_ | refine wpList_alloc_row rfl _ rfl _ Tryz.rxZero ?_)
  apply Stop.go; intro w4 Hg4 Hb4
  go_wp2_with (refine wpList_store_arr rfl _ _ _ rfl _ _ rfl rfl _ _ Hb4.out (Tryz.rxFits HzL.out) (icells_same HzL.out HzL.out) (oneCell_icells _) ?_)
  apply Stop.go; intro w5 Ho5 Hb5
  have HR5 := Lib.hid ((Hb2.out.ext Hg4.out.1).only Ho5.out (by have := HZ2.out; omega))
  have E5 := Lib.hid (bonly (bt E2.out Hg4.out.1) Ho5.out (by have := HZ2.out; omega))
  have HG := Lib.hid (show w.heap.size < w2.heap.size from HZ2.out)
  generalize w2.heap.size = g3 at *
  have hx5 := Hb5.out
  rw [← HX0.out] at hx5
  have HX5 := Lib.hid hx5
  clear Hg4 Hb4 Ho5 Hb5 hx5 HX0 HZ2 Hr2 E2 Hb2
  go_wp2_with fail
  go_loopw [5] (fun i wr => ∃ k : Nat, k ≤ 32 ∧ i = .int .i64 k ∧ Hid (Blk wr w.heap.size 95 (icells (0 :: zeroT))) ∧ Hid (Blk wr g3 95 (icells (GD :: gotX b k))) ∧ Hid (Below w.heap.size w wr)) (fun i _ => 32 - (intOf i).toNat)
  case atStart => exact ⟨0, Nat.zero_le _, rfl, HR5, HX5, E5⟩
  case round =>
    obtain ⟨k, hk, rfl, HRk, HXk, Ek⟩ := hrel
    have Hrk := Lib.hid (Hr.out.below Ek.out)
    by_cases hlt : k < 32
    · have d0 : decide ((k : Int) < 32) = true := by simp; omega
      have k0 : 0 ≤ (k : Int) := by omega
      have k1 : (k : Int) < 32 := by omega
      have hfit : 1 + k < (icells (GD :: gotX b k)).size := by rw [icells_size, List.length_cons, HXL.out k]; omega
      have Hfit := Lib.hid hfit
      have hnk := HNk.out k hlt
      have hsk := HSt.out k hlt
      obtain ⟨y, hy⟩ : ∃ y, leV b (32 + 2 * k) 2 = y := ⟨_, rfl⟩
      rw [hy] at hnk hsk
      rw [show ((32 + 2 * k : Nat) : Int) = 32 + 2 * (k : Int) from by omega] at hnk
      have HN := Lib.hid hnk
      have HS := Lib.hid hsk
      clear hfit hnk hsk hy
      go_wp2_with fail
      refine (nrat_any A 256 cap b HbL.out Hm0.out _ _ _ Hrk.out).mono ?_; rintro e wx ⟨rfl, rfl⟩
      rw [HN.out]
      go_wp2_with (refine wpList_store_cell rfl _ _ _ rfl Tryz.int1Size g3 (1 + k) rfl (.int .i64 y) rfl rfl rfl _ _ HXk.out Hfit.out ?_)
      apply Stop.go; intro wb Hob Hbb
      have hbb := Hbb.out
      rw [icells_put, HS.out] at hbb
      have HXb := Lib.hid hbb
      have HRb := Lib.hid (HRk.out.only Hob.out (by have := HG.out; omega))
      have Eb := Lib.hid (bonly Ek.out Hob.out (by have := HG.out; omega))
      clear hbb Hbb Hob HXk HRk Ek Hrk
      go_wp2_with fail
      go_roundw
      case rel => exact ⟨k + 1, by omega, by go_num, HRb, HXb, Eb⟩
      case measure => simp [intOf]; omega
    · obtain rfl : k = 32 := by omega
      have d0 : decide ((32 : Int) < 32) = false := by simp
      rw [HXE.out] at HXk
      obtain ⟨m, Hm⟩ : ∃ m, Hid (mayX GD GT = m) := ⟨_, Lib.hid rfl⟩
      rw [Hm.out] at HQ
      have HMa := Lib.hid (mayX_at (d := GD) HGL.out)
      obtain ⟨P, HP⟩ : ∃ P, Hid (rputX GD GT = P) := ⟨_, Lib.hid rfl⟩
      have HU := Lib.hid (show P = if m then putX GD GT else [] by rw [← HP.out]; unfold rputX; rw [Hm.out])
      have HPm := Lib.hid (show P.length ≤ 256 by
        rw [HU.out]
        split
        · rw [putX_len HGL.out]; exact Nat.le_refl _
        · simp)
      clear HXE HSt HXL HNk Hrk
      go_wp2_with (refine wpList_load_blk rfl _ _ rfl _ rfl _ _ HXk.out _ Tryz.underlying95 rfl (Tryz.rxFits HGL.out) ?_)
      refine (rput19_any GD GT HGL.out _).mono ?_; rintro e w6 ⟨A6, n6, c6, rfl, hl6, hc6, hm6, hr6, hb6⟩
      rw [HP.out] at hl6 hr6
      rw [Hm.out]
      have HR6 := Lib.hid (HRk.out.ext hb6)
      have HX6 := Lib.hid (HXk.out.ext hb6)
      have E6 := Lib.hid (bt Ek.out hb6)
      have Hr6 := Lib.hid (Hr.out.below E6.out)
      have HL6 := Lib.hid hl6
      have HRP := Lib.hid hr6
      have HN6 := Lib.hid (show n6 ≤ maxLen by rw [← hl6]; have := HPm.out; unfold maxLen; omega)
      clear hl6 hc6 hm6 hr6 hb6 HRk HXk Ek
      cases m
      · obtain rfl : rb = false := HQ.out
        obtain rfl : RD = 0 := HQD.out
        obtain rfl : RT = zeroT := HQT.out
        go_upto_region 8 with fail
        go_wp2_with (first | refine wpList_build_nil rfl _ rfl _ Tryz.rxBuilt0 ?_ | refine wpList_store_arr rfl _ _ _ rfl _ _ rfl rfl _ _ HR6.out (Tryz.rxFits HzL.out) (icells_same HzL.out HzL.out) (oneCell_icells _) ?_)
        apply Stop.go; intro we Hoe Hbe
        go_wp2_with ((with_reducible show bodyPost _ _ _ _ _ _); refine bodyPost_struct_tmp rfl _ rfl _ _ Hbe.out _ Tryz.underlying95 rfl (Tryz.rxFits HzL.out) rfl _ rfl ?_)
        apply Stop.go
        exact bonly E6.out Hoe.out (Nat.le_refl _)
      · obtain ⟨q1, H1⟩ : ∃ q, Hid (decide (P = b) = q) := ⟨_, Lib.hid rfl⟩
        have hin := of_decide_eq_true (show decide (0 ≤ GD ∧ GD ≤ 5) = true from (HMa.out.1 Hm.out).2)
        obtain ⟨D, rfl⟩ := Int.eq_ofNat_of_zero_le hin.1
        have hDD : dpN (D : Int) = D := by unfold dpN; omega
        have h5 : D ≤ 5 := by omega
        rw [hDD] at HQ
        have HQ2 := Lib.hid (show rb = (q1 && decide (∀ i, i < 32 → 2 ^ D ≤ i → fld GT i = 0)) by
          have hu : P = putX (D : Int) GT := HU.out
          rw [HQ.out, ← hu, ← H1.out, Bool.true_and]
          congr 1
          · rw [Bool.eq_iff_iff]; simp
          · rw [Bool.eq_iff_iff, decide_eq_true_eq, ← shortT_iff HGL.out]; simp)
        have HPow := Lib.hid (fun (w : World) => rpow_any D h5 w)
        have h32 := pow32 h5
        have HSa := Lib.hid (same_any A6 n6 c6 P HL6.out A 256 cap b HbL.out HN6.out Hm0.out _ HRP.out Hr6.out)
        rw [H1.out] at HSa
        clear HQ HU HP Hm HMa hin hDD HRP HL6 HN6 HPm H1
        cases q1
        · obtain rfl : rb = false := HQ2.out
          obtain rfl : RD = 0 := HQD.out
          obtain rfl : RT = zeroT := HQT.out
          go_wp2_with fail
          refine (HSa.out).mono ?_; rintro e w7 ⟨rfl, m7, rfl⟩
          have HR7 := Lib.hid (HR6.out.ext (bdrew w6 m7))
          have E7 := Lib.hid (bt E6.out (bdrew w6 m7))
          obtain ⟨w8, hw8⟩ : ∃ x, w6.drewN m7 = x := ⟨_, rfl⟩
          rw [hw8] at HR7 E7 ⊢
          clear hw8 HSa
          go_upto_region 8 with fail
          go_wp2_with (first | refine wpList_build_nil rfl _ rfl _ Tryz.rxBuilt0 ?_ | refine wpList_store_arr rfl _ _ _ rfl _ _ rfl rfl _ _ HR7.out (Tryz.rxFits HzL.out) (icells_same HzL.out HzL.out) (oneCell_icells _) ?_)
          apply Stop.go; intro we Hoe Hbe
          go_wp2_with ((with_reducible show bodyPost _ _ _ _ _ _); refine bodyPost_struct_tmp rfl _ rfl _ _ Hbe.out _ Tryz.underlying95 rfl (Tryz.rxFits HzL.out) rfl _ rfl ?_)
          apply Stop.go
          exact bonly E7.out Hoe.out (Nat.le_refl _)
        · obtain ⟨M, hM⟩ : ∃ M, 2 ^ D = M := ⟨_, rfl⟩
          rw [hM] at HQ2 HPow h32
          go_wp2_with fail
          refine (HSa.out).mono ?_; rintro e w7 ⟨rfl, m7, rfl⟩
          have HR7 := Lib.hid (HR6.out.ext (bdrew w6 m7))
          have HX7 := Lib.hid (HX6.out.ext (bdrew w6 m7))
          have E7 := Lib.hid (bt E6.out (bdrew w6 m7))
          obtain ⟨w8, hw8⟩ : ∃ x, w6.drewN m7 = x := ⟨_, rfl⟩
          rw [hw8] at HR7 HX7 E7 ⊢
          clear hw8 HSa hM h5 HR6 HX6 E6 Hr6
          have c0 := dep_cell HX7.out
          go_wp2_with fail
          refine (HPow.out _).mono ?_; rintro e wx ⟨rfl, rfl⟩
          clear c0
          go_wp2_with fail
          go_loopw [8] (fun i wr => ∃ k : Nat, M ≤ k ∧ k ≤ 32 ∧ i = .int .i64 k ∧ Hid (∀ j, M ≤ j → j < k → fld GT j = 0) ∧ Hid (Blk wr w.heap.size 95 (icells (0 :: zeroT))) ∧ Hid (Blk wr g3 95 (icells ((D : Int) :: GT))) ∧ Hid (Below w.heap.size w wr)) (fun i _ => 32 - (intOf i).toNat)
          case atStart => exact ⟨M, Nat.le_refl _, h32, rfl, Lib.hid (fun j h1 h2 => absurd h2 (by omega)), HR7, HX7, E7⟩
          case round =>
            obtain ⟨k, hMk, hk, rfl, HA, HRk, HXk, Ek⟩ := hrel
            by_cases hlt : k < 32
            · have e0 : decide ((k : Int) < 32) = true := by simp; omega
              have k0 : 0 ≤ (k : Int) := by omega
              have k1 : (k : Int) < 32 := by omega
              have ck := int_cell HXk.out k (by rw [HGL.out]; exact hlt)
              obtain ⟨x, hx⟩ : ∃ x, fld GT k = x := ⟨_, rfl⟩
              have Hx := Lib.hid hx
              rw [hx] at ck
              clear hx
              by_cases h0 : x = 0
              · have HT := Lib.hid (show ∀ j, M ≤ j → j < k + 1 → fld GT j = 0 from fun j h1 h2 => by
                  by_cases e : j = k
                  · rw [e, Hx.out, h0]
                  · exact HA.out j h1 (by omega))
                have e1 : (x != 0) = false := by simp [h0]
                clear h0
                go_wp2_with fail
                go_roundw
                case rel => exact ⟨k + 1, by omega, by omega, by go_num, HT, HRk, HXk, Ek⟩
                case measure => simp [intOf]; omega
              · have HF := Lib.hid (show rb = false by
                  rw [HQ2.out, Bool.true_and]
                  exact decide_eq_false fun h => h0 (by rw [← Hx.out]; exact h k hlt hMk))
                have e1 : (x != 0) = true := by simpa using h0
                clear h0
                go_upto_region 13 with fail
                go_wp2_with (first | refine wpList_build_nil rfl _ rfl _ Tryz.rxBuilt0 ?_ | refine wpList_store_arr rfl _ _ _ rfl _ _ rfl rfl _ _ HRk.out (Tryz.rxFits HzL.out) (icells_same HzL.out HzL.out) (oneCell_icells _) ?_)
                apply Stop.go; intro we Hoe Hbe
                obtain rfl : rb = false := HF.out
                obtain rfl : RD = 0 := HQD.out
                obtain rfl : RT = zeroT := HQT.out
                go_wp2_with ((with_reducible show bodyPost _ _ _ _ _ _); refine bodyPost_struct_tmp rfl _ rfl _ _ Hbe.out _ Tryz.underlying95 rfl (Tryz.rxFits HzL.out) rfl _ rfl ?_)
                apply Stop.go
                exact bonly Ek.out Hoe.out (Nat.le_refl _)
            · obtain rfl : k = 32 := by omega
              have e0 : decide ((32 : Int) < 32) = false := by simp
              obtain rfl : rb = true := by
                rw [HQ2.out, Bool.true_and]
                exact decide_eq_true fun i hi hMi => HA.out i hMi hi
              obtain rfl : RD = (D : Int) := HQD.out
              obtain rfl : RT = GT := HQT.out
              go_wp2_with (first | refine wpList_load_blk rfl _ _ rfl _ rfl _ _ HXk.out _ Tryz.underlying95 rfl (Tryz.rxFits HGL.out) ?_ | refine wpList_store_arr rfl _ _ _ rfl _ _ rfl rfl _ _ HRk.out (Tryz.rxFits HGL.out) (icells_same HzL.out HGL.out) (oneCell_icells _) ?_)
              apply Stop.go; intro we Hoe Hbe
              go_wp2_with ((with_reducible show bodyPost _ _ _ _ _ _); refine bodyPost_struct_tmp rfl _ rfl _ _ Hbe.out _ Tryz.underlying95 rfl (Tryz.rxFits HGL.out) rfl _ rfl ?_)
              apply Stop.go
              exact bonly Ek.out Hoe.out (Nat.le_refl _)

end Go.Proofs.YtbajicgpjggkfaaGreat
