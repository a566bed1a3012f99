/-
  Contracts of the document's answer 16: In, May, Put, Get, Clean, Blocks.
-/
import Derived.Test.YtpdeohmgjblkeaaIno3
import Derived.Test.YtpdeohmgjblkeaaAppB
import Derived.Test.YtpdeohmgjblkeaaRef01
namespace Go.Proofs.Ytpdeohmgjblkeaa
open Go.RowKit
set_option maxRecDepth 10000

set_option maxHeartbeats 400000 in
theorem in16_any (n m : Int) (w : World) : Calls Try.prog 90 #[.int .i64 n, .int .i64 m] w fun e w' => e = .returned (.bool (decide (0 ≤ n ∧ n ≤ m))) ∧ w = w' := by
  by_cases h : 0 ≤ n
  · go_enter Try.func90, Try.ntmps90
    go_wp2
    go_ret
    simp [h]
  · go_enter Try.func90, Try.ntmps90
    go_wp2
    go_ret
    simp
    omega
theorem in16_short (n : Int) (w : World) : Calls Try.prog 90 #[.int .i64 n, .int .i64 65535] w fun e w' => e = .returned (.bool (shortB n)) ∧ w = w' := in16_any n 65535 w


theorem mayI_doc {l : List Int} (hl : l.length = 11) (h : fld l 0 ≠ 0) : mayI l = (((nums l).take 6).all shortB && (decide (0 ≤ fld l 0 ∧ fld l 0 ≤ 2) && (shortB (fld l 1) && (sizeB (fld l 2) && (shortB (fld l 3) && shortB (fld l 10)))))) := by
  unfold mayI
  rw [if_neg h]
  have e1 : nums l = (nums l).take 6 ++ [fld l 10] := by
    obtain ⟨a0, a1, a2, a3, a4, a5, a6, a7, a8, a9, a10, rfl⟩ := list_eleven hl
    rfl
  have e2 : (nums l).all shortB = (((nums l).take 6).all shortB && shortB (fld l 10)) := by
    have h2 : (nums l).all shortB = ((nums l).take 6 ++ [fld l 10]).all shortB := congrArg (fun x => x.all shortB) e1
    rw [h2, List.all_append]
    simp
  have e3 : decide (fld l 0 = 1 ∨ fld l 0 = 2) = decide (0 ≤ fld l 0 ∧ fld l 0 ≤ 2) := by rw [decide_eq_decide]; omega
  rw [e2, e3]
  cases decide (0 ≤ fld l 0 ∧ fld l 0 ≤ 2) <;> cases shortB (fld l 1) <;> cases sizeB (fld l 2) <;> cases shortB (fld l 3) <;> cases shortB (fld l 10) <;> cases ((nums l).take 6).all shortB <;> rfl
set_option maxHeartbeats 1600000 in
theorem rmayI_any (l : List Int) (hl : l.length = 11) (w : World) :
    Calls Try.prog 79 #[.agg (icells l)] w fun e w' => e = .returned (.bool (mayI l)) ∧ Below w.heap.size w w' := by
  have HL := Lib.hid hl
  have HN := Lib.hid (nums_len hl)
  obtain ⟨k, hk⟩ : ∃ k, fld l 0 = k := ⟨_, rfl⟩
  obtain ⟨r, hr⟩ : ∃ r, mayI l = r := ⟨_, rfl⟩
  rw [hr]
  have HR := Lib.hid hr
  have HK := Lib.hid hk
  clear hr
  go_enter Try.func79, Try.ntmps79
  go_wp2_with (refine wpList_box_row rfl _ _ rfl _ rfl ?_)
  apply Stop.go; intro w1 Hg1 Hb1
  have c0 := Hb1.out.fld 0 (by rw [hl]; omega)
  rw [hk] at c0
  clear hk
  by_cases h0 : k = 0
  · subst h0
    have HF := Lib.hid (show (l == freeI) = r by rw [← HR.out, mayI_free HK.out])
    go_wp2_with (first | refine wpList_load_blk rfl _ _ rfl _ rfl _ _ Hb1.out _ Try.underlying43 rfl (Try.inoFits HL.out) ?_ | (refine wpList_eql_agg rfl _ _ _ _ _ rfl (by kernel_rfl) (icells l) (icells freeI) rfl rfl _ (run_eql_ino l freeI HL.out freeI_len _) ?_))
    go_ret
    rw [HF.out]
    exact ⟨rfl, Hg1.out.1⟩
  have d0 : decide (k = 0) = false := decide_eq_false h0
  have d0b : (k == 0) = false := by simpa using h0
  have HD := mayI_doc hl (by rw [HK.out]; exact h0)
  rw [HR.out] at HD
  obtain ⟨b6, B6⟩ : ∃ b, Hid (((nums l).take 6).all shortB = b) := ⟨_, Lib.hid rfl⟩
  obtain ⟨b0, B0⟩ : ∃ b, Hid (decide (0 ≤ k ∧ k ≤ 2) = b) := ⟨_, Lib.hid rfl⟩
  obtain ⟨b1, B1⟩ : ∃ b, Hid (shortB (fld l 1) = b) := ⟨_, Lib.hid rfl⟩
  obtain ⟨b2, B2⟩ : ∃ b, Hid (sizeB (fld l 2) = b) := ⟨_, Lib.hid rfl⟩
  obtain ⟨b3, B3⟩ : ∃ b, Hid (shortB (fld l 3) = b) := ⟨_, Lib.hid rfl⟩
  obtain ⟨b10, B10⟩ : ∃ b, Hid (shortB (fld l 10) = b) := ⟨_, Lib.hid rfl⟩
  rw [HK.out, B6.out, B0.out, B1.out, B2.out, B3.out, B10.out] at HD
  have HF := Lib.hid HD
  clear HD
  have B2' : Hid (decide (0 ≤ fld l 2 ∧ fld l 2 ≤ 34304) = b2) := B2
  go_wp2_with fail
  go_loopw [3] (fun i wr => ∃ k : Nat, k ≤ 6 ∧ i = .int .i64 k ∧ wr = w1 ∧ Hid (((nums l).take k).all shortB = true)) (fun i _ => 6 - (intOf i).toNat)
  case atStart => exact ⟨0, Nat.zero_le _, rfl, rfl, Lib.hid rfl⟩
  case round =>
    obtain ⟨q, hq, rfl, rfl, HA⟩ := hrel
    by_cases hlt : q < 6
    · have e1 := take_succ_getI (nums l) q _ (fld_get (nums l) q (by rw [HN.out]; omega))
      have c := Hb1.out.fld (4 + q) (by rw [hl]; omega)
      rw [← fld_nums] at c
      have d1 : decide ((q : Int) < 6) = true := by simp; omega
      have p0 : 0 ≤ (q : Int) := by omega
      have p1 : (q : Int) < 6 := by omega
      obtain ⟨b, Hb⟩ : ∃ b, Hid (shortB (fld (nums l) q) = b) := ⟨_, Lib.hid rfl⟩
      go_wp2_with fail
      refine (in16_short _ _).mono ?_; rintro e w' ⟨rfl, rfl⟩
      rw [Hb.out]
      cases b
      · have HE := Lib.hid (show r = false by
          have : b6 = false := by
            rw [← B6.out, List.all_eq_false]
            refine ⟨fld (nums l) q, ?_, by rw [Hb.out]; simp⟩
            have h6 := fld_get (nums l) q (by rw [HN.out]; omega)
            rw [← List.getElem?_take_of_lt hlt] at h6
            exact List.mem_of_getElem? h6
          rw [HF.out, this]
          rfl)
        clear e1
        go_wp2_with fail
        go_ret
        rw [HE.out]
        exact ⟨rfl, Hg1.out.1⟩
      · have HE := Lib.hid (show ((nums l).take (q + 1)).all shortB = true by rw [e1, List.all_append, HA.out]; simp [Hb.out])
        clear e1
        go_wp2_with fail
        go_roundw
        case rel => exact ⟨q + 1, by omega, by go_num, by first | rfl | trivial, HE⟩
        case measure => simp [intOf]; omega
    · obtain rfl : q = 6 := by omega
      obtain rfl : b6 = true := by rw [← B6.out]; exact HA.out
      have c1 := Hb1.out.fld 1 (by rw [hl]; omega)
      have c2 := Hb1.out.fld 2 (by rw [hl]; omega)
      have c3 := Hb1.out.fld 3 (by rw [hl]; omega)
      have c10 := Hb1.out.fld 10 (by rw [hl]; omega)
      go_wp2_with fail
      refine (in16_any _ _ _).mono ?_; rintro e w' ⟨rfl, rfl⟩
      rw [B0.out]
      cases b0
      · go_wp2_with fail
        go_ret
        exact ⟨by rw [HF.out]; rfl, Hg1.out.1⟩
      go_wp2_with fail
      refine (in16_short _ _).mono ?_; rintro e w' ⟨rfl, rfl⟩
      rw [B1.out]
      cases b1
      · go_wp2_with fail
        go_ret
        exact ⟨by rw [HF.out]; rfl, Hg1.out.1⟩
      go_wp2_with fail
      refine (in16_any _ _ _).mono ?_; rintro e w' ⟨rfl, rfl⟩
      rw [B2'.out]
      cases b2
      · go_wp2_with fail
        go_ret
        exact ⟨by rw [HF.out]; rfl, Hg1.out.1⟩
      go_wp2_with fail
      refine (in16_short _ _).mono ?_; rintro e w' ⟨rfl, rfl⟩
      rw [B3.out]
      cases b3
      · go_wp2_with fail
        go_ret
        exact ⟨by rw [HF.out]; rfl, Hg1.out.1⟩
      go_wp2_with fail
      refine (in16_short _ _).mono ?_; rintro e w' ⟨rfl, rfl⟩
      rw [B10.out]
      go_wp2_with fail
      go_ret
      exact ⟨by rw [HF.out]; rfl, Hg1.out.1⟩

/-- What Put has: the inode, and bytes of its own. -/
structure PutR (w w' : World) (l : List Int) (g0 B : Nat) (v : Value) (D : List UInt8) : Prop where
  lo : w.heap.size ≤ g0 ∧ g0 < B ∧ B ≤ w'.heap.size
  ino : Blk w' g0 43 (icells l)
  own : OwnB w' B 5 v D
  bel : Below w.heap.size w w'
theorem PutR.ext {w w' w'' : World} {l : List Int} {g0 B : Nat} {v : Value} {D : List UInt8} (h : PutR w w' l g0 B v D) (e : Below w'.heap.size w' w'') : PutR w w'' l g0 B v D :=
  ⟨⟨h.lo.1, h.lo.2.1, Nat.le_trans h.lo.2.2 e.size⟩, h.ino.ext e, h.own.below e, bt h.bel e⟩
theorem PutR.app {w w' w'' : World} {l : List Int} {g0 B : Nat} {v v' : Value} {D D' : List UInt8} (h : PutR w w' l g0 B v D) (o : OwnB w'' B 5 v' D') (e : Below B w' w'') : PutR w w'' l g0 B v' D' :=
  ⟨⟨h.lo.1, h.lo.2.1, Nat.le_trans h.lo.2.2 e.size⟩, h.ino.below e h.lo.2.1, o, h.bel.trans (e.mono (by have := h.lo; omega))⟩
theorem wrap_kind {k : Int} (h : 0 ≤ k ∧ k ≤ 2) : IntKind.u8.wrap k = ((UInt8.ofNat k.toNat).toNat : Int) := by
  have e : k = 0 ∨ k = 1 ∨ k = 2 := by omega
  rcases e with rfl | rfl | rfl <;> rfl
set_option maxHeartbeats 3200000 in
theorem rputI_any (l : List Int) (hl : l.length = 11) (hm : mayI l = true) (w : World) :
    Calls Try.prog 80 #[.agg (icells l)] w (RetB w (putI l)) := by
  have HL := Lib.hid hl
  have HN := Lib.hid (nums_len hl)
  obtain ⟨i0, i1, i2, i3, i4⟩ := mayI_in hl hm
  obtain ⟨x, hx⟩ : ∃ x, UInt8.ofNat (fld l 0).toNat = x := ⟨_, rfl⟩
  have W0 : IntKind.u8.wrap (fld l 0) = (x.toNat : Int) := by rw [wrap_kind i0, hx]
  have HXd := Lib.hid hx
  have W1 := Lib.hid (wrap_short i1)
  have W2 := Lib.hid (wrap_short (n := fld l 2) (by omega))
  have W3 := Lib.hid (wrap_short i3)
  have WN := Lib.hid (fun k (hk : k < 7) => wrap_short (i4 k hk))
  clear i0 i1 i2 i3 i4 hm hx
  go_enter Try.func80, Try.ntmps80
  go_wp2_with (refine wpList_box_row rfl _ _ rfl _ rfl ?_)
  apply Stop.go; intro w1 Hg1 Hb1
  have c0 := Hb1.out.fld 0 (by rw [hl]; omega)
  go_upto_region 2 with fail
  have B2 : Hid (Blk (w1.alloc (.cells #[.int .u8 (x.toNat : Int), .int .u8 0] 5)) w1.heap.size 5 (bcells [x, 0])) := Lib.hid (Blk.new w1 _ _)
  have G2 := Lib.hid (Grew.alloc w1 (.cells #[.int .u8 (x.toNat : Int), .int .u8 0] 5))
  generalize w1.alloc (.cells #[.int .u8 (x.toNat : Int), .int .u8 0] 5) = w2 at *
  have HB2 := Lib.hid (Hb1.out.ext G2.out.1)
  have E2 := Lib.hid (bt Hg1.out.1 G2.out.1)
  have Z2 := Lib.hid (show w1.heap.size < w2.heap.size ∧ w.heap.size < w2.heap.size by have := G2.out.2; have := Hg1.out.2; omega)
  have R2 := Lib.hid (RB.of_blk0 B2.out)
  generalize w1.heap.size = gs at *
  have c1 := HB2.out.fld 1 (by rw [hl]; omega)
  clear c0 Hb1 Hg1 B2 G2 W0
  go_wp2_with fail
  rw [W1.out.1]
  refine (bytes_any 2 (fld l 1).toNat (by omega) W1.out.2 _).mono ?_; rintro e w3 ⟨A3, n3, p3, rfl, hl3, hc3, hm3, hr3, hb3⟩
  have hn3 : n3 = 2 := by rw [← hl3, leBytes_len]
  subst hn3
  have HL3 := Lib.hid hl3
  have HR3 := Lib.hid hr3
  have R3 := Lib.hid (R2.out.below hb3)
  have HB3 := Lib.hid (HB2.out.ext hb3)
  have E3 := Lib.hid (bt E2.out hb3)
  have Z3 := Lib.hid (show w.heap.size < w3.heap.size by have := hb3.size; have := Z2.out; omega)
  clear hl3 hc3 hm3 hr3 hb3 HB2 R2 c1 E2 Z2
  obtain ⟨d1, HD1⟩ : ∃ d, Hid (leBytes 2 (fld l 1).toNat = d) := ⟨_, Lib.hid rfl⟩
  rw [HD1.out] at HL3 HR3
  go_wp2_with (at_builtin; refine wpList_append_grow_bytes rfl _ _ _ _ rfl Try.underlying61 Try.byteInfo _ _ _ [x, 0] rfl rfl R3.out _ _ _ _ rfl HL3.out HR3.out (by omega) (by omega) (by omega) ?_)
  apply Stop.go; intro v4 w4 Ho4 He4
  have H4 : Hid (PutR w w4 l w.heap.size w3.heap.size v4 ([x, 0] ++ d1)) := Lib.hid ⟨⟨Nat.le_refl _, Z3.out, He4.out.size⟩, HB3.out.ext He4.out, Ho4.out, bt E3.out He4.out⟩
  obtain ⟨D4, HD4⟩ : ∃ d, Hid ([x, 0] ++ d1 = d) := ⟨_, Lib.hid rfl⟩
  have M4 := Lib.hid (show D4.length = 4 by rw [← HD4.out, List.length_append, HL3.out]; rfl)
  rw [HD4.out] at H4
  generalize w3.heap.size = B at *
  clear Ho4 He4 HB3 E3 R3 HR3 HL3 Z3
  have c := H4.out.ino.fld 2 (by rw [hl]; omega)
  go_wp2_with fail
  rw [W2.out.1]
  refine (bytes_any 4 (fld l 2).toNat (by omega) W2.out.2 _).mono ?_; rintro e w6 ⟨A, n, p, rfl, hl0, hc0, hm0, hr0, hb0⟩
  have hn : n = 4 := by rw [← hl0, leBytes_len]
  subst hn
  obtain ⟨d2, HD2⟩ : ∃ d, Hid (leBytes 4 (fld l 2).toNat = d) := ⟨_, Lib.hid rfl⟩
  rw [HD2.out] at hl0 hr0
  have HLd := Lib.hid hl0
  have HRd := Lib.hid hr0
  have H6 := Lib.hid (H4.out.ext hb0)
  clear hl0 hc0 hm0 hr0 hb0 c H4
  have HOw := Lib.hid H6.out.own
  have HZ := Lib.hid H6.out.lo.2.2
  go_wp2_with (at_builtin; refine wpList_append_own_bytes rfl _ _ _ _ rfl Try.underlying61 Try.byteInfo B _ D4 rfl HOw.out HZ.out _ _ _ _ rfl HLd.out HRd.out (by omega) (by rw [M4.out]; omega) ?_)
  apply Stop.go; intro v6 x6 Ho He
  have H6 := Lib.hid (H6.out.app Ho.out He.out)
  obtain ⟨D6, HE6⟩ : ∃ d, Hid (D4 ++ d2 = d) := ⟨_, Lib.hid rfl⟩
  have M6 := Lib.hid (show D6.length = 8 by rw [← HE6.out, List.length_append, M4.out, HLd.out])
  rw [HE6.out] at H6
  clear Ho He HLd HRd HOw HZ
  have c := H6.out.ino.fld 3 (by rw [hl]; omega)
  go_wp2_with fail
  rw [W3.out.1]
  refine (bytes_any 2 (fld l 3).toNat (by omega) W3.out.2 _).mono ?_; rintro e w8 ⟨A, n, p, rfl, hl0, hc0, hm0, hr0, hb0⟩
  have hn : n = 2 := by rw [← hl0, leBytes_len]
  subst hn
  obtain ⟨d3, HD3⟩ : ∃ d, Hid (leBytes 2 (fld l 3).toNat = d) := ⟨_, Lib.hid rfl⟩
  rw [HD3.out] at hl0 hr0
  have HLd := Lib.hid hl0
  have HRd := Lib.hid hr0
  have H8 := Lib.hid (H6.out.ext hb0)
  clear hl0 hc0 hm0 hr0 hb0 c H6
  have HOw := Lib.hid H8.out.own
  have HZ := Lib.hid H8.out.lo.2.2
  go_wp2_with (at_builtin; refine wpList_append_own_bytes rfl _ _ _ _ rfl Try.underlying61 Try.byteInfo B _ D6 rfl HOw.out HZ.out _ _ _ _ rfl HLd.out HRd.out (by omega) (by rw [M6.out]; omega) ?_)
  apply Stop.go; intro v8 x8 Ho He
  have H8 := Lib.hid (H8.out.app Ho.out He.out)
  obtain ⟨D8, HE8⟩ : ∃ d, Hid (D6 ++ d3 = d) := ⟨_, Lib.hid rfl⟩
  have M8 := Lib.hid (show D8.length = 10 by rw [← HE8.out, List.length_append, M6.out, HLd.out])
  rw [HE8.out] at H8
  clear Ho He HLd HRd HOw HZ
  have HH := Lib.hid (show D8 = headI l by
    rw [← HE8.out, ← HE6.out, ← HD4.out, ← HD1.out, ← HD2.out, ← HD3.out, ← HXd.out]
    unfold headI
    simp)
  clear HE8 HE6 HD4 HD1 HD2 HD3 HXd M4 M6 M8
  rw [HH.out] at H8
  clear HH
  have H8 : Hid (PutR w x8 l w.heap.size B v8 (headI l ++ flatI ((nums l).take 0))) := Lib.hid (by
    have h := H8.out
    rw [List.take_zero, show flatI [] = [] from rfl, List.append_nil]
    exact h)
  go_wp2_with fail
  go_loopw [3, 4] (fun v i wr => ∃ k : Nat, k ≤ 6 ∧ i = .int .i64 k ∧ Hid (PutR w wr l w.heap.size B v (headI l ++ flatI ((nums l).take k)))) (fun _ i _ => 6 - (intOf i).toNat)
  case atStart => exact ⟨0, Nat.zero_le _, rfl, H8⟩
  case round =>
    obtain ⟨k, hk, rfl, HP⟩ := hrel
    have hM : (headI l ++ flatI ((nums l).take k)).length = 10 + 2 * k := by
      rw [List.length_append, headI_len, flatI_len, List.length_take, HN.out]; omega
    have e1 := take_succ_getI (nums l) k _ (fld_get (nums l) k (by rw [HN.out]; omega))
    have e2 : headI l ++ flatI ((nums l).take (k + 1)) = (headI l ++ flatI ((nums l).take k)) ++ leBytes 2 (fld (nums l) k).toNat := by rw [e1, flatI_snoc, List.append_assoc]
    obtain ⟨D, hD⟩ : ∃ D, headI l ++ flatI ((nums l).take k) = D := ⟨_, rfl⟩
    rw [hD] at hM e2 HP
    obtain ⟨d, hd⟩ : ∃ d, leBytes 2 (fld (nums l) k).toNat = d := ⟨_, rfl⟩
    rw [hd] at e2
    have hdl : d.length = 2 := by rw [← hd, leBytes_len]
    have HM := Lib.hid hM
    have HD2 := Lib.hid e2
    have Hd := Lib.hid hd
    have HWk := Lib.hid (WN.out k (by omega))
    have HdL := Lib.hid hdl
    clear hM e1 e2 hD hd hdl WN
    by_cases hlt : k < 6
    · have c := HP.out.ino.fld (4 + k) (by rw [hl]; omega)
      rw [← fld_nums] at c
      have d0 : decide ((k : Int) < 6) = true := by simp; omega
      have p0 : 0 ≤ (k : Int) := by omega
      have p1 : (k : Int) < 6 := by omega
      go_wp2_with fail
      rw [HWk.out.1]
      refine (bytes_any 2 (fld (nums l) k).toNat (by omega) HWk.out.2 _).mono ?_; rintro e wa ⟨A, n, p, rfl, hl0, hc0, hm0, hr0, hb0⟩
      have hn : n = 2 := by rw [← hl0, leBytes_len]
      subst hn
      rw [Hd.out] at hr0
      have HRd := Lib.hid hr0
      have HPa := Lib.hid (HP.out.ext hb0)
      clear hl0 hc0 hm0 hr0 hb0 c HP
      have HOw := Lib.hid HPa.out.own
      have HZ := Lib.hid HPa.out.lo.2.2
      go_wp2_with (at_builtin; refine wpList_append_own_bytes rfl _ _ _ _ rfl Try.underlying61 Try.byteInfo B _ D rfl HOw.out HZ.out _ _ _ _ rfl HdL.out HRd.out (by omega) (by rw [HM.out]; omega) ?_)
      apply Stop.go; intro vb wb Ho He
      have hp := HPa.out.app Ho.out He.out
      rw [← HD2.out] at hp
      have HPb := Lib.hid hp
      clear Ho He HOw HZ HPa HRd hp
      go_wp2_with fail
      go_roundw
      case rel => exact ⟨k + 1, by omega, by go_num, HPb⟩
      case measure => simp [intOf]; omega
    · obtain rfl : k = 6 := by omega
      have d0 : decide ((6 : Int) < 6) = false := by simp
      have h10 : fld (nums l) 6 = fld l 10 := fld_nums l 6
      rw [h10] at HWk Hd
      have c := HP.out.ino.fld 10 (by rw [hl]; omega)
      have HF := Lib.hid (show (D ++ d) ++ zeros 8 = putI l by
        rw [← HD2.out]
        unfold putI
        rw [List.append_assoc, show (nums l).take (6 + 1) = nums l from List.take_of_length_le (by rw [HN.out]; omega)])
      clear h10 HD2 HN
      go_wp2_with fail
      rw [HWk.out.1]
      refine (bytes_any 2 (fld l 10).toNat (by omega) HWk.out.2 _).mono ?_; rintro e wa ⟨A, n, p, rfl, hl0, hc0, hm0, hr0, hb0⟩
      have hn : n = 2 := by rw [← hl0, leBytes_len]
      subst hn
      rw [Hd.out] at hr0
      have HRd := Lib.hid hr0
      have HPa := Lib.hid (HP.out.ext hb0)
      clear hl0 hc0 hm0 hr0 hb0 c HP
      have HOw := Lib.hid HPa.out.own
      have HZ := Lib.hid HPa.out.lo.2.2
      go_wp2_with (at_builtin; refine wpList_append_own_bytes rfl _ _ _ _ rfl Try.underlying61 Try.byteInfo B _ D rfl HOw.out HZ.out _ _ _ _ rfl HdL.out HRd.out (by omega) (by rw [HM.out]; omega) ?_)
      apply Stop.go; intro vb wb Ho He
      have HPb := Lib.hid (HPa.out.app Ho.out He.out)
      obtain ⟨D2, hD2⟩ : ∃ x, D ++ d = x := ⟨_, rfl⟩
      have HM2 := Lib.hid (show D2.length = 24 by rw [← hD2, List.length_append, HM.out, HdL.out])
      rw [hD2] at HPb HF
      clear Ho He HOw HZ HPa HRd hD2 HM
      have HOw := Lib.hid HPb.out.own
      have HZ := Lib.hid HPb.out.lo.2.2
      go_wp2_with (at_builtin; refine wpList_append_zeros rfl _ _ _ _ _ rfl Try.underlying61 Try.underlying3 Try.byteInfo B _ D2 rfl HOw.out HZ.out (by rw [HM2.out]; omega) _ 8 rfl rfl (by omega) (by rw [HM2.out]; omega) ?_)
      apply Stop.go; intro vc wc Ho He
      have hp := HPb.out.app Ho.out He.out
      rw [HF.out] at hp
      have HPc := Lib.hid hp
      clear Ho He HOw HZ HPb hp
      go_wp2_with fail
      go_ret
      obtain ⟨A, c, rfl, hc, hm, hr⟩ := HPc.out.own.read
      exact ⟨A, _, c, rfl, rfl, hc, hm, hr, HPc.out.bel⟩

end Go.Proofs.Ytpdeohmgjblkeaa
