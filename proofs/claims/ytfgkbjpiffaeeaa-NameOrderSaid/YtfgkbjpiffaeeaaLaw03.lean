/-
  Walks of the laws of stage 3 over names: works, NameChecks, NameBack.
-/
import Derived.Test.YtfgkbjpiffaeeaaName2
namespace Go.Proofs.Ytfgkbjpiffaeeaa
open Go.RowKit

theorem works03_ab : packN (ByteArray.mk #[97, 98]) = 2 :: 97 :: 98 :: zeros 22 := by decide
theorem works03_right : rightN (ByteArray.mk #[97, 98]) = true := by decide
theorem works03_stops : rightN (ByteArray.mk #[46, 46]) = false := by decide
set_option maxHeartbeats 800000 in
theorem works03_any (w : World) : Calls Try.prog 8 #[] w fun e w' => e = .returned (.bool true) ∧ Below w.heap.size w w' := by
  go_enter Try.func8, Try.ntmps8
  go_wp2_with fail
  refine (pack_any _ (by decide) _).mono ?_; rintro e w1 ⟨rfl, hb1⟩
  rw [works03_ab, works03_right, show errN true = 0 from rfl]
  have Hb1 := Lib.hid hb1
  clear hb1
  go_wp2_with (refine wpList_alloc_row rfl _ rfl _ Try.packZero ?_)
  apply Stop.go; intro w2 Hg2 Hx2
  go_wp2_with (refine wpList_store_arr rfl _ _ _ rfl _ _ rfl rfl _ _ Hx2.out (Try.packFits rfl) rfl (oneCell_bcells _) ?_)
  apply Stop.go; intro w3 Ho3 Hx3
  have c0 : w3.cell? ⟨w1.heap.size, 0, none⟩ = some (.int .u8 2) := Hx3.out.cell 0
  have c2 : w3.cell? ⟨w1.heap.size, 2, none⟩ = some (.int .u8 98) := Hx3.out.cell 2
  have Hfin := Lib.hid (bonly (bt Hb1.out Hg2.out.1) Ho3.out Hb1.out.size)
  go_wp2_with fail
  refine (check_any _ (by decide) _).mono ?_; rintro e wx ⟨rfl, rfl⟩
  rw [works03_stops, show errN false = 3 from rfl]
  go_wp2_with fail
  go_ret
  exact ⟨rfl, Hfin.out⟩

set_option maxHeartbeats 800000 in
theorem nameChecks_any (a b : ByteArray) (ha : a.size ≤ maxLen) (hb : b.size ≤ maxLen) (w : World) :
    Calls Try.prog 3 #[.string a, .string b] w fun e w' => e = .returned (.bool true) ∧ Below w.heap.size w w' := by
  have Ha := Lib.hid ha
  have Hb := Lib.hid hb
  clear ha hb
  by_cases h1 : a.size ≤ 300
  · have d1 : decide ((300 : Int) < a.size) = false := by simp; omega
    by_cases h2 : b.size ≤ 300
    · have d2 : decide ((300 : Int) < b.size) = false := by simp; omega
      go_enter Try.func3, Try.ntmps3
      go_wp2_with fail
      refine (check_any a Ha.out _).mono ?_; rintro e wx ⟨rfl, rfl⟩
      go_wp2_with fail
      refine (right_any a Ha.out _).mono ?_; rintro e wx ⟨rfl, rfl⟩
      go_wp2_with fail
      refine (is_any _ _ _).mono ?_; rintro e wx ⟨rfl, rfl⟩
      rw [beq_self_eq_true]
      go_wp2_with fail
      refine (nless_any a b _).mono ?_; rintro e wx ⟨rfl, rfl⟩
      go_wp2_with fail
      refine (rless_any a b Ha.out Hb.out _).mono ?_; rintro e w2 ⟨rfl, q, rfl⟩
      have Hd := Lib.hid (bdrew w q)
      generalize w.drewN q = w2 at *
      generalize ltS a b = r
      have hrr : (r == r) = true := beq_self_eq_true r
      go_wp2_with fail
      refine (works03_any _).mono ?_; rintro e w3 ⟨rfl, hb3⟩
      have Hb3 := Lib.hid hb3
      clear hb3
      go_wp2_with fail
      go_ret
      exact ⟨rfl, bt Hd.out Hb3.out⟩
    · have d2 : decide ((300 : Int) < b.size) = true := by simp; omega
      go_enter Try.func3, Try.ntmps3
      go_wp2_with fail
      refine (works03_any _).mono ?_; rintro e w3 ⟨rfl, hb3⟩
      go_wp2_with fail
      go_ret
      exact ⟨rfl, hb3⟩
  · have d1 : decide ((300 : Int) < a.size) = true := by simp; omega
    go_enter Try.func3, Try.ntmps3
    go_wp2_with fail
    refine (works03_any _).mono ?_; rintro e w3 ⟨rfl, hb3⟩
    go_wp2_with fail
    go_ret
    exact ⟨rfl, hb3⟩

theorem packL_inj {l m : List UInt8} (hl : l.length ≤ 24) (hm : m.length ≤ 24) (h : packL l = packL m) : l = m := by
  unfold packL at h
  injection h with h1 h2
  have e : l.length = m.length := by
    have := congrArg UInt8.toNat h1
    simp at this
    omega
  exact (List.append_inj h2 e).1
theorem unpack_pack {s : ByteArray} (h : rightN s = true) : unpackB (packN s) = true ∧ unpackS (packN s) = s := by
  have hz := rightN_size h
  have hl : s.data.toList.length = s.size := by simp
  have hp : packN s = packL s.data.toList := by unfold packN; rw [h]; rfl
  have hn : (UInt8.ofNat s.size).toNat = s.size := by simp; omega
  have hh : (packL s.data.toList).headD 0 = UInt8.ofNat s.size := by unfold packL; rw [hl]; rfl
  have hc : cutL (packL s.data.toList) = s.data.toList := by
    unfold cutL
    rw [hh, hn]
    unfold packL
    rw [List.drop_succ_cons, List.drop_zero, List.take_append_of_le_length (by omega), List.take_of_length_le (by omega)]
  have hb : unpackB (packN s) = true := by
    rw [hp]
    unfold unpackB
    rw [hh, hn, hc, decide_eq_true hz.2]
    have : rightB s.data.toList = true := h
    rw [this]
    simp
  refine ⟨hb, ?_⟩
  unfold unpackS
  rw [hb, hp, hc]
  simp
set_option maxHeartbeats 1000000 in
theorem nameBack_any (a b : ByteArray) (ha : a.size ≤ maxLen) (hb : b.size ≤ maxLen) (w : World) :
    Calls Try.prog 7 #[.string a, .string b] w fun e w' => e = .returned (.bool true) ∧ Below w.heap.size w w' := by
  have Ha := Lib.hid ha
  have Hb := Lib.hid hb
  clear ha hb
  by_cases h1 : a.size ≤ 300
  · have d1 : decide ((300 : Int) < a.size) = false := by simp; omega
    by_cases h2 : b.size ≤ 300
    · have d2 : decide ((300 : Int) < b.size) = false := by simp; omega
      have Lp := Lib.hid (packN_len a)
      have Lq := Lib.hid (packN_len b)
      cases hra : rightN a
      · have Hra := Lib.hid hra
        clear hra
        go_enter Try.func7, Try.ntmps7
        go_wp2_with fail
        refine (pack_any a Ha.out _).mono ?_; rintro e w1 ⟨rfl, hb1⟩
        rw [Hra.out, show errN false = 3 from rfl]
        have Hb1 := Lib.hid hb1
        clear hb1
        go_wp2_with (refine wpList_alloc_row rfl _ rfl _ Try.packZero ?_)
        apply Stop.go; intro w2 Hg2 Hx2
        go_wp2_with (refine wpList_store_arr rfl _ _ _ rfl _ _ rfl rfl _ _ Hx2.out (Try.packFits Lp.out) (by rw [bcells_size, bcells_size, Lp.out, zeros_len]) (oneCell_bcells _) ?_)
        apply Stop.go; intro w3 Ho3 Hx3
        have Hw3 := Lib.hid (bonly (bt Hb1.out Hg2.out.1) Ho3.out Hb1.out.size)
        go_wp2_with fail
        refine (pack_any b Hb.out _).mono ?_; rintro e w4 ⟨rfl, hb4⟩
        have Hw4 := Lib.hid (bt Hw3.out hb4)
        clear hb4
        go_wp2_with (refine wpList_alloc_row rfl _ rfl _ Try.packZero ?_)
        apply Stop.go; intro w5 Hg5 Hx5
        go_wp2_with (refine wpList_store_arr rfl _ _ _ rfl _ _ rfl rfl _ _ Hx5.out (Try.packFits Lq.out) (by rw [bcells_size, bcells_size, Lq.out, zeros_len]) (oneCell_bcells _) ?_)
        apply Stop.go; intro w6 Ho6 Hx6
        have Hw6 := Lib.hid (bonly (bt Hw4.out Hg5.out.1) Ho6.out Hw4.out.size)
        go_wp2_with fail
        refine (works03_any _).mono ?_; rintro e w7 ⟨rfl, hb7⟩
        have Hb7 := Lib.hid hb7
        clear hb7
        go_wp2_with fail
        go_ret
        exact ⟨rfl, bt Hw6.out Hb7.out⟩
      · have Hra := Lib.hid hra
        have hub := unpack_pack hra
        have Hu1 := Lib.hid hub.1
        have Hu2 := Lib.hid hub.2
        clear hub
        cases hrb : rightN b
        · have Hrb := Lib.hid hrb
          clear hra hrb
          go_enter Try.func7, Try.ntmps7
          go_wp2_with fail
          refine (pack_any a Ha.out _).mono ?_; rintro e w1 ⟨rfl, hb1⟩
          rw [Hra.out, show errN true = 0 from rfl]
          have Hb1 := Lib.hid hb1
          clear hb1
          go_wp2_with (refine wpList_alloc_row rfl _ rfl _ Try.packZero ?_)
          apply Stop.go; intro w2 Hg2 Hx2
          go_wp2_with (refine wpList_store_arr rfl _ _ _ rfl _ _ rfl rfl _ _ Hx2.out (Try.packFits Lp.out) (by rw [bcells_size, bcells_size, Lp.out, zeros_len]) (oneCell_bcells _) ?_)
          apply Stop.go; intro w3 Ho3 Hx3
          have Hw3 := Lib.hid (bonly (bt Hb1.out Hg2.out.1) Ho3.out Hb1.out.size)
          go_wp2_with fail
          refine (pack_any b Hb.out _).mono ?_; rintro e w4 ⟨rfl, hb4⟩
          rw [Hrb.out, show errN false = 3 from rfl]
          have Hw4 := Lib.hid (bt Hw3.out hb4)
          clear hb4
          go_wp2_with (refine wpList_alloc_row rfl _ rfl _ Try.packZero ?_)
          apply Stop.go; intro w5 Hg5 Hx5
          go_wp2_with (refine wpList_store_arr rfl _ _ _ rfl _ _ rfl rfl _ _ Hx5.out (Try.packFits Lq.out) (by rw [bcells_size, bcells_size, Lq.out, zeros_len]) (oneCell_bcells _) ?_)
          apply Stop.go; intro w6 Ho6 Hx6
          have Hw6 := Lib.hid (bonly (bt Hw4.out Hg5.out.1) Ho6.out Hw4.out.size)
          go_wp2_with fail
          refine (works03_any _).mono ?_; rintro e w7 ⟨rfl, hb7⟩
          have Hb7 := Lib.hid hb7
          clear hb7
          go_wp2_with fail
          go_ret
          exact ⟨rfl, bt Hw6.out Hb7.out⟩
        · have Hrb := Lib.hid hrb
          have hza := rightN_size hra
          have hzb := rightN_size hrb
          obtain ⟨r, hr⟩ : ∃ r, decide (a = b) = r := ⟨_, rfl⟩
          have hpq : (packN a == packN b) = r := by
            rw [← hr, Bool.eq_iff_iff]
            simp only [beq_iff_eq, decide_eq_true_eq]
            constructor
            · intro h
              unfold packN at h
              rw [hra, hrb] at h
              have := packL_inj (by simp; omega) (by simp; omega) h
              exact bytes_data.2 this |>.trans (by simp)
            · intro h
              rw [h]
          have hbe := bytes_eq a b
          rw [hr] at hbe
          have hbs := bytes_eq a a
          rw [decide_eq_true rfl] at hbs
          clear hra hrb hza hzb hr
          go_enter Try.func7, Try.ntmps7
          go_wp2_with fail
          refine (pack_any a Ha.out _).mono ?_; rintro e w1 ⟨rfl, hb1⟩
          rw [Hra.out, show errN true = 0 from rfl]
          have Hb1 := Lib.hid hb1
          clear hb1
          go_wp2_with (refine wpList_alloc_row rfl _ rfl _ Try.packZero ?_)
          apply Stop.go; intro w2 Hg2 Hx2
          go_wp2_with (refine wpList_store_arr rfl _ _ _ rfl _ _ rfl rfl _ _ Hx2.out (Try.packFits Lp.out) (by rw [bcells_size, bcells_size, Lp.out, zeros_len]) (oneCell_bcells _) ?_)
          apply Stop.go; intro w3 Ho3 Hx3
          have Hw3 := Lib.hid (bonly (bt Hb1.out Hg2.out.1) Ho3.out Hb1.out.size)
          go_wp2_with fail
          refine (pack_any b Hb.out _).mono ?_; rintro e w4 ⟨rfl, hb4⟩
          rw [Hrb.out, show errN true = 0 from rfl]
          have Hw4 := Lib.hid (bt Hw3.out hb4)
          have Hx4 := Lib.hid (Hx3.out.ext hb4)
          clear hb4
          go_wp2_with (refine wpList_alloc_row rfl _ rfl _ Try.packZero ?_)
          apply Stop.go; intro w5 Hg5 Hx5
          go_wp2_with (refine wpList_store_arr rfl _ _ _ rfl _ _ rfl rfl _ _ Hx5.out (Try.packFits Lq.out) (by rw [bcells_size, bcells_size, Lq.out, zeros_len]) (oneCell_bcells _) ?_)
          apply Stop.go; intro w6 Ho6 Hx6
          have Hw6 := Lib.hid (bonly (bt Hw4.out Hg5.out.1) Ho6.out Hw4.out.size)
          have Hy6 := Lib.hid ((Hx4.out.ext Hg5.out.1).only Ho6.out (Nat.ne_of_lt Hx4.out.lt))
          go_wp2_with (refine wpList_load_arr rfl _ _ rfl _ rfl _ _ Hy6.out _ _ Try.underlying36 (Try.packFits Lp.out) ?_)
          refine (unpack_any _ Lp.out _).mono ?_; rintro e w7 ⟨rfl, hb7⟩
          rw [Hu1.out, Hu2.out, show errN true = 0 from rfl]
          have Hw7 := Lib.hid (bt Hw6.out hb7)
          have Hx7 := Lib.hid (Hx6.out.ext hb7)
          have Hy7 := Lib.hid (Hy6.out.ext hb7)
          clear hb7
          cases r
          all_goals
            go_wp2_with (first | refine wpList_load_arr rfl _ _ rfl _ rfl _ _ Hy7.out _ _ Try.underlying36 (Try.packFits Lp.out) ?_ | refine wpList_load_arr rfl _ _ rfl _ rfl _ _ Hx7.out _ _ Try.underlying36 (Try.packFits Lq.out) ?_ | refine wpList_eql_arr rfl _ _ _ _ rfl Try.packGuard _ _ Try.underlying36 Try.underlying5 Try.packByte (packN a) (packN b) rfl rfl Lp.out Lq.out _ hpq ?_)
            refine (works03_any _).mono ?_; rintro e w8 ⟨rfl, hb8⟩
            have Hw8 := Lib.hid (bt Hw7.out hb8)
            clear hb8
            go_wp2_with fail
            go_ret
            exact ⟨rfl, Hw8.out⟩
    · have d2 : decide ((300 : Int) < b.size) = true := by simp; omega
      go_enter Try.func7, Try.ntmps7
      go_wp2_with fail
      refine (works03_any _).mono ?_; rintro e w3 ⟨rfl, hb3⟩
      go_wp2_with fail
      go_ret
      exact ⟨rfl, hb3⟩
  · have d1 : decide ((300 : Int) < a.size) = true := by simp; omega
    go_enter Try.func7, Try.ntmps7
    go_wp2_with fail
    refine (works03_any _).mono ?_; rintro e w3 ⟨rfl, hb3⟩
    go_wp2_with fail
    go_ret
    exact ⟨rfl, hb3⟩

end Go.Proofs.Ytfgkbjpiffaeeaa
