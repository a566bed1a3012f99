/-
  Contracts of package fread: Size, Spans.
-/
import Derived.Test.YtkakihbfhmiabaaGreatGrAN
import Derived.Test.YtkakihbfhmiabaaGreatGrAJ
import Derived.Test.YtkakihbfhmiabaaGreatGrAH
namespace Go.Proofs.YtkakihbfhmiabaaGreat
open Go.RowKit
set_option maxRecDepth 10000

set_option maxHeartbeats 1600000 in
theorem fsize_any (X : List Int) (hX : X.length = 11) (w : World) :
    Calls Tryz.prog 62 #[.agg (icells X)] w fun e w' => e = .returned (.int .i64 (sizeR X : Nat)) ∧ Below w.heap.size w w' := by
  have HXL := Lib.hid hX
  obtain ⟨K, HK⟩ : ∃ K, Hid (fld X 0 = K) := ⟨_, Lib.hid rfl⟩
  obtain ⟨S, HS⟩ : ∃ S, Hid (fld X 2 = S) := ⟨_, Lib.hid rfl⟩
  clear hX
  by_cases hK : K = 1
  · have HR := Lib.hid (show min (max S 0) 34304 = ((sizeR X : Nat) : Int) by rw [← HS.out]; exact sizeR_yes (by rw [HK.out]; exact hK))
    have d1 : (K != 1) = false := by simpa using hK
    generalize sizeR X = R at *
    clear hK
    have hS : (S < 0 ∧ R = 0) ∨ (0 ≤ S ∧ 34304 < S ∧ R = 34304) ∨ (0 ≤ S ∧ S ≤ 34304 ∧ S = (R : Int)) := by have := HR.out; omega
    clear HR
    rcases hS with ⟨h1, rfl⟩ | ⟨h1, h2, rfl⟩ | ⟨h1, h2, h3⟩
    all_goals
      have HS := HS
      have HK := HK
      go_enter Tryz.func62, Tryz.ntmps62
      go_wp2_with (refine wpList_box_row rfl _ _ rfl _ rfl ?_)
      apply Stop.go; intro w1 Hg1 Hb1
      have c0 : w1.cell? ⟨w.heap.size, 0, none⟩ = some (.int .i64 K) := by rw [← HK.out]; exact Hb1.out.fld 0 (by rw [HXL.out]; omega)
      have c2 : w1.cell? ⟨w.heap.size, 2, none⟩ = some (.int .i64 S) := by rw [← HS.out]; exact Hb1.out.fld 2 (by rw [HXL.out]; omega)
      go_wp2_with fail
      go_ret
      first
      | exact ⟨rfl, Hg1.out.1⟩
      | (rw [← h3]; exact ⟨rfl, Hg1.out.1⟩)
  · have HR := Lib.hid (show sizeR X = 0 from sizeR_no (by rw [HK.out]; exact hK))
    have d1 : (K != 1) = true := by simpa using hK
    generalize sizeR X = R at *
    obtain rfl := HR.out
    clear hK HR
    go_enter Tryz.func62, Tryz.ntmps62
    go_wp2_with (refine wpList_box_row rfl _ _ rfl _ rfl ?_)
    apply Stop.go; intro w1 Hg1 Hb1
    have c0 : w1.cell? ⟨w.heap.size, 0, none⟩ = some (.int .i64 K) := by rw [← HK.out]; exact Hb1.out.fld 0 (by rw [HXL.out]; omega)
    go_wp2_with fail
    go_ret
    exact ⟨rfl, Hg1.out.1⟩

theorem Tryz.spanInfo : (Tryz.prog.info? 181).map (fun i => (i.zero, i.size, i.bytes)) = some (some (.agg (icells [0, 0, 0])), 3, 24) := by kernel_rfl
theorem icells3_one (a b c : Int) : (icells [a, b, c]).all (·.oneCell') = true := oneCell_icells _
set_option maxHeartbeats 3200000 in
theorem fspans_any (off n : Int) (ho : -9223372036854775808 ≤ off ∧ off < 9223372036854775808) (hn : -9223372036854775808 ≤ n ∧ n < 9223372036854775808) (w : World) :
    Calls Tryz.prog 134 #[.int .i64 off, .int .i64 n] w (RetN w 181 3 (irows (spansS off n))) := by
  obtain ⟨o, Ho⟩ : ∃ o, Hid (loS off = o) := ⟨_, Lib.hid rfl⟩
  obtain ⟨e, He⟩ : ∃ e, Hid (hiS off n = e) := ⟨_, Lib.hid rfl⟩
  obtain ⟨E, HE⟩ : ∃ E, Hid (e.toNat = E) := ⟨_, Lib.hid rfl⟩
  obtain ⟨N, HN⟩ : ∃ N, Hid (numS o E = N) := ⟨_, Lib.hid rfl⟩
  have hs : spansS off n = spnS o E N := by unfold spansS; rw [Ho.out, He.out, HE.out, HN.out]
  rw [hs]
  have hle : e ≤ 34304 := by rw [← He.out]; exact hiS_le _ _
  have hlo : -9223372036854775808 ≤ e := by have := He.out; unfold hiS at this; omega
  have h1 : max off 0 = (o : Int) := by have := Ho.out; unfold loS at this; omega
  have h2 : (o : Int) + min n (34304 - (o : Int)) = e := by rw [← h1]; exact He.out
  have HNl := Lib.hid (show N ≤ 134 by rw [← HN.out]; exact numS_le (by have := HE.out; omega))
  obtain ⟨P, hP⟩ : ∃ P : Nat → Nat, ∀ k, posS o E k = P k := ⟨posS o E, fun _ => rfl⟩
  obtain ⟨R, hR⟩ : ∃ R : Nat → List (List Int), ∀ k, spnS o E k = R k := ⟨spnS o E, fun _ => rfl⟩
  have HLt := Lib.hid (fun k (h : k < N) => show P k < E by rw [← hP]; exact posS_lt (by rw [HN.out]; exact h))
  have HEn := Lib.hid (show E ≤ P N by rw [← HN.out, ← hP]; exact posS_end)
  have HNx := Lib.hid (fun k (h : k < N) => show P (k + 1) = P k + min (256 - P k % 256) (E - P k) by rw [← hP, ← hP]; exact posS_next (by rw [HN.out]; exact h))
  have HRx := Lib.hid (fun k (h : k < N) => show irows (R (k + 1)) = irows (R k) ++ [ivals [((P k / 256 : Nat) : Int), ((P k % 256 : Nat) : Int), ((min (256 - P k % 256) (E - P k) : Nat) : Int)]] by
    rw [irows_snoc, ← hR, ← hR, spnS_next, ← hP, posS_div (show k < numS o E by rw [HN.out]; exact h)]
    rfl)
  have HRl := Lib.hid (fun k => show (irows (R k)).length = k by rw [irows_len, ← hR, spnS_len])
  have HP0 := Lib.hid (show P 0 = o from (hP 0).symm)
  have HR0 := Lib.hid (show irows (R 0) = [] by rw [← hR]; rfl)
  rw [hR]
  clear hP hR
  have hcs : (off < 0 ∧ o = 0 ∧ 34304 < n ∧ 34304 = e) ∨ (off < 0 ∧ o = 0 ∧ n ≤ 34304 ∧ n = e) ∨ (off = (o : Int) ∧ 34304 - (o : Int) < n ∧ (o : Int) + (34304 - (o : Int)) = e) ∨ (off = (o : Int) ∧ n ≤ 34304 - (o : Int) ∧ (o : Int) + n = e) := by
    clear HLt HEn HNx HRx HRl
    omega
  have Hlo := Lib.hid hlo
  have Hle := Lib.hid hle
  clear hs Ho HN He h1 h2 hlo hle
  rcases hcs with ⟨q1, q2, q3, q4⟩ | ⟨q1, q2, q3, q4⟩ | ⟨q1, q3, q4⟩ | ⟨q1, q3, q4⟩
  all_goals
    have Hq4 := Lib.hid q4
    first | subst q2 | subst q1
    clear q4
    go_enter Tryz.func134, Tryz.ntmps134
    go_wp2_with fail
    try rw [Hq4.out]
    clear Hq4 q3 ho hn
    first | clear q1 | skip
    have hle := Hle.out
    go_loopw [0, 6] (fun z u wr => ∃ k : Nat, k ≤ N ∧ z = .int .i64 (P k : Nat) ∧ Hid (Below w.heap.size w wr) ∧ Hid (OwnN wr w.heap.size 181 3 u (irows (R k)))) (fun z _ _ => E - (intOf z).toNat)
    case atStart => exact ⟨0, Nat.zero_le _, by first | (rw [HP0.out]; done) | (rw [HP0.out]; rfl), Lib.hid (Below.refl _ _), Lib.hid (by rw [HR0.out]; exact OwnN.nil_ _ _ _ _)⟩
    case round =>
      obtain ⟨k, hk, rfl, D, HO⟩ := hrel
      by_cases hlt : k < N
      · have hpe := HLt.out k hlt
        have HPn := Lib.hid (HNx.out k hlt)
        have HRn := Lib.hid (HRx.out k hlt)
        have HLk := Lib.hid (HRl.out k)
        have HNk := Lib.hid HNl.out
        obtain rfl : e = (E : Int) := by have := HE.out; omega
        generalize P k = p at *
        obtain ⟨m, Hm⟩ : ∃ m, Hid (min (256 - p % 256) (E - p) = m) := ⟨_, Lib.hid rfl⟩
        rw [Hm.out] at HPn HRn
        have Z := Lib.hid D.out.size
        have hc : ((E : Int) - (p : Int) < 256 - (p : Int) % 256 ∧ (m : Int) = (E : Int) - (p : Int)) ∨ (256 - (p : Int) % 256 ≤ (E : Int) - (p : Int) ∧ (m : Int) = 256 - (p : Int) % 256) := by have := Hm.out; omega
        have Hcs := Lib.hid (fun (x : Int) (h : (m : Int) = x) => show ivals [((p / 256 : Nat) : Int), ((p % 256 : Nat) : Int), (m : Int)] = (#[.int .i64 ((p : Int) / 256), .int .i64 ((p : Int) % 256), .int .i64 x] : Array Value).toList by
          rw [h, show ((p / 256 : Nat) : Int) = (p : Int) / 256 from by omega, show ((p % 256 : Nat) : Int) = (p : Int) % 256 from by omega]
          rfl)
        have Hm1 := Lib.hid (show 0 < m ∧ p + m ≤ E by have := Hm.out; omega)
        clear Hm
        rcases hc with ⟨c1, c2⟩ | ⟨c1, c2⟩
        · have HRm := Lib.hid (HRn.out.trans (congrArg (fun r => irows (R k) ++ [r]) (Hcs.out _ c2)))
          have Hc2 := Lib.hid c2
          have hb0 : Blk (wr.alloc (.cells #[.int .i64 ((p : Int) / 256), .int .i64 ((p : Int) % 256), .int .i64 ((E : Int) - (p : Int))] 181)) wr.heap.size 181 #[.int .i64 ((p : Int) / 256), .int .i64 ((p : Int) % 256), .int .i64 ((E : Int) - (p : Int))] := Blk.new wr _ _
          have hd0 : Below wr.heap.size wr (wr.alloc (.cells #[.int .i64 ((p : Int) / 256), .int .i64 ((p : Int) % 256), .int .i64 ((E : Int) - (p : Int))] 181)) := (Below.refl _ _).alloc (Nat.le_refl _) _
          have HB7 := Lib.hid hb0
          have HO7 := Lib.hid (HO.out.ext hd0)
          have D7 := Lib.hid (bt D.out hd0)
          have z7 := Lib.hid D7.out.size
          clear c2 Hcs HRn hb0 hd0
          go_wp2_with (at_builtin; refine wpList_append_row1 rfl _ _ _ _ rfl Tryz.underlying179 3 _ _ Tryz.spanInfo rfl (by decide) w.heap.size _ _ rfl HO7.out _ #[.int .i64 ((p : Int) / 256), .int .i64 ((p : Int) % 256), .int .i64 ((E : Int) - (p : Int))] rfl HB7.out rfl (by simp [Value.oneCell']) z7.out (by have := HLk.out; have := HNk.out; omega) (by have := HLk.out; have := HNk.out; omega) ?_)
          apply Stop.go; intro gn cap w8 HO8 HB8 HG8 HL8
          rw [← HRm.out] at HO8
          have D8 := Lib.hid (D7.out.trans HB8.out)
          clear HO7 D7 z7 HB7 HB8 HG8 HL8 HO D
          go_wp2_with fail
          go_roundw
          case rel => exact ⟨k + 1, by omega, by rw [HPn.out]; have := Hc2.out; go_num, D8, HO8⟩
          case measure => have := Hm1.out; have := Hc2.out; simp [intOf]; omega
        · have HRm := Lib.hid (HRn.out.trans (congrArg (fun r => irows (R k) ++ [r]) (Hcs.out _ c2)))
          have Hc2 := Lib.hid c2
          have hb0 : Blk (wr.alloc (.cells #[.int .i64 ((p : Int) / 256), .int .i64 ((p : Int) % 256), .int .i64 (256 - (p : Int) % 256)] 181)) wr.heap.size 181 #[.int .i64 ((p : Int) / 256), .int .i64 ((p : Int) % 256), .int .i64 (256 - (p : Int) % 256)] := Blk.new wr _ _
          have hd0 : Below wr.heap.size wr (wr.alloc (.cells #[.int .i64 ((p : Int) / 256), .int .i64 ((p : Int) % 256), .int .i64 (256 - (p : Int) % 256)] 181)) := (Below.refl _ _).alloc (Nat.le_refl _) _
          have HB7 := Lib.hid hb0
          have HO7 := Lib.hid (HO.out.ext hd0)
          have D7 := Lib.hid (bt D.out hd0)
          have z7 := Lib.hid D7.out.size
          clear c2 Hcs HRn hb0 hd0
          go_wp2_with (at_builtin; refine wpList_append_row1 rfl _ _ _ _ rfl Tryz.underlying179 3 _ _ Tryz.spanInfo rfl (by decide) w.heap.size _ _ rfl HO7.out _ #[.int .i64 ((p : Int) / 256), .int .i64 ((p : Int) % 256), .int .i64 (256 - (p : Int) % 256)] rfl HB7.out rfl (by simp [Value.oneCell']) z7.out (by have := HLk.out; have := HNk.out; omega) (by have := HLk.out; have := HNk.out; omega) ?_)
          apply Stop.go; intro gn cap w8 HO8 HB8 HG8 HL8
          rw [← HRm.out] at HO8
          have D8 := Lib.hid (D7.out.trans HB8.out)
          clear HO7 D7 z7 HB7 HB8 HG8 HL8 HO D
          go_wp2_with fail
          go_roundw
          case rel => exact ⟨k + 1, by omega, by rw [HPn.out]; have := Hc2.out; go_num, D8, HO8⟩
          case measure => have := Hm1.out; have := Hc2.out; simp [intOf]; omega
      · obtain rfl : k = N := by omega
        have hge : e ≤ (P k : Nat) := by have := HE.out; have := HEn.out; omega
        generalize P k = p at *
        go_wp2_with fail
        go_ret
        exact ⟨_, rfl, HO.out, D.out⟩

end Go.Proofs.YtkakihbfhmiabaaGreat
