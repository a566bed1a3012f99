/-
  Contracts of package ready's each, of whatever it does with each change.
-/
import Derived.Test.YtckkdfpmibipfaaCg2
namespace Go.Proofs.Ytckkdfpmibipfaa
open Go.RowKit

set_option maxRecDepth 100000 in
set_option maxHeartbeats 1600000 in
/-- What is done with each change of a block: whatever holds of the first i holds of all in the end. -/
theorem each4_any (F : FuncId) (q1 q2 q3 q4 : Value) (A : Option Addr) (n cap : Nat) (l : List Cg) (hn : l.length = n) (hm : n ≤ 4096) (block : Int) (I : Nat → World → Prop) (w : World)
    (hcf : ∀ (args : Array Value) (w : World), (callFunc F args).run Try.prog w = .ok (.enter F args) w)
    (hread : ∀ i w, I i w → RdL RdC w A 5 l) (hext : ∀ i w w', I i w → Below w.heap.size w w' → I i w') (hskip : ∀ i w (h : i < l.length), l[i].block ≠ block → I i w → I (i + 1) w)
    (hdo : ∀ i w (h : i < l.length) Ad nd cd An nn cn, l[i].block = block → CV w l[i] Ad nd cd An nn cn → I i w → Calls Try.prog F #[.agg #[.int .i64 l[i].id, .int .i64 l[i].block, .int .i64 l[i].p.at_, .slice Ad nd cd, .slice An nn cn], q1, q2, q3, q4] w fun e w' => e = .returned (.tuple #[]) ∧ I (i + 1) w') (hI : I 0 w) :
    Calls Try.prog 45 #[.slice A n cap, .int .i64 block, .func (.func F) #[] #[q1, q2, q3, q4]] w fun e w' => e = .returned (.tuple #[]) ∧ I n w' := by
  have Hn := Lib.hid hn
  have Hread := Lib.hid hread
  have Hext := Lib.hid hext
  have Hskip := Lib.hid hskip
  have Hdo := Lib.hid hdo
  have H0 := Lib.hid hI
  clear hread hext hskip hdo hn hI
  go_enter Try.func45, Try.ntmps45
  go_wp2_with fail
  go_loopw [10] (fun i wr => ∃ k : Nat, k ≤ n ∧ i = .int .i64 k ∧ I k wr) (fun i _ => n - (intOf i).toNat)
  case atStart => exact ⟨0, Nat.zero_le _, rfl, H0.out⟩
  case round =>
    obtain ⟨k, hk, rfl, hi⟩ := hrel
    have Hi := Lib.hid hi
    clear hi
    by_cases hlt : k < n
    · have d0 : decide ((k : Int) < n) = true := by simpa using hlt
      have hkl : k < l.length := by rw [Hn.out]; exact hlt
      obtain ⟨ad, Ad, nd, cd, An, nn, cn, rfl, hcv, h0, h1, h2, h3, h4⟩ := (Hread.out k wr Hi.out).cg hkl
      have C0 := Lib.hid h0
      have C1 := Lib.hid h1
      have C2 := Lib.hid h2
      have C3 := Lib.hid h3
      have C4 := Lib.hid h4
      have Hcv := Lib.hid hcv
      clear h0 h1 h2 h3 h4 hcv
      have HD := Lib.hid (fun w => Hdo.out k w hkl Ad nd cd An nn cn)
      have HS := Lib.hid (fun w => Hskip.out k w hkl)
      generalize l[k] = c at *
      go_wp2_with (first | refine wpList_load_five rfl _ _ rfl (ad.add (k * 5)) rfl _ _ _ _ _ C0.out C1.out C2.out C3.out C4.out _ Try.underlying59 Try.chgSize ?_ | refine wpList_alloc_row rfl _ rfl _ Try.chgZero ?_); apply Stop.go; intro w3 Hg3 Hb3; go_wp2_with (refine wpList_store_arr rfl _ _ _ rfl _ #[.int .i64 c.id, .int .i64 c.block, .int .i64 c.p.at_, .slice Ad nd cd, .slice An nn cn] rfl rfl _ _ Hb3.out Try.chgSize rfl (by simp [Value.oneCell']) ?_); apply Stop.go; intro w4 Ho4 Hb4; have D4 := Lib.hid (bonly Hg3.out.1 Ho4.out (Nat.le_refl _))
      have Hi4 := Lib.hid (Hext.out k wr w4 Hi.out D4.out)
      have c1 : w4.cell? ⟨wr.heap.size, 1, none⟩ = some (.int .i64 c.block) := Hb4.out.five.2.1
      by_cases hb : c.block = block
      · have HB := Lib.hid hb
        have e1 : (c.block == block) = true := by simpa using hb
        clear hb
        go_wp2_with (refine wpList_load_blk rfl _ _ rfl _ rfl _ _ Hb4.out _ Try.underlying59 rfl Try.chgSize ?_)
        refine (HD.out w4 HB.out (Hcv.out.below D4.out) Hi4.out).mono ?_; rintro e w5 ⟨rfl, hi5⟩
        have Hi5 := Lib.hid hi5
        clear hi5 c1
        go_wp2_with fail
        go_roundw
        case rel => exact ⟨k + 1, by omega, by go_num, Hi5.out⟩
        case measure => simp [intOf]; omega
      · have HB := Lib.hid hb
        have e1 : (c.block == block) = false := by simpa using hb
        clear hb
        go_wp2_with fail
        go_roundw
        case rel => exact ⟨k + 1, by omega, by go_num, HS.out w4 HB.out Hi4.out⟩
        case measure => simp [intOf]; omega
    · have d0 : decide ((k : Int) < n) = false := by simpa using hlt
      have e1 : k = n := by omega
      rw [e1] at Hi
      clear e1
      go_wp2_with fail
      go_end0
      exact ⟨rfl, Hi.out⟩

set_option maxRecDepth 100000 in
set_option maxHeartbeats 1600000 in
/-- What is done with each change of a block: whatever holds of the first i holds of all in the end. -/
theorem each1_any (F : FuncId) (q1 : Value) (A : Option Addr) (n cap : Nat) (l : List Cg) (hn : l.length = n) (hm : n ≤ 4096) (block : Int) (I : Nat → World → Prop) (w : World)
    (hcf : ∀ (args : Array Value) (w : World), (callFunc F args).run Try.prog w = .ok (.enter F args) w)
    (hread : ∀ i w, I i w → RdL RdC w A 5 l) (hext : ∀ i w w', I i w → Below w.heap.size w w' → I i w') (hskip : ∀ i w (h : i < l.length), l[i].block ≠ block → I i w → I (i + 1) w)
    (hdo : ∀ i w (h : i < l.length) Ad nd cd An nn cn, l[i].block = block → CV w l[i] Ad nd cd An nn cn → I i w → Calls Try.prog F #[.agg #[.int .i64 l[i].id, .int .i64 l[i].block, .int .i64 l[i].p.at_, .slice Ad nd cd, .slice An nn cn], q1] w fun e w' => e = .returned (.tuple #[]) ∧ I (i + 1) w') (hI : I 0 w) :
    Calls Try.prog 45 #[.slice A n cap, .int .i64 block, .func (.func F) #[] #[q1]] w fun e w' => e = .returned (.tuple #[]) ∧ I n w' := by
  have Hn := Lib.hid hn
  have Hread := Lib.hid hread
  have Hext := Lib.hid hext
  have Hskip := Lib.hid hskip
  have Hdo := Lib.hid hdo
  have H0 := Lib.hid hI
  clear hread hext hskip hdo hn hI
  go_enter Try.func45, Try.ntmps45
  go_wp2_with fail
  go_loopw [10] (fun i wr => ∃ k : Nat, k ≤ n ∧ i = .int .i64 k ∧ I k wr) (fun i _ => n - (intOf i).toNat)
  case atStart => exact ⟨0, Nat.zero_le _, rfl, H0.out⟩
  case round =>
    obtain ⟨k, hk, rfl, hi⟩ := hrel
    have Hi := Lib.hid hi
    clear hi
    by_cases hlt : k < n
    · have d0 : decide ((k : Int) < n) = true := by simpa using hlt
      have hkl : k < l.length := by rw [Hn.out]; exact hlt
      obtain ⟨ad, Ad, nd, cd, An, nn, cn, rfl, hcv, h0, h1, h2, h3, h4⟩ := (Hread.out k wr Hi.out).cg hkl
      have C0 := Lib.hid h0
      have C1 := Lib.hid h1
      have C2 := Lib.hid h2
      have C3 := Lib.hid h3
      have C4 := Lib.hid h4
      have Hcv := Lib.hid hcv
      clear h0 h1 h2 h3 h4 hcv
      have HD := Lib.hid (fun w => Hdo.out k w hkl Ad nd cd An nn cn)
      have HS := Lib.hid (fun w => Hskip.out k w hkl)
      generalize l[k] = c at *
      go_wp2_with (first | refine wpList_load_five rfl _ _ rfl (ad.add (k * 5)) rfl _ _ _ _ _ C0.out C1.out C2.out C3.out C4.out _ Try.underlying59 Try.chgSize ?_ | refine wpList_alloc_row rfl _ rfl _ Try.chgZero ?_); apply Stop.go; intro w3 Hg3 Hb3; go_wp2_with (refine wpList_store_arr rfl _ _ _ rfl _ #[.int .i64 c.id, .int .i64 c.block, .int .i64 c.p.at_, .slice Ad nd cd, .slice An nn cn] rfl rfl _ _ Hb3.out Try.chgSize rfl (by simp [Value.oneCell']) ?_); apply Stop.go; intro w4 Ho4 Hb4; have D4 := Lib.hid (bonly Hg3.out.1 Ho4.out (Nat.le_refl _))
      have Hi4 := Lib.hid (Hext.out k wr w4 Hi.out D4.out)
      have c1 : w4.cell? ⟨wr.heap.size, 1, none⟩ = some (.int .i64 c.block) := Hb4.out.five.2.1
      by_cases hb : c.block = block
      · have HB := Lib.hid hb
        have e1 : (c.block == block) = true := by simpa using hb
        clear hb
        go_wp2_with (refine wpList_load_blk rfl _ _ rfl _ rfl _ _ Hb4.out _ Try.underlying59 rfl Try.chgSize ?_)
        refine (HD.out w4 HB.out (Hcv.out.below D4.out) Hi4.out).mono ?_; rintro e w5 ⟨rfl, hi5⟩
        have Hi5 := Lib.hid hi5
        clear hi5 c1
        go_wp2_with fail
        go_roundw
        case rel => exact ⟨k + 1, by omega, by go_num, Hi5.out⟩
        case measure => simp [intOf]; omega
      · have HB := Lib.hid hb
        have e1 : (c.block == block) = false := by simpa using hb
        clear hb
        go_wp2_with fail
        go_roundw
        case rel => exact ⟨k + 1, by omega, by go_num, HS.out w4 HB.out Hi4.out⟩
        case measure => simp [intOf]; omega
    · have d0 : decide ((k : Int) < n) = false := by simpa using hlt
      have e1 : k = n := by omega
      rw [e1] at Hi
      clear e1
      go_wp2_with fail
      go_end0
      exact ⟨rfl, Hi.out⟩

end Go.Proofs.Ytckkdfpmibipfaa
