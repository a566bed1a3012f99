/-
  The walk of ReadyTells.
-/
import Derived.Test.YtkhgoblmfcaapaaLw9a
import Derived.Test.YtkhgoblmfcaapaaLw9w
import Derived.Test.YtkhgoblmfcaapaaR09e
namespace Go.Proofs.Ytkhgoblmfcaapaa
open Go.RowKit

set_option maxRecDepth 100000 in
set_option maxHeartbeats 8000000 in
theorem readyTells_any (A : Option Addr) (n cap : Nat) (l : List Cg) (hn : l.length = n) (hcap : n ≤ cap) (hm : cap ≤ maxLen) (block id : Int) (w : World) (hr : RdL RdC w A 5 l) :
    Calls Try.prog 3 #[.slice A n cap, .int .i64 block, .int .i64 id] w fun e w' => e = .returned (.bool true) ∧ Below w.heap.size w w' := by
  have Hn := Lib.hid hn
  have Hr := Lib.hid hr
  clear hn hr
  have HM := Lib.hid (rmuchc_any 30 (by decide) A n cap l Hn.out (Nat.le_trans hcap hm) w Hr.out)
  cases hmu : muchC l 30
  rotate_left
  · rw [hmu] at HM
    clear hmu
    go_enter Try.func3, Try.ntmps3
    go_wp2_with fail
    refine (HM.out).mono ?_; rintro e w1 ⟨rfl, rfl⟩
    go_wp2_with fail
    refine (works09_any _).mono ?_; rintro e w2 ⟨rfl, hb2⟩
    have Hb2 := Lib.hid hb2
    clear hb2
    go_wp2_with fail
    go_ret
    exact ⟨rfl, Hb2.out⟩
  · obtain ⟨hl, hd⟩ := muchC_no hmu
    rw [hmu] at HM
    have Hl := Lib.hid (show n ≤ 4096 by have := Hn.out; omega)
    have HD := Lib.hid hd
    have HN := Lib.hid (show ∀ d ∈ l, d.needs.length ≤ 4096 from fun d hd => by have := HD.out d hd; omega)
    have HWl := Lib.hid (show (waitsC l id).length ≤ maxLen by have := waitsC_len l id; have := Hn.out; have := Hl.out; unfold maxLen; omega)
    have HRl := Lib.hid (show (readyC l block).length ≤ maxLen by have := (readyC_sub (l := l) (block := block)).length_le; rw [List.length_map] at this; have := Hn.out; have := Hl.out; unfold maxLen; omega)
    clear hmu hl hd
    go_enter Try.func3, Try.ntmps3
    go_wp2_with fail
    refine (HM.out).mono ?_; rintro e w1 ⟨rfl, rfl⟩
    go_wp2_with fail
    refine (to9_any A n cap l Hn.out Hl.out HD.out _ Hr.out).mono ?_; rintro e w3 ⟨A3, n3, c3, rfl, e3, q3, r3, hr3, hb3⟩
    have HX := Lib.hid (show l.length = n3 ∧ n3 ≤ c3 ∧ n3 ≤ 4096 from ⟨e3, q3, by rw [← e3, Hn.out]; exact Hl.out⟩)
    have Hx3 := Lib.hid hr3
    have Hb3 := Lib.hid hb3
    clear hr3 hb3 e3 q3 r3
    go_wp2_with fail
    refine (chk_any A3 n3 c3 l HX.out.1 HX.out.2.2 _ Hx3.out).mono ?_; rintro e w4 ⟨rfl, hb4⟩
    have Hx4 := Lib.hid (Hx3.out.below hb4)
    have Hb4 := Lib.hid (bt Hb3.out hb4)
    have Hr4 := Lib.hid (Hr.out.below Hb4.out)
    clear hb4
    go_wp2_with fail
    refine (rmay_any A n cap l Hn.out Hl.out HN.out _ Hr4.out).mono ?_; rintro e w5 ⟨rfl, hb5⟩
    have Hx5 := Lib.hid (Hx4.out.below hb5)
    have Hr5 := Lib.hid (Hr4.out.below hb5)
    have Hb5 := Lib.hid (bt Hb4.out hb5)
    clear hb5
    have HC := Lib.hid (show (mayC l = true ∧ chkI l = 0) ∨ (mayC l = false ∧ chkI l = 1) by
      cases h : mayC l
      · exact Or.inr ⟨rfl, chkI_no h⟩
      · exact Or.inl ⟨rfl, chkI_yes h⟩)
    generalize mayC l = B at *
    generalize chkI l = E at *
    rcases HC.out with ⟨rfl, rfl⟩ | ⟨rfl, rfl⟩
    all_goals
      go_wp2_with fail
      refine (pready_any A3 n3 c3 l HX.out.1 HX.out.2.2 block _ Hx5.out).mono ?_; rintro e w6 ⟨A6, n6, c6, rfl, e6, q6, r6, hr6, hb6⟩
      have H6 := Lib.hid hr6
      have HE6 := Lib.hid e6
      have Hx6 := Lib.hid (Hx5.out.below hb6)
      have Hr6 := Lib.hid (Hr5.out.below hb6)
      have Hb6 := Lib.hid (bt Hb5.out hb6)
      clear hr6 hb6 e6 q6 r6
      go_wp2_with fail
      refine (rready9_any A n cap l Hn.out Hl.out HN.out block _ Hr6.out).mono ?_; rintro e w7 ⟨A7, n7, c7, rfl, e7, q7, r7, hr7, hb7⟩
      have H7 := Lib.hid hr7
      have HE7 := Lib.hid e7
      have H67 := Lib.hid (H6.out.below hb7)
      have Hx7 := Lib.hid (Hx6.out.below hb7)
      have Hr7 := Lib.hid (Hr6.out.below hb7)
      have Hb7 := Lib.hid (bt Hb6.out hb7)
      clear hr7 hb7 e7 q7 r7
      go_wp2_with fail
      refine (ints_any A6 n6 c6 _ HE6.out A7 n7 c7 _ HE7.out (by rw [← HE6.out]; exact HRl.out) (by rw [← HE7.out]; exact HRl.out) _ H67.out H7.out).mono ?_; rintro e w8 ⟨rfl, q8, rfl⟩
      rw [decide_eq_true rfl]
      have Hx8 := Lib.hid (Hx7.out.below (bdrew w7 q8))
      have Hr8 := Lib.hid (Hr7.out.below (bdrew w7 q8))
      have Hb8 := Lib.hid (bt Hb7.out (bdrew w7 q8))
      generalize w7.drewN q8 = w8 at *
      clear H67 H7 H6 HE6 HE7
      go_wp2_with fail
      refine (pwaits_any A3 n3 c3 l HX.out.1 HX.out.2.1 HX.out.2.2 HN.out id _ Hx8.out).mono ?_; rintro e w9 ⟨A9, n9, c9, rfl, e9, q9, r9, hr9, hb9⟩
      have H9 := Lib.hid hr9
      have HE9 := Lib.hid e9
      have Hr9 := Lib.hid (Hr8.out.below hb9)
      have Hb9 := Lib.hid (bt Hb8.out hb9)
      clear hr9 hb9 e9 q9 r9
      go_wp2_with fail
      refine (rwaits9_any A n cap l Hn.out Hl.out HN.out id _ Hr9.out).mono ?_; rintro e w10 ⟨A10, n10, c10, rfl, e10, q10, r10, hr10, hb10⟩
      have H10 := Lib.hid hr10
      have HE10 := Lib.hid e10
      have H910 := Lib.hid (H9.out.below hb10)
      have Hb10 := Lib.hid (bt Hb9.out hb10)
      clear hr10 hb10 e10 q10 r10
      go_wp2_with fail
      refine (ints_any A9 n9 c9 _ HE9.out A10 n10 c10 _ HE10.out (by rw [← HE9.out]; exact HWl.out) (by rw [← HE10.out]; exact HWl.out) _ H910.out H10.out).mono ?_; rintro e w11 ⟨rfl, q11, rfl⟩
      rw [decide_eq_true rfl]
      have Hb11 := Lib.hid (bt Hb10.out (bdrew w10 q11))
      generalize w10.drewN q11 = w11 at *
      clear H910 H10 H9 HE9 HE10
      go_wp2_with fail
      refine (works09_any _).mono ?_; rintro e w12 ⟨rfl, hb12⟩
      have Hb12 := Lib.hid (bt Hb11.out hb12)
      clear hb12
      go_wp2_with fail
      go_ret
      exact ⟨rfl, Hb12.out⟩

end Go.Proofs.Ytkhgoblmfcaapaa
