/-
  The walk of GraphTells.
-/
import Derived.Test.YtmcinaigkjfehaaLw11w
import Derived.Test.YtmcinaigkjfehaaLw9a
import Derived.Test.YtmcinaigkjfehaaRef11c
namespace Go.Proofs.Ytmcinaigkjfehaa
open Go.RowKit

set_option maxRecDepth 100000 in
set_option maxHeartbeats 16000000 in
theorem graphTells_any (A : Option Addr) (n cap : Nat) (l : List Cg) (hn : l.length = n) (hcap : n ≤ cap) (hm : cap ≤ maxLen) (id : Int) (w : World) (hr : RdL RdC w A 5 l) :
    Calls Try.prog 3 #[.slice A n cap, .int .i64 id] w fun e w' => e = .returned (.bool true) ∧ Below w.heap.size w w' := by
  have HM := Lib.hid (rmuchc_any 24 (by decide) A n cap l hn (Nat.le_trans hcap hm) w hr)
  have Hn := Lib.hid hn
  have Hr := Lib.hid hr
  clear hn hr
  cases hmu : muchC l 24
  rotate_left
  · rw [hmu] at HM
    clear hmu
    go_enter Try.func3, Try.ntmps3
    go_wp2_with fail
    refine (HM.out).mono ?_; rintro e w2 ⟨rfl, rfl⟩
    go_wp2_with fail
    refine (works11_any _).mono ?_; rintro e w3 ⟨rfl, hb3⟩
    go_wp2_with fail
    go_ret
    exact ⟨rfl, hb3⟩
  · obtain ⟨hl, hd⟩ := muchC_no hmu
    rw [hmu] at HM
    clear hmu
    have hn24 : n ≤ 24 := by have := Hn.out; omega
    have HD := Lib.hid hd
    have HN : Hid (∀ c ∈ l, c.needs.length ≤ 4096) := Lib.hid (fun c hc => by have := (hd c hc).2; omega)
    have hal : (allC l id).length ≤ 24 := by have := allC_le_len l id; omega
    obtain ⟨Z, hZ⟩ : ∃ Z, allC l id = Z := ⟨_, rfl⟩
    have HZ := Lib.hid hZ
    rw [hZ] at hal
    clear hl hd hZ
    go_enter Try.func3, Try.ntmps3
    go_wp2_with fail
    refine (HM.out).mono ?_; rintro e w2 ⟨rfl, rfl⟩
    go_wp2_with fail
    refine (to9_any A n cap l Hn.out (by omega) HD.out _ Hr.out).mono ?_; rintro e w3 ⟨A3, n3, c3, rfl, e3, q3, r3, hr3, hb3⟩
    have HX := Lib.hid e3
    have hn3 : n3 ≤ 24 := by have := Hn.out; omega
    have HrX := Lib.hid hr3
    have Hw3 := Lib.hid hb3
    clear e3 hr3 hb3
    go_wp2_with fail
    refine (gAll_any A3 n3 c3 l HX.out q3 (by omega) HN.out id _ HrX.out).mono ?_; rintro e w4 ⟨A4, n4, c4, rfl, e4, q4, r4, hr4, hb4⟩
    rw [HZ.out] at e4 hr4
    have Hi4 := Lib.hid hr4
    have He4 := Lib.hid e4
    have Hw4 := Lib.hid (bt Hw3.out hb4)
    have HrX4 := Lib.hid (HrX.out.below hb4)
    clear e4 hr4 hb4
    go_wp2_with fail
    refine (rall11_any A n cap l Hn.out (by omega) HN.out id _ (Hr.out.below Hw4.out)).mono ?_; rintro e w5 ⟨A5, n5, c5, rfl, e5, q5, r5, hr5, hb5⟩
    rw [HZ.out] at e5 hr5
    have Hi5 := Lib.hid hr5
    have He5 := Lib.hid e5
    have Hi45 := Lib.hid (Hi4.out.below hb5)
    have Hw5 := Lib.hid (bt Hw4.out hb5)
    have HrX5 := Lib.hid (HrX4.out.below hb5)
    have hn4 : n4 ≤ 24 := by have := He4.out; omega
    have hn5 : n5 ≤ 24 := by have := He5.out; omega
    clear e5 hr5 hb5
    go_wp2_with fail
    refine (ints_any A4 n4 c4 Z He4.out A5 n5 c5 Z He5.out (by unfold maxLen; omega) (by unfold maxLen; omega) _ Hi45.out Hi5.out).mono ?_; rintro e w6 ⟨rfl, q6, rfl⟩
    rw [show decide (Z = Z) = true by simp]
    have Hw6 := Lib.hid (bt Hw5.out (bdrew w5 q6))
    have HrX6 := Lib.hid (HrX5.out.below (bdrew w5 q6))
    generalize w5.drewN q6 = w6 at *
    go_wp2_with fail
    refine (gdepth_any A3 n3 c3 l HX.out q3 (by omega) HN.out id _ HrX6.out).mono ?_; rintro e w7 ⟨rfl, hb7⟩
    have Hw7 := Lib.hid (bt Hw6.out hb7)
    clear hb7
    go_wp2_with fail
    refine (rdepth11_any A n cap l Hn.out (by omega) HN.out id _ (Hr.out.below Hw7.out)).mono ?_; rintro e w8 ⟨rfl, hb8⟩
    have Hw8 := Lib.hid (bt Hw7.out hb8)
    clear hb8
    go_wp2_with fail
    refine (works11_any _).mono ?_; rintro e w9 ⟨rfl, hb9⟩
    go_wp2_with fail
    go_ret
    exact ⟨rfl, bt Hw8.out hb9⟩

end Go.Proofs.Ytmcinaigkjfehaa
