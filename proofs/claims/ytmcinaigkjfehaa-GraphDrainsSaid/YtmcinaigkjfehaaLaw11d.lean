/-
  The walk of GraphDrains.
-/
import Derived.Test.YtmcinaigkjfehaaLw11w
import Derived.Test.YtmcinaigkjfehaaLw9a
import Derived.Test.YtmcinaigkjfehaaR09c
import Derived.Test.YtmcinaigkjfehaaR09g
import Derived.Test.YtmcinaigkjfehaaLw11b
namespace Go.Proofs.Ytmcinaigkjfehaa
open Go.RowKit

set_option maxRecDepth 100000 in
set_option maxHeartbeats 16000000 in
theorem graphDrains_any (A : Option Addr) (n cap : Nat) (l : List Cg) (hn : l.length = n) (hcap : n ≤ cap) (hm : cap ≤ maxLen) (w : World) (hr : RdL RdC w A 5 l) :
    Calls Try.prog 6 #[.slice A n cap] w fun e w' => e = .returned (.bool true) ∧ Below w.heap.size w w' := by
  have HM := Lib.hid (rmuchc_any 16 (by decide) A n cap l hn (Nat.le_trans hcap hm) w hr)
  have Hn := Lib.hid hn
  have Hr := Lib.hid hr
  clear hn hr
  cases hmu : muchC l 16
  rotate_left
  · rw [hmu] at HM
    clear hmu
    go_enter Try.func6, Try.ntmps6
    go_wp2_with fail
    refine (HM.out).mono ?_; rintro e w2 ⟨rfl, rfl⟩
    go_wp2_with fail
    refine (works11_any _).mono ?_; rintro e w3 ⟨rfl, hb3⟩
    go_wp2_with fail
    go_ret
    exact ⟨rfl, hb3⟩
  · obtain ⟨hl, hd⟩ := muchC_no hmu
    rw [hmu] at HM
    clear hmu
    have hn16 : n ≤ 16 := by have := Hn.out; omega
    have HD := Lib.hid hd
    have HD4 : Hid (∀ c ∈ l, c.p.data.length ≤ 4096 ∧ c.needs.length ≤ 4096) := Lib.hid (fun c hc => by have := hd c hc; omega)
    have HN : Hid (∀ c ∈ l, c.needs.length ≤ 4096) := Lib.hid (fun c hc => (HD4.out c hc).2)
    have HMy := Lib.hid (rmay_any A n cap l Hn.out (by omega) HN.out w Hr.out)
    clear hl hd
    cases hmay : mayC l
    · rw [hmay] at HMy
      clear hmay
      go_enter Try.func6, Try.ntmps6
      go_wp2_with fail
      refine (HM.out).mono ?_; rintro e w2 ⟨rfl, rfl⟩
      go_wp2_with fail
      refine (HMy.out).mono ?_; rintro e w3 ⟨rfl, hb3⟩
      have Hw3 := Lib.hid hb3
      clear hb3
      go_wp2_with fail
      refine (works11_any _).mono ?_; rintro e w4 ⟨rfl, hb4⟩
      go_wp2_with fail
      go_ret
      exact ⟨rfl, bt Hw3.out hb4⟩
    · rw [hmay] at HMy
      obtain ⟨s1, s2, s3⟩ := drainC_spec hmay
      have HS1 := Lib.hid s1
      have HS2 := Lib.hid s2
      have HS3 := Lib.hid s3
      clear hmay s1 s2 s3
      go_enter Try.func6, Try.ntmps6
      go_wp2_with fail
      refine (HM.out).mono ?_; rintro e w2 ⟨rfl, rfl⟩
      go_wp2_with fail
      refine (HMy.out).mono ?_; rintro e w3 ⟨rfl, hb3⟩
      have Hw3 := Lib.hid hb3
      clear hb3
      go_wp2_with fail
      refine (to9_any A n cap l Hn.out (by omega) HD.out _ (Hr.out.below Hw3.out)).mono ?_; rintro e w4 ⟨A3, n3, c3, rfl, e3, q3, r3, hr3, hb3⟩
      have HX := Lib.hid e3
      have hn3 : n3 = n := by have := Hn.out; omega
      subst hn3
      have HrX := Lib.hid hr3
      have Hw4 := Lib.hid (bt Hw3.out hb3)
      clear e3 hr3 hb3
      go_wp2_with fail
      refine (gdrain_any A3 n3 c3 l HX.out (by omega) HN.out _ HrX.out).mono ?_; rintro e w5 ⟨A5, n5, c5, rfl, e5, q5, r5, hr5, hb5⟩
      have Hi5 := Lib.hid hr5
      have He5 := Lib.hid e5
      have Hw5 := Lib.hid (bt Hw4.out hb5)
      have HrX5 := Lib.hid (HrX.out.below hb5)
      have hn5 : n5 ≤ n3 := by rw [← e5, ← Hn.out]; exact HS2.out
      have HBw : Hid (∀ z ∈ drainC l, -9223372036854775808 ≤ z ∧ z < 9223372036854775808) := Lib.hid (fun z hz => block_fits Hr.out (drainC_mem hz))
      clear e5 hr5 hb5
      go_wp2_with fail
      refine (gafter_any A3 n3 c3 l HX.out (by omega) HD4.out A5 n5 c5 (drainC l) He5.out HBw.out (by omega) _ HrX5.out Hi5.out).mono ?_; rintro e w6 ⟨A6, n6, c6, rfl, e6, q6, r6, hr6, hb6⟩
      rw [HS1.out] at e6
      obtain rfl : n6 = 0 := e6.symm
      have Hw6 := Lib.hid (bt Hw5.out hb6)
      clear hr6 hb6 e6
      have d5 : decide ((n5 : Int) ≤ n3) = true := by simpa using hn5
      go_wp2_with fail
      refine (rblocks9_any A n3 cap l Hn.out (by omega) _ (Hr.out.below Hw6.out)).mono ?_; rintro e w7 ⟨A7, n7, c7, rfl, e7, q7, r7, hr7, hb7⟩
      have hn7 : n7 ≤ n5 := by rw [← e7, ← He5.out]; exact HS3.out
      have d7 : decide ((n7 : Int) ≤ n5) = true := by simpa using hn7
      have Hw7 := Lib.hid (bt Hw6.out hb7)
      clear hr7 hb7
      go_wp2_with fail
      refine (works11_any _).mono ?_; rintro e w8 ⟨rfl, hb8⟩
      go_wp2_with fail
      go_ret
      exact ⟨rfl, bt Hw7.out hb8⟩

end Go.Proofs.Ytmcinaigkjfehaa
