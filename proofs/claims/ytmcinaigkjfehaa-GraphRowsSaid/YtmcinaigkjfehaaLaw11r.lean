/-
  The walk of GraphRows.
-/
import Derived.Test.YtmcinaigkjfehaaLw11w
import Derived.Test.YtmcinaigkjfehaaLw9b
import Derived.Test.YtmcinaigkjfehaaLw11b
import Derived.Test.YtmcinaigkjfehaaRef11d
namespace Go.Proofs.Ytmcinaigkjfehaa
open Go.RowKit

set_option maxRecDepth 100000 in
set_option maxHeartbeats 16000000 in
theorem graphRows_tail (A : Option Addr) (n cap : Nat) (l : List Cg) (hn : l.length = n) (hcap : n ≤ cap ∧ cap ≤ maxLen) (id : Int) (Ab : Option Addr) (nb cb : Nat) (bs : List Int) (hnb : bs.length = nb) (hbw : ∀ z ∈ bs, -9223372036854775808 ≤ z ∧ z < 9223372036854775808) (hb20 : nb ≤ 20) (hl : l.length ≤ 16) (hd : ∀ c ∈ l, c.p.data.length ≤ 300 ∧ c.needs.length ≤ 60) (w : World) (hr : RdL RdC w A 5 l) (hrb : RC w Ab (ivals bs)) (HM : Calls Try.prog 8 #[.slice A n cap, .int .i64 16] w fun e w' => e = .returned (.bool false) ∧ w = w') :
    Calls Try.prog 4 #[.slice A n cap, .int .i64 id, .slice Ab nb cb] w fun e w' => e = .returned (.bool true) ∧ Below w.heap.size w w' := by
  have HM := Lib.hid HM
  have Hn := Lib.hid hn
  have Hr := Lib.hid hr
  have Hrb := Lib.hid hrb
  have Hnb := Lib.hid hnb
  have Hbw := Lib.hid hbw
  have Hcap := Lib.hid hcap
  have hn16 : n ≤ 16 := by omega
  have HD := Lib.hid hd
  have HD4 : Hid (∀ c ∈ l, c.p.data.length ≤ 4096 ∧ c.needs.length ≤ 4096) := Lib.hid (fun c hc => by have := hd c hc; omega)
  have HN : Hid (∀ c ∈ l, c.needs.length ≤ 4096) := Lib.hid (fun c hc => (HD4.out c hc).2)
  have d20 : decide ((20 : Int) < (nb : Int)) = false := by simp; omega
  have HLp : Hid ((planC l id).length ≤ 16) := Lib.hid (by
    rw [planC_drain]
    unfold drainC
    split
    · rename_i hs
      have h1 := (drainGo_spec _ _ hs (Nat.le_refl _)).2
      have h2 : (subC l id).length ≤ l.length := List.length_filter_le _ _
      omega
    · simp)
  have HLd : Hid ((drainC l).length ≤ 16) := Lib.hid (by
    unfold drainC
    split
    · rename_i hs
      have h1 := (drainGo_spec _ _ hs (Nat.le_refl _)).2
      omega
    · simp)
  have HLa : Hid ((afterC l bs).length ≤ 16) := Lib.hid (by have := after_len l bs; omega)
  clear hn hr hrb hnb hbw hcap hl hd
  go_enter Try.func4, Try.ntmps4
  go_wp2_with fail
  refine (HM.out).mono ?_; rintro e w2 ⟨rfl, rfl⟩
  go_wp2_with fail
  refine (to9_any A n cap l Hn.out (by omega) HD.out _ Hr.out).mono ?_; rintro e w3 ⟨A3, n3, c3, rfl, e3, q3, r3, hr3, hb3⟩
  have HX := Lib.hid e3
  have hn3 : n3 ≤ 16 := by have := Hn.out; omega
  have HrX := Lib.hid hr3
  have Hw3 := Lib.hid hb3
  clear e3 hr3 hb3
  go_wp2_with fail
  refine (gnext_any A3 n3 c3 l HX.out (by omega) _ HrX.out).mono ?_; rintro e w4 ⟨hb4, hnx⟩
  have Hw4 := Lib.hid (bt Hw3.out hb4)
  have HrX4 := Lib.hid (HrX.out.below hb4)
  have HMy := Lib.hid (rmay_any A n cap l Hn.out (by omega) HN.out w4 (Hr.out.below Hw4.out))
  clear hb4
  rcases hnx with ⟨hmay, hpos, rfl⟩ | ⟨hno, rfl⟩
  focus (
    rw [hmay] at HMy
    have z1 : 0 < n := by have := Hn.out; omega
    have d1 : decide (0 < n) = true := by simpa using z1
    have d2 : decide ((0 : Int) < (n : Int)) = true := by simpa using z1
    have z2 : (0 : Int) < n := by omega
    obtain ⟨ad, Ad, nd, cd, An, nn, cn, rfl, hcv, c0, c1, _, _, _⟩ := Hr.out.cgk hpos
    have e0 : ad.add (0 * 5) = ad := by rw [Nat.zero_mul]; unfold Addr.add; rfl
    rw [e0] at c0 c1
    have C1 := Lib.hid (cell_fld c0 c1)
    have e1 : ((cgA l 0).block != (cgA l 0).block) = false := by simp
    generalize (cgA l 0).block = b at *
    clear c0 c1 e0 hcv hmay hpos
    go_wp2_with fail
    refine (HMy.out).mono ?_; rintro e w5 ⟨rfl, hb5⟩
    have Hw5 := Lib.hid (bt Hw4.out hb5)
    have HrX5 := Lib.hid (HrX4.out.below hb5)
    have k1 := (Hw5.out.cell (block_lt_of_cell C1.out)).trans C1.out
    clear hb5
    go_wp2_with fail
    clear k1)
  rotate_left
  by_cases hmay : mayC l = true
  focus (
    have hn0 : n = 0 := by
      rcases hno with h | h
      · rw [hmay] at h; cases h
      · have := Hn.out; omega
    rw [hmay] at HMy
    subst hn0
    clear hno hmay
    go_wp2_with fail
    refine (HMy.out).mono ?_; rintro e w5 ⟨rfl, hb5⟩
    have Hw5 := Lib.hid (bt Hw4.out hb5)
    have HrX5 := Lib.hid (HrX4.out.below hb5)
    clear hb5
    go_wp2_with fail)
  rotate_left
  focus (
    have hmay : mayC l = false := by simpa using hmay
    rw [hmay] at HMy
    clear hno hmay
    go_wp2_with fail
    refine (HMy.out).mono ?_; rintro e w5 ⟨rfl, hb5⟩
    have Hw5 := Lib.hid (bt Hw4.out hb5)
    have HrX5 := Lib.hid (HrX4.out.below hb5)
    clear hb5
    go_wp2_with fail)
  all_goals
    clear HMy HrX4 Hw4 HrX Hw3
    refine (gplan_any A3 n3 c3 l HX.out q3 (by omega) HN.out id _ HrX5.out).mono ?_; rintro e w6 ⟨A6, n6, c6, rfl, e6, q6, r6, hr6, hb6⟩
    have Hi6 := Lib.hid hr6
    have He6 := Lib.hid e6
    have Hw6 := Lib.hid (bt Hw5.out hb6)
    have HrX6 := Lib.hid (HrX5.out.below hb6)
    have hn6 : n6 ≤ 16 := by rw [← e6]; exact HLp.out
    clear e6 hr6 hb6 Hw5 HrX5
    go_wp2_with fail
    refine (rplan11_any _ _ _ l Hn.out Hcap.out (by omega) HN.out id _ (Hr.out.below Hw6.out)).mono ?_; rintro e w7 ⟨A7, n7, c7, rfl, e7, q7, r7, hr7, hb7⟩
    have Hi67 := Lib.hid (Hi6.out.below hb7)
    have Hi7 := Lib.hid hr7
    have He7 := Lib.hid e7
    have Hw7 := Lib.hid (bt Hw6.out hb7)
    have HrX7 := Lib.hid (HrX6.out.below hb7)
    have hn7 : n7 ≤ 16 := by rw [← e7]; exact HLp.out
    clear e7 hr7 hb7 Hi6 Hw6 HrX6
    go_wp2_with fail
    refine (ints_any A6 n6 c6 (planC l id) He6.out A7 n7 c7 (planC l id) He7.out (by unfold maxLen; omega) (by unfold maxLen; omega) _ Hi67.out Hi7.out).mono ?_; rintro e w8 ⟨rfl, k8, rfl⟩
    rw [show decide (planC l id = planC l id) = true by simp]
    have Hw8 := Lib.hid (bt Hw7.out (bdrew w7 k8))
    have HrX8 := Lib.hid (HrX7.out.below (bdrew w7 k8))
    generalize w7.drewN k8 = w8 at *
    clear Hi67 Hi7 Hw7 HrX7 He6 He7
    go_wp2_with fail
    refine (gdrain_any A3 n3 c3 l HX.out (by omega) HN.out _ HrX8.out).mono ?_; rintro e w9 ⟨A9, n9, c9, rfl, e9, q9, r9, hr9, hb9⟩
    have Hi9 := Lib.hid hr9
    have He9 := Lib.hid e9
    have Hw9 := Lib.hid (bt Hw8.out hb9)
    have HrX9 := Lib.hid (HrX8.out.below hb9)
    have hn9 : n9 ≤ 16 := by rw [← e9]; exact HLd.out
    clear e9 hr9 hb9 Hw8 HrX8
    go_wp2_with fail
    refine (rdrain11_any _ _ _ l Hn.out Hcap.out (by omega) HN.out _ (Hr.out.below Hw9.out)).mono ?_; rintro e w10 ⟨A10, n10, c10, rfl, e10, q10, r10, hr10, hb10⟩
    have Hi910 := Lib.hid (Hi9.out.below hb10)
    have Hi10 := Lib.hid hr10
    have He10 := Lib.hid e10
    have Hw10 := Lib.hid (bt Hw9.out hb10)
    have HrX10 := Lib.hid (HrX9.out.below hb10)
    have hn10 : n10 ≤ 16 := by rw [← e10]; exact HLd.out
    clear e10 hr10 hb10 Hi9 Hw9 HrX9
    go_wp2_with fail
    refine (ints_any A9 n9 c9 (drainC l) He9.out A10 n10 c10 (drainC l) He10.out (by unfold maxLen; omega) (by unfold maxLen; omega) _ Hi910.out Hi10.out).mono ?_; rintro e w11 ⟨rfl, k11, rfl⟩
    rw [show decide (drainC l = drainC l) = true by simp]
    have Hw11 := Lib.hid (bt Hw10.out (bdrew w10 k11))
    have HrX11 := Lib.hid (HrX10.out.below (bdrew w10 k11))
    generalize w10.drewN k11 = w11 at *
    clear Hi910 Hi10 Hw10 HrX10 He9 He10
    go_wp2_with fail
    refine (gafter_any A3 n3 c3 l HX.out (by omega) HD4.out Ab nb cb bs Hnb.out Hbw.out (by omega) _ HrX11.out (Hrb.out.below Hw11.out)).mono ?_; rintro e w12 ⟨A12, n12, c12, rfl, e12, q12, r12, hr12, hb12⟩
    have Hi12 := Lib.hid hr12
    have He12 := Lib.hid e12
    have Hw12 := Lib.hid (bt Hw11.out hb12)
    have hn12 : n12 ≤ 16 := by rw [← e12]; exact HLa.out
    clear e12 hr12 hb12 Hw11 HrX11
    go_wp2_with fail
    refine (of9_any A12 n12 c12 (afterC l bs) He12.out (by omega) _ Hi12.out).mono ?_; rintro e w13 ⟨A13, n13, c13, rfl, e13, q13, r13, hr13, hb13⟩
    have Hi13 := Lib.hid hr13
    have He13 := Lib.hid e13
    have Hw13 := Lib.hid (bt Hw12.out hb13)
    have hn13 : n13 ≤ 16 := by rw [← e13]; exact HLa.out
    clear e13 hr13 hb13 Hw12 Hi12 He12
    go_wp2_with fail
    refine (rafter11_any _ _ _ l Hn.out Hcap.out (by omega) HN.out Ab nb cb bs Hnb.out (by omega) _ (Hr.out.below Hw13.out) (Hrb.out.below Hw13.out)).mono ?_; rintro e w14 ⟨A14, n14, c14, rfl, e14, q14, r14, hr14, hb14⟩
    obtain rfl : n14 = n13 := e14.symm.trans He13.out
    have Hi14 := Lib.hid hr14
    have Hi134 := Lib.hid (Hi13.out.below hb14)
    have Hw14 := Lib.hid (bt Hw13.out hb14)
    clear hr14 hb14 Hw13 Hi13
    go_wp2_with fail
    refine (rsameAll9_any A13 n14 c13 A14 c14 (afterC l bs) He13.out (by omega) _ Hi134.out Hi14.out).mono ?_; rintro e w15 ⟨rfl, hb15⟩
    have Hw15 := Lib.hid (bt Hw14.out hb15)
    clear hb15 Hw14
    go_wp2_with fail
    refine (works11_any _).mono ?_; rintro e w16 ⟨rfl, hb16⟩
    go_wp2_with fail
    go_ret
    exact ⟨rfl, bt Hw15.out hb16⟩

set_option maxRecDepth 100000 in
set_option maxHeartbeats 4000000 in
theorem graphRows_any (A : Option Addr) (n cap : Nat) (l : List Cg) (hn : l.length = n) (hcap : n ≤ cap) (hm : cap ≤ maxLen) (id : Int) (Ab : Option Addr) (nb cb : Nat) (bs : List Int) (hnb : bs.length = nb) (hbw : ∀ z ∈ bs, -9223372036854775808 ≤ z ∧ z < 9223372036854775808) (w : World) (hr : RdL RdC w A 5 l) (hrb : RC w Ab (ivals bs)) :
    Calls Try.prog 4 #[.slice A n cap, .int .i64 id, .slice Ab nb cb] w fun e w' => e = .returned (.bool true) ∧ Below w.heap.size w w' := by
  have HM := Lib.hid (rmuchc_any 16 (by decide) A n cap l hn (Nat.le_trans hcap hm) w hr)
  cases hmu : muchC l 16
  · rw [hmu] at HM
    obtain ⟨hl, hd⟩ := muchC_no hmu
    by_cases h20 : nb ≤ 20
    · exact graphRows_tail A n cap l hn ⟨hcap, hm⟩ id Ab nb cb bs hnb hbw h20 hl hd w hr hrb HM.out
    · have d20 : decide ((20 : Int) < (nb : Int)) = true := by simp; omega
      clear hr hrb hn hnb hbw hl hd hmu
      go_enter Try.func4, Try.ntmps4
      go_wp2_with fail
      refine (HM.out).mono ?_; rintro e w2 ⟨rfl, rfl⟩
      go_wp2_with fail
      refine (works11_any _).mono ?_; rintro e w3 ⟨rfl, hb3⟩
      go_wp2_with fail
      go_ret
      exact ⟨rfl, hb3⟩
  · rw [hmu] at HM
    clear hr hrb hn hnb hbw hmu
    go_enter Try.func4, Try.ntmps4
    go_wp2_with fail
    refine (HM.out).mono ?_; rintro e w2 ⟨rfl, rfl⟩
    go_wp2_with fail
    refine (works11_any _).mono ?_; rintro e w3 ⟨rfl, hb3⟩
    go_wp2_with fail
    go_ret
    exact ⟨rfl, hb3⟩

end Go.Proofs.Ytmcinaigkjfehaa
