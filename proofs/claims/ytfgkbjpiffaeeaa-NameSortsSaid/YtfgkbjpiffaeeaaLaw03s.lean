/-
  Walks of the laws of stage 3 over lists of texts: NameSorts.
-/
import Derived.Test.YtfgkbjpiffaeeaaLaw03
import Derived.Test.YtfgkbjpiffaeeaaName3
import Derived.Test.YtfgkbjpiffaeeaaRef03l
import Derived.Test.YtfgkbjpiffaeeaaRef02l
namespace Go.Proofs.Ytfgkbjpiffaeeaa
open Go.RowKit

theorem longB03_false {l : List ByteArray} {m z : Int} (h : longB l m z = false) : (l.length : Int) ≤ m := by
  unfold longB at h
  simp only [Bool.or_eq_false_iff, decide_eq_false_iff_not] at h
  omega

set_option maxHeartbeats 4000000 in
theorem nameSorts_any (A : Option Addr) (n cap : Nat) (l : List ByteArray) (hn : l.length = n) (hc : n ≤ cap) (hm : cap ≤ maxLen) (hs : ∀ s ∈ l, s.size ≤ maxLen) (s : ByteArray) (hsz : s.size ≤ maxLen) (w : World) (hr : RC w A (svals l)) :
    Calls Try.prog 4 #[.slice A n cap, .string s] w fun e w' => e = .returned (.bool true) ∧ Below w.heap.size w w' := by
  have Hn := Lib.hid hn
  have Hs := Lib.hid hs
  have Hsz := Lib.hid hsz
  have hnm : n ≤ maxLen := Nat.le_trans hc hm
  have Hr := Lib.hid hr
  have HSs := Lib.hid (sortS_size hs)
  cases hlong : longB l 40 60
  · have h40 := longB03_false hlong
    have HLong := Lib.hid hlong
    have hla0 := sortS_len l
    rw [hn] at h40 hla0
    obtain ⟨la, hla⟩ : ∃ la, (sortS l).length = la := ⟨_, rfl⟩
    rw [hla] at hla0
    have HLa := Lib.hid hla
    have hlen : placeN l s ≤ n := by rw [← hn]; exact placeN_le l s
    have hRP : riseB l = true → placeN l s = fewerN l s ∧ placeB l s = inB l s := fun h => place_fewer s (riseB_rises h)
    have HSP := Lib.hid (place_fewer s (sortS_rises l))
    obtain ⟨P, hP⟩ : ∃ P, placeN l s = P := ⟨_, rfl⟩
    obtain ⟨B, hB⟩ : ∃ B, placeB l s = B := ⟨_, rfl⟩
    obtain ⟨F, hF⟩ : ∃ F, fewerN l s = F := ⟨_, rfl⟩
    obtain ⟨I, hI⟩ : ∃ I, inB l s = I := ⟨_, rfl⟩
    obtain ⟨R, hR⟩ : ∃ R, riseB l = R := ⟨_, rfl⟩
    rw [hP] at hlen
    rw [hP, hB, hF, hI, hR] at hRP
    have HP := Lib.hid hP
    have HB := Lib.hid hB
    have HF := Lib.hid hF
    have HI := Lib.hid hI
    have HR := Lib.hid hR
    clear hlong hla hP hB hF hI hR hn hs hr hc hm hsz
    by_cases h60 : s.size ≤ 60
    · have d60 : decide ((60 : Int) < s.size) = false := by simp; omega
      have dP0 : decide ((P : Int) < 0) = false := by simp
      have dPn : decide ((n : Int) < P) = false := by simp; omega
      cases R
      · clear hRP
        go_enter Try.func4, Try.ntmps4
        go_wp2_with fail
        refine (rlong_any A n cap l Hn.out hnm Hs.out 40 60 _ Hr.out).mono ?_; rintro e wx ⟨rfl, rfl⟩
        rw [HLong.out]
        go_wp2_with fail
        refine (rsort_any A n cap l Hn.out (by omega) Hs.out _ Hr.out).mono ?_; rintro e w2 ⟨u, rfl, hu, hb2⟩
        obtain ⟨Au, cu, rfl, hu1, hu2, hu3⟩ := hu.strs
        rw [HLa.out] at hu1
        rw [HLa.out]
        have Hu2 := Lib.hid hu3
        have Hb2 := Lib.hid hb2
        have Hr2 := Lib.hid (Hr.out.below hb2)
        clear hu hu3 hb2
        go_wp2_with fail
        refine (nsort_any A n cap l Hn.out (by omega) _ Hr2.out).mono ?_; rintro e w3 ⟨v, rfl, hv, hb3⟩
        obtain ⟨Av, cv, rfl, hv1, hv2, hv3⟩ := hv.strs
        rw [HLa.out] at hv1
        rw [HLa.out]
        have Hv3 := Lib.hid hv3
        have Hb3 := Lib.hid (bt Hb2.out hb3)
        have Hu3 := Lib.hid (Hu2.out.below hb3)
        have Hr3 := Lib.hid (Hr2.out.below hb3)
        clear hv hv3 hb3
        go_wp2_with fail
        refine (place_any A n cap l Hn.out (by omega) s _ Hr3.out).mono ?_; rintro e w4 ⟨rfl, q4, rfl⟩
        rw [HP.out, HB.out]
        have D4 := Lib.hid (bdrew w3 q4)
        have Hb4 := Lib.hid (bt Hb3.out D4.out)
        have Hu4 := Lib.hid (Hu3.out.below D4.out)
        have Hv4 := Lib.hid (Hv3.out.below D4.out)
        have Hr4 := Lib.hid (Hr3.out.below D4.out)
        generalize w3.drewN q4 = w4 at *
        go_wp2_with fail
        refine (fewer_any A n cap l Hn.out hnm Hs.out s Hsz.out _ Hr4.out).mono ?_; rintro e w5 ⟨rfl, q5, rfl⟩
        rw [HF.out, HI.out]
        have D5 := Lib.hid (bdrew w4 q5)
        have Hb5 := Lib.hid (bt Hb4.out D5.out)
        have Hu5 := Lib.hid (Hu4.out.below D5.out)
        have Hv5 := Lib.hid (Hv4.out.below D5.out)
        have Hr5 := Lib.hid (Hr4.out.below D5.out)
        generalize w4.drewN q5 = w5 at *
        go_wp2_with fail
        refine (rise_any A n cap l Hn.out hnm Hs.out _ Hr5.out).mono ?_; rintro e w6 ⟨rfl, q6, rfl⟩
        rw [HR.out]
        have D6 := Lib.hid (bdrew w5 q6)
        have Hb6 := Lib.hid (bt Hb5.out D6.out)
        have Hu6 := Lib.hid (Hu5.out.below D6.out)
        have Hv6 := Lib.hid (Hv5.out.below D6.out)
        generalize w5.drewN q6 = w6 at *
        go_wp2_with fail
        refine (place_any Au la cu (sortS l) HLa.out (by omega) s _ Hu6.out).mono ?_; rintro e w7 ⟨rfl, q7, rfl⟩
        rw [HSP.out.1, HSP.out.2]
        have D7 := Lib.hid (bdrew w6 q7)
        have Hb7 := Lib.hid (bt Hb6.out D7.out)
        have Hu7 := Lib.hid (Hu6.out.below D7.out)
        have Hv7 := Lib.hid (Hv6.out.below D7.out)
        generalize w6.drewN q7 = w7 at *
        go_wp2_with fail
        refine (fewer_any Au la cu (sortS l) HLa.out (by unfold maxLen; omega) HSs.out s Hsz.out _ Hu7.out).mono ?_; rintro e w8 ⟨rfl, q8, rfl⟩
        have D8 := Lib.hid (bdrew w7 q8)
        have Hb8 := Lib.hid (bt Hb7.out D8.out)
        have Hu8 := Lib.hid (Hu7.out.below D8.out)
        have Hv8 := Lib.hid (Hv7.out.below D8.out)
        generalize w7.drewN q8 = w8 at *
        generalize fewerN (sortS l) s = F2 at *
        generalize inB (sortS l) s = I2 at *
        have hff : ((F2 : Int) == F2) = true := by simp
        have hii : (I2 == I2) = true := by simp
        go_wp2_with fail
        refine (rtexts_any Av la cv (sortS l) HLa.out Au la cu (sortS l) HLa.out (by unfold maxLen; omega) (by unfold maxLen; omega) _ Hv8.out Hu8.out).mono ?_; rintro e w9 ⟨rfl, q9, rfl⟩
        rw [decide_eq_true rfl]
        have D9 := Lib.hid (bdrew w8 q9)
        have Hb9 := Lib.hid (bt Hb8.out D9.out)
        generalize w8.drewN q9 = w9 at *
        go_wp2_with fail
        refine (works03_any _).mono ?_; rintro e w10 ⟨rfl, hb10⟩
        have Hb10 := Lib.hid hb10
        clear hb10
        go_wp2_with fail
        go_ret
        exact ⟨rfl, bt Hb9.out Hb10.out⟩
      · obtain ⟨rfl, rfl⟩ := hRP rfl
        have hPP : ((P : Int) != P) = false := by simp
        have hBB : (B != B) = false := by simp
        clear hRP
        go_enter Try.func4, Try.ntmps4
        go_wp2_with fail
        refine (rlong_any A n cap l Hn.out hnm Hs.out 40 60 _ Hr.out).mono ?_; rintro e wx ⟨rfl, rfl⟩
        rw [HLong.out]
        go_wp2_with fail
        refine (rsort_any A n cap l Hn.out (by omega) Hs.out _ Hr.out).mono ?_; rintro e w2 ⟨u, rfl, hu, hb2⟩
        obtain ⟨Au, cu, rfl, hu1, hu2, hu3⟩ := hu.strs
        rw [HLa.out] at hu1
        rw [HLa.out]
        have Hu2 := Lib.hid hu3
        have Hb2 := Lib.hid hb2
        have Hr2 := Lib.hid (Hr.out.below hb2)
        clear hu hu3 hb2
        go_wp2_with fail
        refine (nsort_any A n cap l Hn.out (by omega) _ Hr2.out).mono ?_; rintro e w3 ⟨v, rfl, hv, hb3⟩
        obtain ⟨Av, cv, rfl, hv1, hv2, hv3⟩ := hv.strs
        rw [HLa.out] at hv1
        rw [HLa.out]
        have Hv3 := Lib.hid hv3
        have Hb3 := Lib.hid (bt Hb2.out hb3)
        have Hu3 := Lib.hid (Hu2.out.below hb3)
        have Hr3 := Lib.hid (Hr2.out.below hb3)
        clear hv hv3 hb3
        go_wp2_with fail
        refine (place_any A n cap l Hn.out (by omega) s _ Hr3.out).mono ?_; rintro e w4 ⟨rfl, q4, rfl⟩
        rw [HP.out, HB.out]
        have D4 := Lib.hid (bdrew w3 q4)
        have Hb4 := Lib.hid (bt Hb3.out D4.out)
        have Hu4 := Lib.hid (Hu3.out.below D4.out)
        have Hv4 := Lib.hid (Hv3.out.below D4.out)
        have Hr4 := Lib.hid (Hr3.out.below D4.out)
        generalize w3.drewN q4 = w4 at *
        go_wp2_with fail
        refine (fewer_any A n cap l Hn.out hnm Hs.out s Hsz.out _ Hr4.out).mono ?_; rintro e w5 ⟨rfl, q5, rfl⟩
        rw [HF.out, HI.out]
        have D5 := Lib.hid (bdrew w4 q5)
        have Hb5 := Lib.hid (bt Hb4.out D5.out)
        have Hu5 := Lib.hid (Hu4.out.below D5.out)
        have Hv5 := Lib.hid (Hv4.out.below D5.out)
        have Hr5 := Lib.hid (Hr4.out.below D5.out)
        generalize w4.drewN q5 = w5 at *
        go_wp2_with fail
        refine (rise_any A n cap l Hn.out hnm Hs.out _ Hr5.out).mono ?_; rintro e w6 ⟨rfl, q6, rfl⟩
        rw [HR.out]
        have D6 := Lib.hid (bdrew w5 q6)
        have Hb6 := Lib.hid (bt Hb5.out D6.out)
        have Hu6 := Lib.hid (Hu5.out.below D6.out)
        have Hv6 := Lib.hid (Hv5.out.below D6.out)
        generalize w5.drewN q6 = w6 at *
        go_wp2_with fail
        refine (place_any Au la cu (sortS l) HLa.out (by omega) s _ Hu6.out).mono ?_; rintro e w7 ⟨rfl, q7, rfl⟩
        rw [HSP.out.1, HSP.out.2]
        have D7 := Lib.hid (bdrew w6 q7)
        have Hb7 := Lib.hid (bt Hb6.out D7.out)
        have Hu7 := Lib.hid (Hu6.out.below D7.out)
        have Hv7 := Lib.hid (Hv6.out.below D7.out)
        generalize w6.drewN q7 = w7 at *
        go_wp2_with fail
        refine (fewer_any Au la cu (sortS l) HLa.out (by unfold maxLen; omega) HSs.out s Hsz.out _ Hu7.out).mono ?_; rintro e w8 ⟨rfl, q8, rfl⟩
        have D8 := Lib.hid (bdrew w7 q8)
        have Hb8 := Lib.hid (bt Hb7.out D8.out)
        have Hu8 := Lib.hid (Hu7.out.below D8.out)
        have Hv8 := Lib.hid (Hv7.out.below D8.out)
        generalize w7.drewN q8 = w8 at *
        generalize fewerN (sortS l) s = F2 at *
        generalize inB (sortS l) s = I2 at *
        have hff : ((F2 : Int) == F2) = true := by simp
        have hii : (I2 == I2) = true := by simp
        go_wp2_with fail
        refine (rtexts_any Av la cv (sortS l) HLa.out Au la cu (sortS l) HLa.out (by unfold maxLen; omega) (by unfold maxLen; omega) _ Hv8.out Hu8.out).mono ?_; rintro e w9 ⟨rfl, q9, rfl⟩
        rw [decide_eq_true rfl]
        have D9 := Lib.hid (bdrew w8 q9)
        have Hb9 := Lib.hid (bt Hb8.out D9.out)
        generalize w8.drewN q9 = w9 at *
        go_wp2_with fail
        refine (works03_any _).mono ?_; rintro e w10 ⟨rfl, hb10⟩
        have Hb10 := Lib.hid hb10
        clear hb10
        go_wp2_with fail
        go_ret
        exact ⟨rfl, bt Hb9.out Hb10.out⟩
    · have d60 : decide ((60 : Int) < s.size) = true := by simp; omega
      go_enter Try.func4, Try.ntmps4
      go_wp2_with fail
      refine (rlong_any A n cap l Hn.out hnm Hs.out 40 60 _ Hr.out).mono ?_; rintro e wx ⟨rfl, rfl⟩
      rw [HLong.out]
      go_wp2_with fail
      refine (works03_any _).mono ?_; rintro e w3 ⟨rfl, hb3⟩
      go_wp2_with fail
      go_ret
      exact ⟨rfl, hb3⟩
  · have HLong := Lib.hid hlong
    clear hlong hn hs hr hc hm hsz
    go_enter Try.func4, Try.ntmps4
    go_wp2_with fail
    refine (rlong_any A n cap l Hn.out hnm Hs.out 40 60 _ Hr.out).mono ?_; rintro e wx ⟨rfl, rfl⟩
    rw [HLong.out]
    go_wp2_with fail
    refine (works03_any _).mono ?_; rintro e w3 ⟨rfl, hb3⟩
    go_wp2_with fail
    go_ret
    exact ⟨rfl, hb3⟩

end Go.Proofs.Ytfgkbjpiffaeeaa
