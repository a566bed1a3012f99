/-
  Layer 2: the walks of MixSplits, MixParts.
-/
import Derived.Test.YtojddfebhopkgaaDoorLaw02
import Derived.Test.YtojddfebhopkgaaDoorMix2
import Derived.Test.YtojddfebhopkgaaDoorRef02l
namespace Go.Proofs.YtojddfebhopkgaaDoor
open Go.RowKit

theorem longB_false {l : List ByteArray} {many size : Int} (h : longB l many size = false) : (l.length : Int) ≤ many := by
  unfold longB at h
  simp only [Bool.or_eq_false_iff, decide_eq_false_iff_not] at h
  omega
theorem stay_mem {b : Int} {l : List ByteArray} {B : Nat} (h : ∀ s ∈ l, s.size ≤ B) : ∀ s ∈ stayL b l, s.size ≤ B := fun s hs => h s (List.mem_filter.1 hs).1
theorem go_mem {b : Int} {l : List ByteArray} {B : Nat} (h : ∀ s ∈ l, s.size ≤ B) : ∀ s ∈ goL b l, s.size ≤ B := fun s hs => h s (List.mem_filter.1 hs).1
theorem stay_stay (b : Int) (l : List ByteArray) : stayL b (stayL b l) = stayL b l := by unfold stayL; rw [List.filter_filter]; congr 1; funext s; simp
theorem go_go (b : Int) (l : List ByteArray) : goL b (goL b l) = goL b l := by unfold goL; rw [List.filter_filter]; congr 1; funext s; simp
theorem go_stay (b : Int) (l : List ByteArray) : goL b (stayL b l) = [] := by unfold goL stayL; rw [List.filter_filter]; apply List.filter_eq_nil_iff.2; intro s _; simp
theorem stay_go (b : Int) (l : List ByteArray) : stayL b (goL b l) = [] := by unfold goL stayL; rw [List.filter_filter]; apply List.filter_eq_nil_iff.2; intro s _; simp
theorem stay_go_len (b : Int) (l : List ByteArray) : (stayL b l).length + (goL b l).length = l.length := by
  unfold stayL goL
  induction l with
  | nil => rfl
  | cons s l ih =>
    rw [List.filter_cons, List.filter_cons]
    cases hasB b s <;> simp at ih ⊢ <;> omega
theorem goL_at (b : Int) (l : List ByteArray) (k : Nat) (hk : k < l.length) (h : hasB b l[k] = true) : (goL b l)[(goL b (l.take k)).length]? = some l[k] := by
  have e : goL b l = goL b (l.take (k + 1)) ++ goL b (l.drop (k + 1)) := by unfold goL; rw [← List.filter_append, List.take_append_drop]
  rw [e, goL_next b l k hk, if_pos h, List.append_assoc, List.getElem?_append_right (Nat.le_refl _)]
  simp
theorem stayL_at (b : Int) (l : List ByteArray) (k : Nat) (hk : k < l.length) (h : hasB b l[k] = false) : (stayL b l)[(stayL b (l.take k)).length]? = some l[k] := by
  have e : stayL b l = stayL b (l.take (k + 1)) ++ stayL b (l.drop (k + 1)) := by unfold stayL; rw [← List.filter_append, List.take_append_drop]
  rw [e, stayL_next b l k hk, if_neg (by rw [h]; simp), List.append_assoc, List.getElem?_append_right (Nat.le_refl _)]
  simp
theorem RC.at {w : World} {A : Option Addr} {l : List ByteArray} (h : RC w A (svals l)) (k : Nat) (s : ByteArray) (hk : l[k]? = some s) : k < l.length ∧ ∃ ad, A = some ad ∧ w.cell? (ad.add k) = some (.string s) := by
  obtain ⟨hlt, he⟩ := List.getElem?_eq_some_iff.1 hk
  refine ⟨hlt, ?_⟩
  rw [← he]
  exact h.str k hlt

set_option maxHeartbeats 1000000 in
theorem mixSplits_any (A : Option Addr) (n cap : Nat) (l : List ByteArray) (hn : l.length = n) (hc : n ≤ cap) (hm : cap ≤ maxLen) (hs : ∀ s ∈ l, s.size ≤ maxLen) (b : Int) (w : World) (hr : RC w A (svals l)) (hT : Tab32 w) :
    Calls Tryd.prog 4 #[.slice A n cap, .int .i64 b] w fun e w' => e = .returned (.bool true) ∧ Below w.heap.size w w' := by
  have Hn := Lib.hid hn
  have Hs := Lib.hid hs
  have hnm : n ≤ maxLen := Nat.le_trans hc hm
  have Hr := Lib.hid hr
  clear hn hs hr
  go_enter Tryd.func4, Tryd.ntmps4
  go_wp2_with fail
  refine (rlong_any A n cap l Hn.out hnm Hs.out 40 60 _ Hr.out).mono ?_; rintro e wx ⟨rfl, rfl⟩
  cases hlong : longB l 40 60
  · have h40 := longB_false hlong
    rw [Hn.out] at h40
    clear hlong
    go_wp2_with fail
    refine (split_any A n cap l Hn.out (by omega) Hs.out b _ Hr.out).mono ?_; rintro e w2 ⟨u, v, rfl, hu, hv, hb2⟩
    have H1 := stayL_len b l
    have H2 := goL_len b l
    rw [Hn.out] at H1 H2
    obtain ⟨Au, cu, rfl, hu1, hu2, hu3⟩ := hu.strs
    obtain ⟨Av, cv, rfl, hv1, hv2, hv3⟩ := hv.strs
    have Hu3 := Lib.hid hu3
    have Hv3 := Lib.hid hv3
    have Hb2 := Lib.hid hb2
    have Hl1 := Lib.hid (rfl : (stayL b l).length = (stayL b l).length)
    have Hl2 := Lib.hid (rfl : (goL b l).length = (goL b l).length)
    generalize hla : (stayL b l).length = la at *
    generalize hlb : (goL b l).length = lb at *
    clear hu hv hu3 hv3 hb2
    have hla := Lib.hid hla
    have hlb := Lib.hid hlb
    go_wp2_with fail
    refine (rsome_any A n cap l Hn.out (by omega) Hs.out b false _ (Hr.out.below Hb2.out)).mono ?_; rintro e w3 ⟨x, rfl, hx, hb3⟩
    rw [someL_false] at hx
    obtain ⟨Ax, cx, rfl, hx1, hx2, hx3⟩ := hx.strs
    rw [hla.out] at hx1
    rw [hla.out]
    have Hx3 := Lib.hid hx3
    have Hb3 := Lib.hid hb3
    clear hx hx3 hb3
    go_wp2_with fail
    refine (rtexts_any _ _ _ (stayL b l) hla.out _ _ _ (stayL b l) hla.out (by omega) (by omega) _ (Hu3.out.below Hb3.out) Hx3.out).mono ?_; rintro e w4 ⟨rfl, k4, rfl⟩
    rw [decide_eq_true rfl]
    have D4 := Lib.hid (bdrew w3 k4)
    generalize w3.drewN k4 = w4 at *
    go_wp2_with fail
    refine (rsome_any A n cap l Hn.out (by omega) Hs.out b true _ (((Hr.out.below Hb2.out).below Hb3.out).below D4.out)).mono ?_; rintro e w5 ⟨y, rfl, hy, hb5⟩
    rw [someL_true] at hy
    obtain ⟨Ay, cy, rfl, hy1, hy2, hy3⟩ := hy.strs
    rw [hlb.out] at hy1
    rw [hlb.out]
    have Hy3 := Lib.hid hy3
    have Hb5 := Lib.hid hb5
    clear hy hy3 hb5
    go_wp2_with fail
    refine (rtexts_any _ _ _ (goL b l) hlb.out _ _ _ (goL b l) hlb.out (by omega) (by omega) _ (((Hv3.out.below Hb3.out).below D4.out).below Hb5.out) Hy3.out).mono ?_; rintro e w6 ⟨rfl, k6, rfl⟩
    rw [decide_eq_true rfl]
    have D6 := Lib.hid (bdrew w5 k6)
    have Hbel := Lib.hid (bt (bt (bt (bt Hb2.out Hb3.out) D4.out) Hb5.out) D6.out)
    generalize w5.drewN k6 = w7 at *
    go_wp2_with fail
    refine (works02_any _ (hT.below Hbel.out)).mono ?_; rintro e wx ⟨rfl, rfl⟩
    go_wp2_with fail
    go_ret
    exact ⟨rfl, Hbel.out⟩
  · go_wp2_with fail
    refine (works02_any _ hT).mono ?_; rintro e wx ⟨rfl, rfl⟩
    go_wp2_with fail
    go_ret
    exact ⟨rfl, Below.refl _ _⟩

set_option maxHeartbeats 2000000 in
theorem mixParts_any (A : Option Addr) (n cap : Nat) (l : List ByteArray) (hn : l.length = n) (hc : n ≤ cap) (hm : cap ≤ maxLen) (hs : ∀ s ∈ l, s.size ≤ maxLen) (V : Nat) (hV : V < 256) (w : World) (hr : RC w A (svals l)) (hT : Tab32 w) :
    Calls Tryd.prog 7 #[.slice A n cap, .int .u8 V] w fun e w' => e = .returned (.bool true) ∧ Below w.heap.size w w' := by
  have Hn := Lib.hid hn
  have Hs := Lib.hid hs
  have hnm : n ≤ maxLen := Nat.le_trans hc hm
  have Hr := Lib.hid hr
  clear hn hs hr
  go_enter Tryd.func7, Tryd.ntmps7
  go_wp2_with fail
  refine (rlong_any A n cap l Hn.out hnm Hs.out 40 60 _ Hr.out).mono ?_; rintro e wx ⟨rfl, rfl⟩
  cases hlong : longB l 40 60
  · have h40 := longB_false hlong
    rw [Hn.out] at h40
    clear hlong
    go_wp2_with fail
    generalize (V : Int) % 32 = b
    refine (split_any A n cap l Hn.out (by omega) Hs.out b _ Hr.out).mono ?_; rintro e w2 ⟨u, v, rfl, hu, hv, hb2⟩
    have hsum := stay_go_len b l
    rw [Hn.out] at hsum
    obtain ⟨Au, cu, rfl, hu1, hu2, hu3⟩ := hu.strs
    obtain ⟨Av, cv, rfl, hv1, hv2, hv3⟩ := hv.strs
    have Hu3 := Lib.hid hu3
    have Hv3 := Lib.hid hv3
    have Hb2 := Lib.hid hb2
    generalize hla : (stayL b l).length = la at *
    generalize hlb : (goL b l).length = lb at *
    clear hu hv hu3 hv3 hb2
    have hla := Lib.hid hla
    have hlb := Lib.hid hlb
    go_wp2_with fail
    refine (split_any _ _ _ (stayL b l) hla.out (by omega) (stay_mem Hs.out) b _ Hu3.out).mono ?_; rintro e w3 ⟨c, d, rfl, hcc, hd, hb3⟩
    rw [stay_stay] at hcc
    rw [go_stay] at hd
    obtain ⟨Ac, cc, rfl, hc1, hc2, hc3⟩ := hcc.strs
    obtain ⟨Ad, cd, rfl, hd1, hd2, hd3⟩ := hd.strs
    rw [hla.out] at hc1
    rw [hla.out]
    have Hc3 := Lib.hid hc3
    have Hb3 := Lib.hid hb3
    clear hcc hd hc3 hb3 hd1 hd2 hd3
    go_wp2_with fail
    refine (split_any _ _ _ (goL b l) hlb.out (by omega) (go_mem Hs.out) b _ (Hv3.out.below Hb3.out)).mono ?_; rintro e w4 ⟨e, f, rfl, he, hf, hb4⟩
    rw [stay_go] at he
    rw [go_go] at hf
    obtain ⟨Ae, ce, rfl, he1, he2, he3⟩ := he.strs
    obtain ⟨Af, cf, rfl, hf1, hf2, hf3⟩ := hf.strs
    rw [hlb.out] at hf1
    rw [hlb.out]
    have Hf3 := Lib.hid hf3
    have Hb4 := Lib.hid hb4
    clear he hf hf3 hb4 he1 he2 he3
    have e0 : (([] : List ByteArray).length : Int) = 0 := rfl
    have e1 : ((la : Int) + lb != n) = false := by simp; omega
    go_wp2_with fail
    refine (rtexts_any _ _ _ (stayL b l) hla.out _ _ _ (stayL b l) hla.out (by omega) (by omega) _ ((Hu3.out.below Hb3.out).below Hb4.out) (Hc3.out.below Hb4.out)).mono ?_; rintro e wx ⟨rfl, k4, rfl⟩
    rw [decide_eq_true rfl]
    have D4 := Lib.hid (bdrew w4 k4)
    generalize w4.drewN k4 = w5 at *
    go_wp2_with fail
    refine (rtexts_any _ _ _ (goL b l) hlb.out _ _ _ (goL b l) hlb.out (by omega) (by omega) _ (((Hv3.out.below Hb3.out).below Hb4.out).below D4.out) (Hf3.out.below D4.out)).mono ?_; rintro e wx ⟨rfl, k6, rfl⟩
    rw [decide_eq_true rfl]
    have D6 := Lib.hid (bdrew w5 k6)
    have Hbel := Lib.hid (bt (bt (bt (bt Hb2.out Hb3.out) Hb4.out) D4.out) D6.out)
    have Hua := Lib.hid ((((Hu3.out.below Hb3.out).below Hb4.out).below D4.out).below D6.out)
    have Hva := Lib.hid ((((Hv3.out.below Hb3.out).below Hb4.out).below D4.out).below D6.out)
    generalize w5.drewN k6 = w6 at *
    clear Hu3 Hv3 Hb2 Hb3 Hb4 Hc3 Hf3 D4 D6
    go_wp2_with fail
    go_loopw [12, 13, 14] (fun i j m wr => ∃ k : Nat, k ≤ n ∧ m = .int .i64 k ∧ i = .int .i64 (stayL b (l.take k)).length ∧ j = .int .i64 (goL b (l.take k)).length ∧ ∃ q, wr = w6.drewN q) (fun _ _ m _ => n - (intOf m).toNat)
    case atStart => exact ⟨0, Nat.zero_le _, rfl, rfl, rfl, 0, rfl⟩
    case round =>
      obtain ⟨k, hk, rfl, rfl, rfl, q, rfl⟩ := hrel
      have D := Lib.hid (bdrew w6 q)
      by_cases hlt : k < n
      · have hkl : k < l.length := by rw [Hn.out]; exact hlt
        have d0 : decide ((k : Int) < n) = true := by simpa using hlt
        obtain ⟨ad, rfl, hc⟩ := (Hr.out.below Hbel.out).str k hkl
        have Hsz := Lib.hid (Hs.out l[k] (List.getElem_mem hkl))
        have Hns := Lib.hid (stayL_next b l k hkl)
        have Hng := Lib.hid (goL_next b l k hkl)
        have Has := Lib.hid (stayL_at b l k hkl)
        have Hag := Lib.hid (goL_at b l k hkl)
        generalize l[k] = s at *
        have hbe := bytes_eq s s
        rw [decide_eq_true rfl] at hbe
        go_wp2_with fail
        refine (of_any s Hsz.out _).mono ?_; rintro e wx ⟨rfl, rfl⟩
        go_wp2_with fail
        refine (bit_any _ (hashN_lt s) b _).mono ?_; rintro e wx ⟨rfl, rfl⟩
        have HE : Hid (bitN (hashN s) b = hasB b s) := rfl
        rw [HE.out]
        clear HE
        cases hb : hasB b s
        · have Hns := Lib.hid (show stayL b (l.take (k + 1)) = stayL b (l.take k) ++ [s] by rw [Hns.out, hb]; rfl)
          have Hng := Lib.hid (show goL b (l.take (k + 1)) = goL b (l.take k) by rw [Hng.out, hb]; rfl)
          obtain ⟨hlt2, ad2, rfl, hc2⟩ := Hua.out.at _ _ (Has.out hb)
          rw [hla.out] at hlt2
          have Hi := Lib.hid (show ((stayL b (l.take (k + 1))).length : Int) = ((stayL b (l.take k)).length : Int) + 1 by rw [Hns.out]; simp)
          have hsm : (stayL b (l.take k)).length < la := hlt2
          generalize (stayL b (l.take k)).length = p at *
          have d1 : decide ((la : Int) ≤ p) = false := by simp; omega
          clear hb Has Hag
          go_wp2_with fail
          go_quiet (fail)
          go_wp2_with fail
          go_roundw
          case rel => exact ⟨k + 1, by omega, by go_num, by rw [Hi.out], by rw [Hng.out], q + nq, by first | rfl | simp only [World.drewN_drewN]⟩
          case measure => simp [intOf]; omega
        · have Hns := Lib.hid (show stayL b (l.take (k + 1)) = stayL b (l.take k) by rw [Hns.out, hb]; rfl)
          have Hng := Lib.hid (show goL b (l.take (k + 1)) = goL b (l.take k) ++ [s] by rw [Hng.out, hb]; rfl)
          obtain ⟨hlt2, ad2, rfl, hc2⟩ := Hva.out.at _ _ (Hag.out hb)
          rw [hlb.out] at hlt2
          have Hi := Lib.hid (show ((goL b (l.take (k + 1))).length : Int) = ((goL b (l.take k)).length : Int) + 1 by rw [Hng.out]; simp)
          have hsm : (goL b (l.take k)).length < lb := hlt2
          generalize (goL b (l.take k)).length = p at *
          have d1 : decide ((lb : Int) ≤ p) = false := by simp; omega
          clear hb Has Hag
          go_wp2_with fail
          go_quiet (fail)
          go_wp2_with fail
          go_roundw
          case rel => exact ⟨k + 1, by omega, by go_num, by rw [Hns.out], by rw [Hi.out], q + nq, by first | rfl | simp only [World.drewN_drewN]⟩
          case measure => simp [intOf]; omega
      · have d0 : decide ((k : Int) < n) = false := by simpa using hlt
        have Hb7 := Lib.hid (bt Hbel.out D.out)
        generalize w6.drewN q = w7 at *
        go_wp2_with fail
        refine (works02_any _ (hT.below Hb7.out)).mono ?_; rintro e wx ⟨rfl, rfl⟩
        go_wp2_with fail
        go_ret
        exact ⟨rfl, Hb7.out⟩
  · go_wp2_with fail
    refine (works02_any _ hT).mono ?_; rintro e wx ⟨rfl, rfl⟩
    go_wp2_with fail
    go_ret
    exact ⟨rfl, Below.refl _ _⟩

end Go.Proofs.YtojddfebhopkgaaDoor
