/-
  The walk of ReadyOrder.
-/
import Derived.Test.YtkhgoblmfcaapaaLw9a
import Derived.Test.YtkhgoblmfcaapaaLw9w
import Derived.Test.YtkhgoblmfcaapaaR09e
import Derived.Test.YtkhgoblmfcaapaaCg11
namespace Go.Proofs.Ytkhgoblmfcaapaa
open Go.RowKit

theorem RdL.ids {w : World} {A : Option Addr} {l : List Cg} (h : RdL RdC w A 5 l) : ∀ c ∈ l, -9223372036854775808 ≤ c.id ∧ c.id < 9223372036854775808 := fun c hc => by
  obtain ⟨k, hk, rfl⟩ := List.getElem_of_mem hc
  obtain ⟨ad, Ad, nd, cd, An, nn, cn, _, hcv, _⟩ := h.cg hk
  exact ⟨hcv.lo0, hcv.hi0⟩
theorem readyC_ids {w : World} {A : Option Addr} {l : List Cg} (h : RdL RdC w A 5 l) {b : Int} (hm : mayC l = true) : ∀ z ∈ readyC l b, -9223372036854775808 ≤ z ∧ z < 9223372036854775808 := fun z hz => by
  obtain ⟨p, c, q, hl, rfl, _⟩ := readyC_spec hm z hz
  exact h.ids c (by rw [hl]; simp)
/-- A list on its way: which may be, and is not too long. -/
structure Way (w : World) (A : Option Addr) (n c : Nat) (l : List Cg) : Prop where
  len : l.length = n
  cap : n ≤ c
  few : n ≤ 30
  may : mayC l = true
  d : ∀ c ∈ l, c.p.data.length ≤ 300 ∧ c.needs.length ≤ 60
  read : RdL RdC w A 5 l
theorem Way.below {w w' : World} {A : Option Addr} {n c : Nat} {l : List Cg} (h : Way w A n c l) (hb : Below w.heap.size w w') : Way w' A n c l := ⟨h.len, h.cap, h.few, h.may, h.d, h.read.below hb⟩
theorem Way.ready {w : World} {A : Option Addr} {n c : Nat} {l : List Cg} (h : Way w A n c l) (b : Int) : (readyC l b).length ≤ 30 := by
  have := (readyC_sub (l := l) (block := b)).length_le
  rw [List.length_map, h.len] at this
  have := h.few
  omega
theorem Way.waits {w : World} {A : Option Addr} {n c : Nat} {l : List Cg} (h : Way w A n c l) (x : Int) : (waitsC l x).length ≤ 30 := by
  have := waitsC_len l x
  rw [h.len] at this
  have := h.few
  omega

set_option maxRecDepth 100000 in
set_option maxHeartbeats 16000000 in
theorem readyOrder_any (A : Option Addr) (n cap : Nat) (l : List Cg) (hn : l.length = n) (hcap : n ≤ cap) (hm : cap ≤ maxLen) (Ab : Option Addr) (nb cb : Nat) (bl : List Int) (hnb : bl.length = nb) (w : World) (hr : RdL RdC w A 5 l) (hrb : RC w Ab (ivals bl)) :
    Calls Try.prog 6 #[.slice A n cap, .slice Ab nb cb] w fun e w' => e = .returned (.bool true) ∧ Below w.heap.size w w' := by
  have Hn := Lib.hid hn
  have Hr := Lib.hid hr
  have Hnb := Lib.hid hnb
  have Hrb := Lib.hid hrb
  clear hn hr hnb hrb
  have HM := Lib.hid (rmuchc_any 20 (by decide) A n cap l Hn.out (Nat.le_trans hcap hm) w Hr.out)
  cases hmu : muchC l 20
  rotate_left
  · rw [hmu] at HM
    clear hmu
    go_enter Try.func6, Try.ntmps6
    go_wp2_with fail
    refine (HM.out).mono ?_; rintro e w1 ⟨rfl, rfl⟩
    go_wp2_with fail
    refine (works09_any _).mono ?_; rintro e w2 ⟨rfl, hb2⟩
    have Hb2 := Lib.hid hb2
    clear hb2
    go_wp2_with fail
    go_ret
    exact ⟨rfl, Hb2.out⟩
  · obtain ⟨hl, hd⟩ := muchC_no hmu
    rw [hmu] at HM
    have Hl := Lib.hid (show n ≤ 30 by have := Hn.out; omega)
    have HD := Lib.hid hd
    have HMay := Lib.hid (rmay_any A n cap l Hn.out (by have := Hl.out; omega) (fun c hc => by have := HD.out c hc; omega) w Hr.out)
    clear hmu hl hd
    cases hmay : mayC l
    · rw [hmay] at HMay
      clear hmay
      go_enter Try.func6, Try.ntmps6
      go_wp2_with fail
      refine (HM.out).mono ?_; rintro e w1 ⟨rfl, rfl⟩
      go_wp2_with fail
      refine (HMay.out).mono ?_; rintro e w1 ⟨rfl, hb1⟩
      have Hb1 := Lib.hid hb1
      clear hb1
      go_wp2_with fail
      refine (works09_any _).mono ?_; rintro e w2 ⟨rfl, hb2⟩
      have Hb2 := Lib.hid hb2
      clear hb2
      go_wp2_with fail
      go_ret
      exact ⟨rfl, bt Hb1.out Hb2.out⟩
    · rw [hmay] at HMay
      have Hmay := Lib.hid hmay
      clear hmay
      by_cases h20 : 20 < nb
      · have d0 : decide ((20 : Int) < nb) = true := decide_eq_true (by omega)
        go_enter Try.func6, Try.ntmps6
        go_wp2_with fail
        refine (HM.out).mono ?_; rintro e w1 ⟨rfl, rfl⟩
        go_wp2_with fail
        refine (HMay.out).mono ?_; rintro e w1 ⟨rfl, hb1⟩
        have Hb1 := Lib.hid hb1
        clear hb1
        go_wp2_with fail
        refine (works09_any _).mono ?_; rintro e w2 ⟨rfl, hb2⟩
        have Hb2 := Lib.hid hb2
        clear hb2
        go_wp2_with fail
        go_ret
        exact ⟨rfl, bt Hb1.out Hb2.out⟩
      · have d0 : decide ((20 : Int) < nb) = false := decide_eq_false (by omega)
        go_enter Try.func6, Try.ntmps6
        go_wp2_with fail
        refine (HM.out).mono ?_; rintro e w1 ⟨rfl, rfl⟩
        go_wp2_with fail
        refine (HMay.out).mono ?_; rintro e w2 ⟨rfl, hb2⟩
        have Hb2 := Lib.hid hb2
        clear hb2
        go_wp2_with fail
        refine (to9_any A n cap l Hn.out (by have := Hl.out; omega) HD.out _ (Hr.out.below Hb2.out)).mono ?_; rintro e w3 ⟨A3, n3, c3, rfl, e3, q3, r3, hr3, hb3⟩
        have HW3 : Hid (Way w3 A3 n3 c3 l) := Lib.hid ⟨e3, q3, by rw [← e3, Hn.out]; exact Hl.out, Hmay.out, HD.out, hr3⟩
        have Hb3 := Lib.hid (bt Hb2.out hb3)
        clear hr3 hb3 e3 q3 r3
        go_wp2_with fail
        go_loopw [5, 6] (fun o i wr => ∃ (k : Nat) (A' : Option Addr) (n' c' : Nat) (l' : List Cg), k ≤ nb ∧ i = .int .i64 k ∧ o = .slice A' n' c' ∧ Way wr A' n' c' l' ∧ Below w.heap.size w wr) (fun _ i _ => nb - (intOf i).toNat)
        case atStart => exact ⟨0, A3, n3, c3, l, Nat.zero_le _, rfl, rfl, HW3.out, Hb3.out⟩
        case round =>
          obtain ⟨k, A', n', c', l', hk, rfl, rfl, hway, hbw⟩ := hrel
          have HW := Lib.hid hway
          have Hbw := Lib.hid hbw
          clear hway hbw HW3 Hb3 HM HMay Hmay HD Hl Hb2
          by_cases hlt : k < nb
          · have d1 : decide ((k : Int) < nb) = true := by simpa using hlt
            have hkb : k < bl.length := by rw [Hnb.out]; exact hlt
            have z1 : (k : Int) < nb := by omega
            obtain ⟨ab, rfl, hc⟩ := Hrb.out.int k hkb
            have KB := Lib.hid hc
            have c1 := (Hbw.out.cell (block_lt_of_cell hc)).trans hc
            clear hc
            generalize bl[k] = b at *
            go_wp2_with fail
            refine (pready_any A' n' c' l' HW.out.len (by have := HW.out.few; omega) b _ HW.out.read).mono ?_; rintro e w4 ⟨A4, n4, c4, rfl, e4, q4, r4, hr4, hb4⟩
            have HR := Lib.hid (show (readyC l' b).length = n4 ∧ n4 ≤ c4 ∧ c4 ≤ maxLen ∧ n4 ≤ 30 from ⟨e4, q4, r4, by rw [← e4]; exact HW.out.ready b⟩)
            have HRr := Lib.hid hr4
            have HW4 := Lib.hid (HW.out.below hb4)
            have Hb4 := Lib.hid (bt Hbw.out hb4)
            have hn4 : n4 ≤ 30 := HR.out.2.2.2
            clear hr4 hb4 e4 q4 r4 c1
            go_wp2_with fail
            generalize hw9 : w4 = w9 at *
            clear hw9
            go_loopw [8] (fun i wq => ∃ m : Nat, m ≤ n4 ∧ i = .int .i64 m ∧ Below w9.heap.size w9 wq) (fun i _ => n4 - (intOf i).toNat)
            case atStart => exact ⟨0, Nat.zero_le _, rfl, Below.refl _ _⟩
            case round =>
              obtain ⟨m, hm2, rfl, hbq⟩ := hrel
              have Hbq := Lib.hid hbq
              clear hbq
              by_cases hmt : m < n4
              · have d2 : decide ((m : Int) < n4) = true := by simpa using hmt
                have hml : m < (readyC l' b).length := by rw [HR.out.1]; exact hmt
                have z2 : (m : Int) < n4 := by omega
                obtain ⟨a4, rfl, hc⟩ := (HRr.out.below Hbq.out).int m hml
                have c2 := hc
                have KX := Lib.hid hc
                clear hc
                have hmem := List.getElem_mem hml
                obtain ⟨cf, hcf, hcb⟩ := readyC_found HW.out.may hmem
                have HFw := Lib.hid (readyC_waits HW.out.may hmem)
                have HCF := Lib.hid hcf
                have HCB := Lib.hid hcb
                generalize (readyC l' b)[m] = x at *
                clear hmem hcf hcb hml
                have HWq := Lib.hid (HW4.out.below Hbq.out)
                go_wp2_with fail
                refine (pfind_any A' n' c' l' HW.out.len (by have := HW.out.few; omega) (fun c hc => by have := HW.out.d c hc; omega) x _ HWq.out.read).mono ?_; rintro e w5 ⟨cc, Ad, nd, cd, An, nn, cn, hcc, rfl, hcv, -, -, hb5⟩
                rw [HCF.out] at hcc ⊢
                have hcc9 : cc = cf := hcc
                clear hcc
                subst hcc9
                rw [show (some cc).isSome = true from rfl]
                have Hb5 := Lib.hid (bt Hbq.out hb5)
                have K5 := Lib.hid ((hb5.cell (block_lt_of_cell KX.out)).trans KX.out)
                clear hb5 c2 hcv
                go_wp2_with (refine wpList_alloc_row rfl _ rfl _ Try.chgZero ?_)
                apply Stop.go; intro w6 Hg6 Hb6
                go_wp2_with (refine wpList_store_arr rfl _ _ _ rfl _ #[.int .i64 cc.id, .int .i64 cc.block, .int .i64 cc.p.at_, .slice Ad nd cd, .slice An nn cn] rfl rfl _ _ Hb6.out Try.chgSize rfl (by simp [Value.oneCell']) ?_)
                apply Stop.go; intro w7 Ho7 Hb7
                have D7 := Lib.hid (bonly Hg6.out.1 Ho7.out (Nat.le_refl _))
                have Hb77 := Lib.hid (bt Hb5.out D7.out)
                have K7 := Lib.hid ((D7.out.cell (block_lt_of_cell K5.out)).trans K5.out)
                have HX7 := Lib.hid (bt Hb4.out Hb77.out)
                have e1 : (cc.block != b) = false := by simpa using HCB.out
                have c3 : w7.cell? ⟨w5.heap.size, 1, none⟩ = some (.int .i64 cc.block) := Hb7.out.five.2.1
                have c4' : w7.cell? (ab.add k) = some (.int .i64 b) := (HX7.out.cell (block_lt_of_cell KB.out)).trans KB.out
                clear Hb7 Ho7 Hb6 Hg6 D7 Hb5 K5
                go_wp2_with fail
                go_quiet (fail)
                have D8 := Lib.hid (bdrew w7 nq)
                have c5 : (w7.drewN nq).cell? (a4.add m) = some (.int .i64 x) := (D8.out.cell (block_lt_of_cell K7.out)).trans K7.out
                have Hb8 := Lib.hid (bt Hb77.out D8.out)
                generalize w7.drewN nq = w8 at *
                clear c3 c4'
                go_wp2_with fail
                refine (pwaits_any A' n' c' l' HW.out.len HW.out.cap (by have := HW.out.few; omega) (fun c hc => by have := HW.out.d c hc; omega) x _ (HW4.out.below Hb8.out).read).mono ?_; rintro e w10 ⟨A10, n10, c10, rfl, e10, q10, r10, hr10, hb10⟩
                have H10 := Lib.hid hr10
                have HE10 := Lib.hid (show (waitsC l' x).length = n10 ∧ n10 ≤ 30 from ⟨e10, by rw [← e10]; exact HW.out.waits x⟩)
                have Hb10 := Lib.hid (bt Hb8.out hb10)
                have hn10 : n10 ≤ 30 := HE10.out.2
                clear hr10 hb10 e10 q10 r10 c5
                go_wp2_with fail
                generalize hw11 : w10 = w11 at *
                clear hw11
                go_loopw [12] (fun i wz => ∃ j : Nat, j ≤ n10 ∧ i = .int .i64 j ∧ wz = w11) (fun i _ => n10 - (intOf i).toNat)
                case atStart => exact ⟨0, Nat.zero_le _, rfl, rfl⟩
                case round =>
                  obtain ⟨j, hj, rfl, rfl⟩ := hrel
                  by_cases hjt : j < n10
                  · have d3 : decide ((j : Int) < n10) = true := by simpa using hjt
                    have hjl : j < (waitsC l' x).length := by rw [HE10.out.1]; exact hjt
                    have z3 : (j : Int) < n10 := by omega
                    obtain ⟨a10, rfl, hc⟩ := H10.out.int j hjl
                    have HIN := Lib.hid (show (readyC l' b).contains (waitsC l' x)[j] = true from List.contains_iff_mem.2 (HFw.out _ (List.getElem_mem hjl)))
                    generalize (waitsC l' x)[j] = y at *
                    clear hjl
                    go_wp2_with fail
                    refine (rin9_is (some a4) n4 c4 (readyC l' b) HR.out.1 (Nat.le_trans HR.out.2.1 HR.out.2.2.1) y true HIN.out _ (HRr.out.below Hb10.out)).mono ?_; rintro e wy ⟨rfl, rfl⟩
                    go_wp2_with fail
                    go_roundw
                    case rel => exact ⟨j + 1, by omega, by go_num, by first | rfl | trivial⟩
                    case measure => simp [intOf]; omega
                  · have d3 : decide ((j : Int) < n10) = false := by simpa using hjt
                    go_wp2_with fail
                    go_roundw
                    case rel => exact ⟨m + 1, by omega, by go_num, Hb10.out⟩
                    case measure => simp [intOf]; omega
              · have d2 : decide ((m : Int) < n4) = false := by simpa using hmt
                have HWq := Lib.hid (HW4.out.below Hbq.out)
                have HRq := Lib.hid (HRr.out.below Hbq.out)
                have Hb5 := Lib.hid (bt Hb4.out Hbq.out)
                clear HRr Hb4 Hbq HW4
                go_wp2_with fail
                refine (pwithout_any A' n' c' l' HW.out.len (by have := HW.out.few; omega) (fun c hc => by have := HW.out.d c hc; omega) A4 n4 c4 (readyC l' b) HR.out.1 (by omega) (readyC_ids HWq.out.read HWq.out.may) _ HWq.out.read HRq.out).mono ?_; rintro e w5 ⟨A5, n5, c5, rfl, e5, q5, r5, hr5, hb5⟩
                have hwl := withoutC_len (block := b) HW.out.may
                have Hlen := Lib.hid (show n5 + n4 = n' by rw [← e5, ← HR.out.1, ← HW.out.len]; exact hwl)
                have HW5 : Hid (Way w5 A5 n5 c5 (withoutC l' (readyC l' b))) := Lib.hid ⟨e5, q5, by have := Hlen.out; have := HW.out.few; omega, withoutC_may _ HW.out.may, fun c hc => HW.out.d c (List.mem_filter.1 hc).1, hr5⟩
                have HWl5 := Lib.hid (HWq.out.below hb5)
                have Hb55 := Lib.hid (bt Hb5.out hb5)
                have Hww := Lib.hid (fun (c : Cg) hc => withoutC_waits (l := l') (c := c) (readyC l' b) HW.out.may hc)
                clear hr5 hb5 e5 q5 r5 hwl HRq HWq Hb5
                generalize withoutC l' (readyC l' b) = l5 at *
                have q1 : IntKind.i64.wrap ((n' : Int) - (n4 : Int)) = (n5 : Int) := by rw [IntKind.wrap_i64]; have := Hlen.out; have := HW.out.few; omega
                have e1 : ((n5 : Int) != (n5 : Int)) = false := by simp
                go_wp2_with fail
                refine (chk_any A5 n5 c5 l5 HW5.out.len (by have := HW5.out.few; omega) _ HW5.out.read).mono ?_; rintro e w6 ⟨rfl, hb6⟩
                rw [chkI_yes HW5.out.may]
                have HW6 := Lib.hid (HW5.out.below hb6)
                have HWl6 := Lib.hid (HWl5.out.below hb6)
                have Hb66 := Lib.hid (bt Hb55.out hb6)
                have hn5 : n5 ≤ 30 := HW5.out.few
                clear hb6 HW5 HWl5 Hb55
                go_wp2_with fail
                generalize hw9 : w6 = w19 at *
                clear hw9
                go_loopw [14] (fun i wq => ∃ m : Nat, m ≤ n5 ∧ i = .int .i64 m ∧ Below w19.heap.size w19 wq) (fun i _ => n5 - (intOf i).toNat)
                case atStart => exact ⟨0, Nat.zero_le _, rfl, Below.refl _ _⟩
                case round =>
                  obtain ⟨m, hm2, rfl, hbq⟩ := hrel
                  have Hbq := Lib.hid hbq
                  clear hbq
                  by_cases hmt : m < n5
                  · have d2 : decide ((m : Int) < n5) = true := by simpa using hmt
                    have hml : m < l5.length := by rw [HW6.out.len]; exact hmt
                    have z2 : (m : Int) < n5 := by omega
                    have HWq := Lib.hid (HW6.out.below Hbq.out)
                    have HWlq := Lib.hid (HWl6.out.below Hbq.out)
                    obtain ⟨ad, Ad, nd, cd, An, nn, cn, rfl, hcv, h0, -⟩ := HWq.out.read.cg hml
                    have KX := Lib.hid h0
                    have c2 := h0
                    have HFw := Lib.hid (Hww.out _ (List.getElem_mem hml))
                    generalize l5[m] = x at *
                    clear h0 hcv hml
                    go_wp2_with fail
                    refine (pwaits_any (some ad) n5 c5 l5 HW6.out.len HW6.out.cap (by have := HW6.out.few; omega) (fun c hc => by have := HW6.out.d c hc; omega) x.id _ HWq.out.read).mono ?_; rintro e w10 ⟨A10, n10, c10, rfl, e10, q10, r10, hr10, hb10⟩
                    have H10 := Lib.hid hr10
                    have HE10 := Lib.hid (show (waitsC l5 x.id).length = n10 ∧ n10 ≤ 30 from ⟨e10, by rw [← e10]; exact HW6.out.waits x.id⟩)
                    have Hb10 := Lib.hid (bt Hbq.out hb10)
                    have K10 := (hb10.cell (block_lt_of_cell KX.out)).trans KX.out
                    have HWl10 := Lib.hid (HWlq.out.below hb10)
                    have hn10 : n10 ≤ 30 := HE10.out.2
                    clear hr10 hb10 e10 q10 r10 c2
                    go_wp2_with fail
                    refine (pwaits_any A' n' c' l' HW.out.len HW.out.cap (by have := HW.out.few; omega) (fun c hc => by have := HW.out.d c hc; omega) x.id _ HWl10.out.read).mono ?_; rintro e w12 ⟨A12, n12, c12, rfl, e12, q12, r12, hr12, hb12⟩
                    have H12 := Lib.hid hr12
                    have H1012 := Lib.hid (H10.out.below hb12)
                    have HE12 := Lib.hid (show (waitsC l' x.id).length = n12 ∧ n12 ≤ maxLen from ⟨e12, Nat.le_trans q12 r12⟩)
                    have Hb12 := Lib.hid (bt Hb10.out hb12)
                    clear hr12 hb12 e12 q12 r12 K10
                    go_wp2_with fail
                    generalize hw11 : w12 = w11 at *
                    clear hw11
                    go_loopw [17] (fun i wz => ∃ j : Nat, j ≤ n10 ∧ i = .int .i64 j ∧ wz = w11) (fun i _ => n10 - (intOf i).toNat)
                    case atStart => exact ⟨0, Nat.zero_le _, rfl, rfl⟩
                    case round =>
                      obtain ⟨j, hj, rfl, rfl⟩ := hrel
                      by_cases hjt : j < n10
                      · have d3 : decide ((j : Int) < n10) = true := by simpa using hjt
                        have hjl : j < (waitsC l5 x.id).length := by rw [HE10.out.1]; exact hjt
                        have z3 : (j : Int) < n10 := by omega
                        obtain ⟨a10, rfl, hc⟩ := H1012.out.int j hjl
                        have HIN := Lib.hid (show (waitsC l' x.id).contains (waitsC l5 x.id)[j] = true from List.contains_iff_mem.2 (HFw.out _ (List.getElem_mem hjl)))
                        generalize (waitsC l5 x.id)[j] = y at *
                        clear hjl
                        go_wp2_with fail
                        refine (rin9_is A12 n12 c12 (waitsC l' x.id) HE12.out.1 HE12.out.2 y true HIN.out _ H12.out).mono ?_; rintro e wy ⟨rfl, rfl⟩
                        go_wp2_with fail
                        go_roundw
                        case rel => exact ⟨j + 1, by omega, by go_num, by first | rfl | trivial⟩
                        case measure => simp [intOf]; omega
                      · have d3 : decide ((j : Int) < n10) = false := by simpa using hjt
                        go_wp2_with fail
                        go_roundw
                        case rel => exact ⟨m + 1, by omega, by go_num, Hb12.out⟩
                        case measure => simp [intOf]; omega
                  · have d2 : decide ((m : Int) < n5) = false := by simpa using hmt
                    go_wp2_with fail
                    go_roundw
                    case rel => exact ⟨k + 1, A5, n5, c5, l5, by omega, by go_num, rfl, HW6.out.below Hbq.out, bt Hb66.out Hbq.out⟩
                    case measure => simp [intOf]; omega
          · have d1 : decide ((k : Int) < nb) = false := by simpa using hlt
            go_wp2_with fail
            refine (works09_any _).mono ?_; rintro e w5 ⟨rfl, hb5⟩
            have Hb5 := Lib.hid (bt Hbw.out hb5)
            clear hb5
            go_wp2_with fail
            go_ret
            exact ⟨rfl, Hb5.out⟩

end Go.Proofs.Ytkhgoblmfcaapaa
