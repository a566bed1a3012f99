/-
  The contract of the document's Ready.
-/
import Derived.Test.YtmcinaigkjfehaaR09d
import Derived.Test.YtmcinaigkjfehaaGr3
namespace Go.Proofs.Ytmcinaigkjfehaa
open Go.RowKit

/-- Are the first j of a list all there? -/
def allT (W R : List Int) (j : Nat) : Bool := (W.take j).all fun x => R.contains x
theorem allT_zero (W R : List Int) : allT W R 0 = true := rfl
theorem allT_succ {W R : List Int} {j : Nat} (h : j < W.length) : allT W R (j + 1) = (allT W R j && R.contains W[j]) := by
  unfold allT
  rw [List.take_succ_eq_append_getElem h, List.all_append]
  simp
theorem allT_all (W R : List Int) (j : Nat) (h : W.length ≤ j) : allT W R j = W.all fun x => R.contains x := by
  unfold allT
  rw [List.take_of_length_le h]
theorem waitsC_len (l : List Cg) (id : Int) : (waitsC l id).length ≤ l.length := by
  unfold waitsC
  split
  · split
    · simp
    · rename_i pre c h
      obtain ⟨_, post, hl, _⟩ := splitId_some h
      rw [List.length_map]
      refine Nat.le_trans (List.length_filter_le _ _) ?_
      rw [hl]
      simp
  · simp

set_option maxRecDepth 100000 in
set_option maxHeartbeats 8000000 in
theorem rready9_any (A : Option Addr) (n cap : Nat) (l : List Cg) (hn : l.length = n) (hm : n ≤ 4096) (hN : ∀ c ∈ l, c.needs.length ≤ 4096) (block : Int) (w : World) (hr : RdL RdC w A 5 l) :
    Calls Try.prog 40 #[.slice A n cap, .int .i64 block] w (RetI w (readyC l block)) := by
  have Hn := Lib.hid hn
  have Hr := Lib.hid hr
  have HNN := Lib.hid hN
  obtain ⟨W, hW⟩ : ∃ W, readyC l block = W := ⟨_, rfl⟩
  rw [hW]
  have HW := Lib.hid hW
  clear hn hr hN hW
  have HMay := Lib.hid (rmay_any A n cap l Hn.out hm HNN.out w Hr.out)
  cases hmay : mayC l
  · have HE : Hid (W = []) := Lib.hid (HW.out.symm.trans (by unfold readyC; rw [hmay]; rfl))
    rw [hmay] at HMay
    clear hmay
    go_enter Try.func40, Try.ntmps40
    go_wp2_with fail
    refine (HMay.out).mono ?_; rintro e w2 ⟨rfl, hb2⟩
    have Hb2 := Lib.hid hb2
    clear hb2
    go_wp2_with fail
    go_ret
    rw [HE.out]
    exact RetI.nil_ Hb2.out
  · have Hmay := Lib.hid hmay
    rw [hmay] at HMay
    clear hmay
    go_enter Try.func40, Try.ntmps40
    go_wp2_with fail
    refine (HMay.out).mono ?_; rintro e w2 ⟨rfl, hb2⟩
    have Hw2 := Lib.hid hb2
    clear hb2
    go_wp2_with fail
    go_loopw [5, 6] (fun v i wr => ∃ k : Nat, k ≤ n ∧ i = .int .i64 k ∧ OwnC wr w.heap.size 3 v (ivals (rdN l block k)) ∧ Below w.heap.size w wr) (fun _ i _ => n - (intOf i).toNat)
    case atStart => exact ⟨0, Nat.zero_le _, rfl, OwnC.nil_ _ _ _, Hw2.out⟩
    case round =>
      obtain ⟨k, hk, rfl, hu, hbw⟩ := hrel
      have Hu := Lib.hid hu
      have Hbw := Lib.hid hbw
      clear hu hbw
      by_cases hlt : k < n
      · have d0 : decide ((k : Int) < n) = true := by simpa using hlt
        have hkl : k < l.length := by have := Hn.out; omega
        have z1 : (k : Int) < n := by omega
        have HS := Lib.hid (rdN_succ (block := block) hkl)
        have hl0 := rdN_len l block k
        have hl1 : (ivals (rdN l block k)).length + 1 ≤ maxLen := by rw [ivals_len]; unfold maxLen; omega
        have hl2 : ((ivals (rdN l block k)).length + 1) * 8 ≤ 140737488355328 := by rw [ivals_len]; omega
        have HR0 := Lib.hid (show (rdN l block k).length ≤ maxLen by unfold maxLen; omega)
        obtain ⟨ad, Ad, nd, cd, An, nn, cn, rfl, hcv, h0, h1, h2, h3, h4⟩ := (Hr.out.below Hbw.out).cg hkl
        have K0 := Lib.hid h0
        have c1 := cell_fld h0 h1
        clear h0 h1 h2 h3 h4 hcv
        generalize l[k] = c at *
        generalize rdN l block k = R at *
        clear hkl
        by_cases hbl : c.block = block
        · have e1 : (c.block != block) = false := by simpa using hbl
          have HBL := Lib.hid hbl
          clear hbl
          have c0 := K0.out
          go_wp2_with fail
          refine (rwaits9_any (some ad) n cap l Hn.out hm HNN.out c.id _ (Hr.out.below Hbw.out)).mono ?_; rintro e w3 ⟨A3, n3, c3, rfl, e3, q3, r3, hr3, hb3⟩
          have Hr3 := Lib.hid hr3
          have HX3 := Lib.hid (show (waitsC l c.id).length = n3 ∧ n3 ≤ c3 ∧ c3 ≤ maxLen ∧ n3 ≤ 4096 from ⟨e3, q3, r3, by have := waitsC_len l c.id; have := Hn.out; omega⟩)
          have Hb3 := Lib.hid (bt Hbw.out hb3)
          have Hu3 := Lib.hid (Hu.out.ext hb3)
          have hn3 : n3 ≤ 4096 := HX3.out.2.2.2
          obtain ⟨Av, cv, rfl, hv1, hv2, hv3⟩ := Hu3.out.ints
          have HV := Lib.hid (show R.length ≤ cv ∧ cv ≤ maxLen from ⟨hv1, hv2⟩)
          have Hv3 := Lib.hid hv3
          have K3 := Lib.hid ((hb3.cell (block_lt_of_cell K0.out)).trans K0.out)
          clear hr3 e3 q3 r3 hb3 hv1 hv2 hv3 c0 c1
          have HS1 := Lib.hid (show rdN l block (k + 1) = if allT (waitsC l c.id) R n3 = true then R ++ [c.id] else R by
            rw [HS.out, allT_all _ _ _ (Nat.le_of_eq HX3.out.1), HBL.out]
            by_cases h : ((waitsC l c.id).all fun x => R.contains x) = true
            · rw [if_pos ⟨rfl, h⟩, if_pos h]
            · rw [if_neg (fun hh => h hh.2), if_neg h])
          generalize waitsC l c.id = WL at *
          go_wp2_with fail
          generalize hw9 : w3 = w9 at *
          clear hw9
          go_loopw [8, 9] (fun f j wq => ∃ m : Nat, m ≤ n3 ∧ j = .int .i64 m ∧ f = .bool (allT WL R m) ∧ wq = w9) (fun _ j _ => n3 - (intOf j).toNat)
          case atStart => exact ⟨0, Nat.zero_le _, rfl, rfl, rfl⟩
          case round =>
            obtain ⟨m, hm2, rfl, rfl, rfl⟩ := hrel
            by_cases hmt : m < n3
            · have d1 : decide ((m : Int) < n3) = true := by simpa using hmt
              have hml : m < WL.length := by have := HX3.out.1; omega
              obtain ⟨aw, rfl, hc⟩ := Hr3.out.int m hml
              have HA := Lib.hid (allT_succ (R := R) hml)
              generalize WL[m] = x at *
              obtain ⟨b, hb⟩ : ∃ b, R.contains x = b := ⟨_, rfl⟩
              rw [hb] at HA
              have HB := Lib.hid hb
              clear hb hml
              generalize allT WL R m = f at *
              cases f
              · go_wp2_with fail
                go_roundw
                case rel => exact ⟨m + 1, by omega, by go_num, by rw [HA.out]; rfl, by first | rfl | trivial⟩
                case measure => simp [intOf]; omega
              · go_wp2_with fail
                refine (rin9_is Av R.length cv R rfl HR0.out x b HB.out _ Hv3.out).mono ?_; rintro e wx ⟨rfl, rfl⟩
                go_wp2_with fail
                go_roundw
                case rel => exact ⟨m + 1, by omega, by go_num, by rw [HA.out]; rfl, by first | rfl | trivial⟩
                case measure => simp [intOf]; omega
            · have d1 : decide ((m : Int) < n3) = false := by simpa using hmt
              rw [show m = n3 by omega]
              cases hf : allT WL R n3
              · have HX := Lib.hid (show rdN l block (k + 1) = R by rw [HS1.out, hf]; rfl)
                clear hf
                go_wp2_with fail
                go_roundw
                case rel => exact ⟨k + 1, by omega, by go_num, by rw [HX.out]; exact Hu3.out, Hb3.out⟩
                case measure => simp [intOf]; omega
              · have HX := Lib.hid (show rdN l block (k + 1) = R ++ [c.id] by rw [HS1.out, hf]; rfl)
                clear hf
                have c0 := K3.out
                go_wp2_with (at_builtin; refine wpList_append_one rfl _ _ _ _ rfl Try.underlying28 (.int .i64 0) 8 Try.infoInt rfl w.heap.size _ _ rfl Hu3.out (.int .i64 c.id) rfl rfl Hb3.out.size hl1 hl2 ?_)
                apply Stop.go
                intro v' w6 Hv' Ha'
                have D6 := Lib.hid (Hb3.out.trans Ha'.out.below)
                go_wp2_with fail
                go_roundw
                case rel => exact ⟨k + 1, by omega, by go_num, by rw [HX.out, ← ivals_snoc]; exact Hv'.out, D6.out⟩
                case measure => simp [intOf]; omega
        · have e1 : (c.block != block) = true := by simpa using hbl
          have HX := Lib.hid (show rdN l block (k + 1) = R by rw [HS.out, if_neg (fun h => hbl h.1)])
          clear hbl
          go_wp2_with fail
          go_roundw
          case rel => exact ⟨k + 1, by omega, by go_num, by rw [HX.out]; exact Hu.out, Hbw.out⟩
          case measure => simp [intOf]; omega
      · have d0 : decide ((k : Int) < n) = false := by simpa using hlt
        have HX : Hid (W = rdN l block k) := Lib.hid (by rw [← HW.out, readyC_rdN block Hmay.out, Hn.out, show k = n by omega])
        go_wp2_with fail
        go_ret
        rw [HX.out]
        exact Hu.out.retI Hbw.out

end Go.Proofs.Ytmcinaigkjfehaa
