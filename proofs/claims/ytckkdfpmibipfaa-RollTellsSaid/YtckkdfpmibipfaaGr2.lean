/-
  Texts of this claim joined: R09e, R09f, Ref10, Ref10b.
-/
import Derived.Test.YtckkdfpmibipfaaR09d
import Derived.Test.YtckkdfpmibipfaaReadyD
import Derived.Test.YtckkdfpmibipfaaCg12
import Derived.Test.YtckkdfpmibipfaaInts
import Derived.Test.YtckkdfpmibipfaaRollA

/-
  The contract of the document's Ready.
-/
namespace Go.Proofs.Ytckkdfpmibipfaa
open Go.RowKit

/-- Are the first j of a list all there? -/
def allT (W R : List Int) (j : Nat) : Bool := (W.take j).all fun x => R.contains x
theorem allT_zero (W R : List Int) : allT W R 0 = true := rfl
theorem allT_succ {W R : List Int} {j : Nat} (h : j < W.length) : allT W R (j + 1) = (allT W R j && R.contains W[j]) := by
  unfold allT
  rw [List.take_succ_eq_append_getElem h, List.all_append]
  simp
theorem allT_all (W R : List Int) (j : Nat) (h : W.length ≤ j) : allT W R j = W.all fun x => R.contains x := by
  unfold allT
  rw [List.take_of_length_le h]
theorem waitsC_len (l : List Cg) (id : Int) : (waitsC l id).length ≤ l.length := by
  unfold waitsC
  split
  · split
    · simp
    · rename_i pre c h
      obtain ⟨_, post, hl, _⟩ := splitId_some h
      rw [List.length_map]
      refine Nat.le_trans (List.length_filter_le _ _) ?_
      rw [hl]
      simp
  · simp

set_option maxRecDepth 100000 in
set_option maxHeartbeats 8000000 in
theorem rready9_any (A : Option Addr) (n cap : Nat) (l : List Cg) (hn : l.length = n) (hm : n ≤ 4096) (hN : ∀ c ∈ l, c.needs.length ≤ 4096) (block : Int) (w : World) (hr : RdL RdC w A 5 l) :
    Calls Try.prog 16 #[.slice A n cap, .int .i64 block] w (RetI w (readyC l block)) := by
  have Hn := Lib.hid hn
  have Hr := Lib.hid hr
  have HNN := Lib.hid hN
  obtain ⟨W, hW⟩ : ∃ W, readyC l block = W := ⟨_, rfl⟩
  rw [hW]
  have HW := Lib.hid hW
  clear hn hr hN hW
  have HMay := Lib.hid (rmay_any A n cap l Hn.out hm HNN.out w Hr.out)
  cases hmay : mayC l
  · have HE : Hid (W = []) := Lib.hid (HW.out.symm.trans (by unfold readyC; rw [hmay]; rfl))
    rw [hmay] at HMay
    clear hmay
    go_enter Try.func16, Try.ntmps16
    go_wp2_with fail
    refine (HMay.out).mono ?_; rintro e w2 ⟨rfl, hb2⟩
    have Hb2 := Lib.hid hb2
    clear hb2
    go_wp2_with fail
    go_ret
    rw [HE.out]
    exact RetI.nil_ Hb2.out
  · have Hmay := Lib.hid hmay
    rw [hmay] at HMay
    clear hmay
    go_enter Try.func16, Try.ntmps16
    go_wp2_with fail
    refine (HMay.out).mono ?_; rintro e w2 ⟨rfl, hb2⟩
    have Hw2 := Lib.hid hb2
    clear hb2
    go_wp2_with fail
    go_loopw [5, 6] (fun v i wr => ∃ k : Nat, k ≤ n ∧ i = .int .i64 k ∧ OwnC wr w.heap.size 3 v (ivals (rdN l block k)) ∧ Below w.heap.size w wr) (fun _ i _ => n - (intOf i).toNat)
    case atStart => exact ⟨0, Nat.zero_le _, rfl, OwnC.nil_ _ _ _, Hw2.out⟩
    case round =>
      obtain ⟨k, hk, rfl, hu, hbw⟩ := hrel
      have Hu := Lib.hid hu
      have Hbw := Lib.hid hbw
      clear hu hbw
      by_cases hlt : k < n
      · have d0 : decide ((k : Int) < n) = true := by simpa using hlt
        have hkl : k < l.length := by have := Hn.out; omega
        have z1 : (k : Int) < n := by omega
        have HS := Lib.hid (rdN_succ (block := block) hkl)
        have hl0 := rdN_len l block k
        have hl1 : (ivals (rdN l block k)).length + 1 ≤ maxLen := by rw [ivals_len]; unfold maxLen; omega
        have hl2 : ((ivals (rdN l block k)).length + 1) * 8 ≤ 140737488355328 := by rw [ivals_len]; omega
        have HR0 := Lib.hid (show (rdN l block k).length ≤ maxLen by unfold maxLen; omega)
        obtain ⟨ad, Ad, nd, cd, An, nn, cn, rfl, hcv, h0, h1, h2, h3, h4⟩ := (Hr.out.below Hbw.out).cg hkl
        have K0 := Lib.hid h0
        have c1 := cell_fld h0 h1
        clear h0 h1 h2 h3 h4 hcv
        generalize l[k] = c at *
        generalize rdN l block k = R at *
        clear hkl
        by_cases hbl : c.block = block
        · have e1 : (c.block != block) = false := by simpa using hbl
          have HBL := Lib.hid hbl
          clear hbl
          have c0 := K0.out
          go_wp2_with fail
          refine (rwaits9_any (some ad) n cap l Hn.out hm HNN.out c.id _ (Hr.out.below Hbw.out)).mono ?_; rintro e w3 ⟨A3, n3, c3, rfl, e3, q3, r3, hr3, hb3⟩
          have Hr3 := Lib.hid hr3
          have HX3 := Lib.hid (show (waitsC l c.id).length = n3 ∧ n3 ≤ c3 ∧ c3 ≤ maxLen ∧ n3 ≤ 4096 from ⟨e3, q3, r3, by have := waitsC_len l c.id; have := Hn.out; omega⟩)
          have Hb3 := Lib.hid (bt Hbw.out hb3)
          have Hu3 := Lib.hid (Hu.out.ext hb3)
          have hn3 : n3 ≤ 4096 := HX3.out.2.2.2
          obtain ⟨Av, cv, rfl, hv1, hv2, hv3⟩ := Hu3.out.ints
          have HV := Lib.hid (show R.length ≤ cv ∧ cv ≤ maxLen from ⟨hv1, hv2⟩)
          have Hv3 := Lib.hid hv3
          have K3 := Lib.hid ((hb3.cell (block_lt_of_cell K0.out)).trans K0.out)
          clear hr3 e3 q3 r3 hb3 hv1 hv2 hv3 c0 c1
          have HS1 := Lib.hid (show rdN l block (k + 1) = if allT (waitsC l c.id) R n3 = true then R ++ [c.id] else R by
            rw [HS.out, allT_all _ _ _ (Nat.le_of_eq HX3.out.1), HBL.out]
            by_cases h : ((waitsC l c.id).all fun x => R.contains x) = true
            · rw [if_pos ⟨rfl, h⟩, if_pos h]
            · rw [if_neg (fun hh => h hh.2), if_neg h])
          generalize waitsC l c.id = WL at *
          go_wp2_with fail
          generalize hw9 : w3 = w9 at *
          clear hw9
          go_loopw [8, 9] (fun f j wq => ∃ m : Nat, m ≤ n3 ∧ j = .int .i64 m ∧ f = .bool (allT WL R m) ∧ wq = w9) (fun _ j _ => n3 - (intOf j).toNat)
          case atStart => exact ⟨0, Nat.zero_le _, rfl, rfl, rfl⟩
          case round =>
            obtain ⟨m, hm2, rfl, rfl, rfl⟩ := hrel
            by_cases hmt : m < n3
            · have d1 : decide ((m : Int) < n3) = true := by simpa using hmt
              have hml : m < WL.length := by have := HX3.out.1; omega
              obtain ⟨aw, rfl, hc⟩ := Hr3.out.int m hml
              have HA := Lib.hid (allT_succ (R := R) hml)
              generalize WL[m] = x at *
              obtain ⟨b, hb⟩ : ∃ b, R.contains x = b := ⟨_, rfl⟩
              rw [hb] at HA
              have HB := Lib.hid hb
              clear hb hml
              generalize allT WL R m = f at *
              cases f
              · go_wp2_with fail
                go_roundw
                case rel => exact ⟨m + 1, by omega, by go_num, by rw [HA.out]; rfl, by first | rfl | trivial⟩
                case measure => simp [intOf]; omega
              · go_wp2_with fail
                refine (rin9_is Av R.length cv R rfl HR0.out x b HB.out _ Hv3.out).mono ?_; rintro e wx ⟨rfl, rfl⟩
                go_wp2_with fail
                go_roundw
                case rel => exact ⟨m + 1, by omega, by go_num, by rw [HA.out]; rfl, by first | rfl | trivial⟩
                case measure => simp [intOf]; omega
            · have d1 : decide ((m : Int) < n3) = false := by simpa using hmt
              rw [show m = n3 by omega]
              cases hf : allT WL R n3
              · have HX := Lib.hid (show rdN l block (k + 1) = R by rw [HS1.out, hf]; rfl)
                clear hf
                go_wp2_with fail
                go_roundw
                case rel => exact ⟨k + 1, by omega, by go_num, by rw [HX.out]; exact Hu3.out, Hb3.out⟩
                case measure => simp [intOf]; omega
              · have HX := Lib.hid (show rdN l block (k + 1) = R ++ [c.id] by rw [HS1.out, hf]; rfl)
                clear hf
                have c0 := K3.out
                go_wp2_with (at_builtin; refine wpList_append_one rfl _ _ _ _ rfl Try.underlying30 (.int .i64 0) 8 Try.infoInt rfl w.heap.size _ _ rfl Hu3.out (.int .i64 c.id) rfl rfl Hb3.out.size hl1 hl2 ?_)
                apply Stop.go
                intro v' w6 Hv' Ha'
                have D6 := Lib.hid (Hb3.out.trans Ha'.out.below)
                go_wp2_with fail
                go_roundw
                case rel => exact ⟨k + 1, by omega, by go_num, by rw [HX.out, ← ivals_snoc]; exact Hv'.out, D6.out⟩
                case measure => simp [intOf]; omega
        · have e1 : (c.block != block) = true := by simpa using hbl
          have HX := Lib.hid (show rdN l block (k + 1) = R by rw [HS.out, if_neg (fun h => hbl h.1)])
          clear hbl
          go_wp2_with fail
          go_roundw
          case rel => exact ⟨k + 1, by omega, by go_num, by rw [HX.out]; exact Hu.out, Hbw.out⟩
          case measure => simp [intOf]; omega
      · have d0 : decide ((k : Int) < n) = false := by simpa using hlt
        have HX : Hid (W = rdN l block k) := Lib.hid (by rw [← HW.out, readyC_rdN block Hmay.out, Hn.out, show k = n by omega])
        go_wp2_with fail
        go_ret
        rw [HX.out]
        exact Hu.out.retI Hbw.out

end Go.Proofs.Ytckkdfpmibipfaa

/-
  Contracts of the document's answer 09: Of, Without, Same, SameAll.
-/
namespace Go.Proofs.Ytckkdfpmibipfaa
open Go.RowKit


set_option maxRecDepth 100000 in
set_option maxHeartbeats 4000000 in
theorem rwithout9_any (A : Option Addr) (n cap : Nat) (l : List Cg) (hn : l.length = n) (hm : n ≤ 4096) (Ai : Option Addr) (ni ci : Nat) (ids : List Int) (hni : ids.length = ni) (hmi : ni ≤ 4096) (w : World) (hr : RdL RdC w A 5 l) (hri : RC w Ai (ivals ids)) :
    Calls Try.prog 26 #[.slice A n cap, .slice Ai ni ci] w (RetC w (withoutC l ids)) := by
  have Hn := Lib.hid hn
  have Hr := Lib.hid hr
  have Hni := Lib.hid hni
  have Hri := Lib.hid hri
  clear hni hri
  clear hn hr
  go_enter Try.func26, Try.ntmps26
  go_wp2_with fail
  go_loopw [5, 6] (fun o i wr => ∃ k : Nat, k ≤ n ∧ i = .int .i64 k ∧ OwnL RdC wr w.heap.size 56 5 o (withoutC (l.take k) ids) ∧ Below w.heap.size w wr) (fun _ i _ => n - (intOf i).toNat)
  case atStart => exact ⟨0, Nat.zero_le _, rfl, OwnL.nil_ _ _ _ _ _, Below.refl _ _⟩
  case round =>
    obtain ⟨k, hk, rfl, hu, hbw⟩ := hrel
    have Hu := Lib.hid hu
    have Hbw := Lib.hid hbw
    clear hu hbw
    by_cases hlt : k < n
    · have d0 : decide ((k : Int) < n) = true := by simpa using hlt
      have hkl : k < l.length := by rw [Hn.out]; exact hlt
      have z1 : (k : Int) < n := by omega
      obtain ⟨ad, Ad, nd, cd, An, nn, cn, rfl, hcv, h0, h1, h2, h3, h4⟩ := Hr.out.cg hkl
      have Hon := Lib.hid (withoutC_on (ids := ids) hkl)
      have Hoff := Lib.hid (withoutC_off (ids := ids) hkl)
      have Hlk := Lib.hid (withoutC_lenk l ids k)
      have tr := fun {ad : Addr} {v : Value} (h : w.cell? ad = some v) => (Hbw.out.cell (block_lt_of_cell h)).trans h
      have C0 := Lib.hid (tr h0)
      have C1 := Lib.hid (tr h1)
      have C2 := Lib.hid (tr h2)
      have C3 := Lib.hid (tr h3)
      have C4 := Lib.hid (tr h4)
      have c0 := C0.out
      have c1 := cell_fld C0.out C1.out
      have Hcv := Lib.hid hcv
      clear h0 h1 h2 h3 h4 hcv tr
      generalize l[k] = c at *
      generalize withoutC (l.take k) ids = L at *
      clear hkl
      obtain ⟨b, hb⟩ : ∃ b, ids.contains c.id = b := ⟨_, rfl⟩
      rw [hb] at Hon Hoff
      have HBB := Lib.hid hb
      clear hb
      go_wp2_with fail
      refine (rin9_is Ai ni ci ids Hni.out (by unfold maxLen; omega) c.id b HBB.out _ (Hri.out.below Hbw.out)).mono ?_; rintro e wx ⟨rfl, rfl⟩
      clear c0 c1
      cases b
      · have HX := Lib.hid (Hoff.out rfl)
        go_wp2_with (first | refine wpList_load_five rfl _ _ rfl (ad.add (k * 5)) rfl _ _ _ _ _ C0.out C1.out C2.out C3.out C4.out _ Try.underlying56 Try.rchgSize ?_ | refine wpList_build_row rfl _ _ _ rfl Try.underlying23 5 72 _ Try.rchgInfo (by decide) (by decide) #[.int .i64 c.id, .int .i64 c.block, .int .i64 c.p.at_, .slice Ad nd cd, .slice An nn cn] rfl rfl ?_)
        apply Stop.go; intro wB HgB HbB
        have HuZ := Lib.hid (Hu.out.ext HgB.out.1)
        have HcZ := Lib.hid (Hcv.out.below (bt Hbw.out HgB.out.1))
        have HzB := Lib.hid (Nat.le_trans Hbw.out.size HgB.out.1.size)
        have hl1 : L.length + 1 ≤ 140737488355328 := by have := Hlk.out; omega
        have hl2 : (L.length + 1) * 72 ≤ 140737488355328 := by have := Hlk.out; omega
        go_wp2_with (at_builtin; refine wpList_append_L RdC rfl _ _ _ _ rfl Try.underlying23 5 72 _ Try.rchgInfo rfl (by decide) w.heap.size _ L rfl HuZ.out _ _ rfl HbB.out rfl (by simp [Value.oneCell']) c HcZ.out.rd (fun q hq e => by have h1 := RdC.there Hcv.out.rd q hq; have h2 := (Hu.out.lt q e).1; omega) HzB.out hl1 hl2 ?_)
        apply Stop.go
        intro gL capL wL HL HbL HgL HwL
        go_wp2_with fail
        go_roundw
        case rel => exact ⟨k + 1, by omega, by go_num, by rw [HX.out]; exact HL.out, (bt Hbw.out HgB.out.1).trans HbL.out⟩
        case measure => simp [intOf]; omega
      · have HX := Lib.hid (Hon.out rfl)
        go_wp2_with fail
        go_roundw
        case rel => exact ⟨k + 1, by omega, by go_num, by rw [HX.out]; exact Hu.out, Hbw.out⟩
        case measure => simp [intOf]; omega
    · have d0 : decide ((k : Int) < n) = false := by simpa using hlt
      rw [List.take_of_length_le (by rw [Hn.out]; omega)] at Hu
      obtain ⟨A', c', rfl, -⟩ := Hu.out.read
      go_wp2_with fail
      go_ret
      exact Hu.out.retC Hbw.out

set_option maxRecDepth 100000 in
set_option maxHeartbeats 4000000 in
/-- Two that read as one change are told the same. -/
theorem rsame9_any (c : Cg) (Ad : Option Addr) (nd cd : Nat) (An : Option Addr) (nn cn : Nat) (Ae : Option Addr) (ne ce : Nat) (Am : Option Addr) (nm cm : Nat) (w : World) (hc : CV w c Ad nd cd An nn cn) (hd : CV w c Ae ne ce Am nm cm) :
    Calls Try.prog 41 #[.agg #[.int .i64 c.id, .int .i64 c.block, .int .i64 c.p.at_, .slice Ad nd cd, .slice An nn cn], .agg #[.int .i64 c.id, .int .i64 c.block, .int .i64 c.p.at_, .slice Ae ne ce, .slice Am nm cm]] w fun e w' => e = .returned (.bool true) ∧ Below w.heap.size w w' := by
  have Hc := Lib.hid hc
  have Hd := Lib.hid hd
  clear hc hd
  go_enter Try.func41, Try.ntmps41
  go_wp2_with (refine wpList_box_row rfl _ _ rfl _ rfl ?_)
  apply Stop.go; intro w1 Hg1 Hb1
  go_wp2_with (refine wpList_box_row rfl _ _ rfl _ rfl ?_)
  apply Stop.go; intro w2 Hg2 Hb2
  have Hw2 := Lib.hid (bt Hg1.out.1 Hg2.out.1)
  have Hx2 := Lib.hid (Hb1.out.ext Hg2.out.1)
  have c0 : w2.cell? ⟨w.heap.size, 0, none⟩ = some (.int .i64 c.id) := Hx2.out.five.1
  have c1 : w2.cell? ⟨w.heap.size, 1, none⟩ = some (.int .i64 c.block) := Hx2.out.five.2.1
  have c2 : w2.cell? ⟨w1.heap.size, 0, none⟩ = some (.int .i64 c.id) := Hb2.out.five.1
  have c3 : w2.cell? ⟨w1.heap.size, 1, none⟩ = some (.int .i64 c.block) := Hb2.out.five.2.1
  go_wp2_with (first | refine wpList_load_pair rfl _ _ rfl ⟨w.heap.size, 2, none⟩ rfl (.int .i64 c.p.at_) (.slice Ad nd cd) Hx2.out.five.2.2.1 Hx2.out.five.2.2.2.2.2 _ Try.underlying54 Try.rpatchSize ?_ | refine wpList_load_pair rfl _ _ rfl ⟨w1.heap.size, 2, none⟩ rfl (.int .i64 c.p.at_) (.slice Ae ne ce) Hb2.out.five.2.2.1 Hb2.out.five.2.2.2.2.2 _ Try.underlying54 Try.rpatchSize ?_)
  refine (rsamep_any c.p Ad nd cd c.p Ae ne ce _ (Hc.out.p.below Hw2.out) (Hd.out.p.below Hw2.out)).mono ?_; rintro e w3 ⟨rfl, hb3⟩
  rw [sameP_self]
  have Hb3 := Lib.hid hb3
  have c4 : w3.cell? ⟨w.heap.size, 4, none⟩ = some (.slice An nn cn) := (Hx2.out.ext hb3).five.2.2.2.2.1
  have c5 : w3.cell? ⟨w1.heap.size, 4, none⟩ = some (.slice Am nm cm) := (Hb2.out.ext hb3).five.2.2.2.2.1
  have Hw3 := Lib.hid (bt Hw2.out hb3)
  clear hb3 c0 c1 c2 c3
  go_wp2_with fail
  refine (ints_any An nn cn c.needs Hc.out.len Am nm cm c.needs Hd.out.len (Nat.le_trans Hc.out.cap Hc.out.max) (Nat.le_trans Hd.out.cap Hd.out.max) _ (Hc.out.read.below Hw3.out) (Hd.out.read.below Hw3.out)).mono ?_; rintro e w4 ⟨rfl, q4, rfl⟩
  rw [decide_eq_true rfl]
  have Hw4 := Lib.hid (bt Hw3.out (bdrew w3 q4))
  generalize w3.drewN q4 = w4 at *
  clear c4 c5
  go_wp2_with fail
  go_ret
  exact ⟨rfl, Hw4.out⟩

set_option maxRecDepth 100000 in
set_option maxHeartbeats 4000000 in
theorem rsameAll9_any (A : Option Addr) (n c : Nat) (A' : Option Addr) (c' : Nat) (l : List Cg) (hn : l.length = n) (hm : n ≤ 4096) (w : World) (hr : RdL RdC w A 5 l) (hr' : RdL RdC w A' 5 l) :
    Calls Try.prog 24 #[.slice A n c, .slice A' n c'] w fun e w' => e = .returned (.bool true) ∧ Below w.heap.size w w' := by
  have Hn := Lib.hid hn
  have Hr := Lib.hid hr
  have Hr' := Lib.hid hr'
  clear hn hr hr'
  have hb : ((n : Int) != (n : Int)) = false := by simp
  go_enter Try.func24, Try.ntmps24
  go_wp2_with fail
  go_loopw [5] (fun i wr => ∃ k : Nat, k ≤ n ∧ i = .int .i64 k ∧ Below w.heap.size w wr) (fun i _ => n - (intOf i).toNat)
  case atStart => exact ⟨0, Nat.zero_le _, rfl, Below.refl _ _⟩
  case round =>
    obtain ⟨k, hk, rfl, hbw⟩ := hrel
    have Hbw := Lib.hid hbw
    clear hbw
    by_cases hlt : k < n
    · have d0 : decide ((k : Int) < n) = true := by simpa using hlt
      have hkl : k < l.length := by rw [Hn.out]; exact hlt
      have z1 : (k : Int) < n := by omega
      obtain ⟨ad, Ad, nd, cd, An, nn, cn, rfl, hcv, h0, h1, h2, h3, h4⟩ := (Hr.out.below Hbw.out).cg hkl
      obtain ⟨ad', Ae, ne, ce, Am, nm, cm, rfl, hdv, h0', h1', h2', h3', h4'⟩ := (Hr'.out.below Hbw.out).cg hkl
      have C0 := Lib.hid h0
      have C1 := Lib.hid h1
      have C2 := Lib.hid h2
      have C3 := Lib.hid h3
      have C4 := Lib.hid h4
      have D0 := Lib.hid h0'
      have D1 := Lib.hid h1'
      have D2 := Lib.hid h2'
      have D3 := Lib.hid h3'
      have D4 := Lib.hid h4'
      have Hcv := Lib.hid hcv
      have Hdv := Lib.hid hdv
      clear h0 h1 h2 h3 h4 h0' h1' h2' h3' h4' hcv hdv
      generalize l[k] = c at *
      go_wp2_with fail
      refine WH.start (S := fun w' : World => Below wr.heap.size wr w') (List.replicate 10 false) 10 rfl rfl (by kernel_rfl) (bdrew wr 1) (fun hSn => ?_)
      simp only [List.replicate]
      refine WH.take 0 _ ?_ rfl (by kernel_rfl) (fun _ _ _ h => h) rfl (by assumption) ?_ ?_; rotate_left; (focus (intro w hSw; (try dsimp only at hSw); (first | (go_simp; done) | (go_simp; with_reducible rfl)))); simp only [Act.put, List.setIfInBounds_toArray, List.set_cons_zero, List.set_cons_succ]
      refine WH.take 1 _ ?_ rfl (by kernel_rfl) (fun _ _ _ h => h) rfl (by assumption) ?_ ?_; rotate_left; (focus (intro w hSw; (try dsimp only at hSw); (first | (go_simp; done) | (go_simp; with_reducible rfl)))); simp only [Act.put, List.setIfInBounds_toArray, List.set_cons_zero, List.set_cons_succ]
      refine WH.take 2 _ ?_ rfl (by kernel_rfl) (fun _ _ _ h => h) rfl (by assumption) ?_ ?_; rotate_left; (focus (intro w hSw; (try dsimp only at hSw); (first | (go_simp; done) | (go_simp; with_reducible rfl)))); simp only [Act.put, List.setIfInBounds_toArray, List.set_cons_zero, List.set_cons_succ]
      refine WH.take 3 _ _ rfl (by kernel_rfl) (fun _ _ _ h => h) rfl (by assumption) (fun w' hSw => exec_load_five _ _ rfl (ad.add (k * 5)) rfl _ _ _ _ _ ((hSw.cell (block_lt_of_cell C0.out)).trans C0.out) ((hSw.cell (block_lt_of_cell C1.out)).trans C1.out) ((hSw.cell (block_lt_of_cell C2.out)).trans C2.out) ((hSw.cell (block_lt_of_cell C3.out)).trans C3.out) ((hSw.cell (block_lt_of_cell C4.out)).trans C4.out) _ Try.underlying56 Try.rchgSize) ?_; simp only [Act.put, List.setIfInBounds_toArray, List.set_cons_zero, List.set_cons_succ]
      refine WH.take 4 _ ?_ rfl (by kernel_rfl) (fun _ _ _ h => h) rfl (by assumption) ?_ ?_; rotate_left; (focus (intro w hSw; (try dsimp only at hSw); (first | (go_simp; done) | (go_simp; with_reducible rfl)))); simp only [Act.put, List.setIfInBounds_toArray, List.set_cons_zero, List.set_cons_succ]
      refine WH.take 5 _ ?_ rfl (by kernel_rfl) (fun _ _ _ h => h) rfl (by assumption) ?_ ?_; rotate_left; (focus (intro w hSw; (try dsimp only at hSw); (first | (go_simp; done) | (go_simp; with_reducible rfl)))); simp only [Act.put, List.setIfInBounds_toArray, List.set_cons_zero, List.set_cons_succ]
      refine WH.take 6 _ ?_ rfl (by kernel_rfl) (fun _ _ _ h => h) rfl (by assumption) ?_ ?_; rotate_left; (focus (intro w hSw; (try dsimp only at hSw); (first | (go_simp; done) | (go_simp; with_reducible rfl)))); simp only [Act.put, List.setIfInBounds_toArray, List.set_cons_zero, List.set_cons_succ]
      refine WH.take 7 _ _ rfl (by kernel_rfl) (fun _ _ _ h => h) rfl (by assumption) (fun w' hSw => exec_load_five _ _ rfl (ad'.add (k * 5)) rfl _ _ _ _ _ ((hSw.cell (block_lt_of_cell D0.out)).trans D0.out) ((hSw.cell (block_lt_of_cell D1.out)).trans D1.out) ((hSw.cell (block_lt_of_cell D2.out)).trans D2.out) ((hSw.cell (block_lt_of_cell D3.out)).trans D3.out) ((hSw.cell (block_lt_of_cell D4.out)).trans D4.out) _ Try.underlying56 Try.rchgSize) ?_; simp only [Act.put, List.setIfInBounds_toArray, List.set_cons_zero, List.set_cons_succ]
      refine WH.only 8 _ rfl (by kernel_rfl) rfl (fun K hK => ?_); go_simp; refine (rsame9_any c Ad nd cd An nn cn Ae ne ce Am nm cm _ (Hcv.out.below hSn) (Hdv.out.below hSn)).mono ?_; rintro e w3 ⟨rfl, hb3⟩; go_simp
      have hSn := bt hSn hb3; refine hK _ _ hSn ?_; clear hK; clear K; simp only [List.set_cons_zero, List.set_cons_succ]
      refine WH.take 9 _ ?_ rfl (by kernel_rfl) (fun _ _ _ h => h) rfl (by assumption) ?_ ?_; rotate_left; (focus (intro w hSw; (try dsimp only at hSw); (first | (go_simp; done) | (go_simp; with_reducible rfl)))); simp only [Act.put, List.setIfInBounds_toArray, List.set_cons_zero, List.set_cons_succ]
      refine WH.done (by kernel_rfl) ?_
      have Hb3 := Lib.hid (bt Hbw.out hSn)
      clear hSn hb3
      go_wp2_with fail
      go_roundw
      case rel => exact ⟨k + 1, by omega, by go_num, Hb3.out⟩
      case measure => simp [intOf]; omega
    · have d0 : decide ((k : Int) < n) = false := by simpa using hlt
      go_wp2_with fail
      go_ret
      exact ⟨rfl, Hbw.out⟩

end Go.Proofs.Ytckkdfpmibipfaa

/-
  Contracts of the document's answer 10: Laid, View, Image, Held.
-/
namespace Go.Proofs.Ytckkdfpmibipfaa
open Go.RowKit

/-- Which changes of a block are laid: all, or those of a list of IDs. -/
def pickF (block : Int) (ids : List Int) (all : Bool) (c : Cg) : Bool := decide (c.block = block) && (all || ids.contains c.id)
theorem laid_on {L : List UInt8} {l : List Cg} {f : Cg → Bool} {k : Nat} (hk : k < l.length) (h : f l[k] = true) : laidC L ((l.take (k + 1)).filter f) = layP (laidC L ((l.take k).filter f)) l[k].p := by
  rw [List.take_succ_eq_append_getElem hk, List.filter_append, laidC_append, List.filter_cons_of_pos h]
  rfl
theorem laid_off {L : List UInt8} {l : List Cg} {f : Cg → Bool} {k : Nat} (hk : k < l.length) (h : f l[k] = false) : laidC L ((l.take (k + 1)).filter f) = laidC L ((l.take k).filter f) := by
  rw [List.take_succ_eq_append_getElem hk, List.filter_append, List.filter_cons_of_neg (by simp [h])]
  simp
theorem pickF_all (l : List Cg) (block : Int) (ids : List Int) : l.filter (pickF block ids true) = ofC l block := by
  unfold ofC
  apply List.filter_congr
  intro c _
  simp [pickF]
theorem pickF_ids (l : List Cg) (block : Int) (ids : List Int) : l.filter (pickF block ids false) = (ofC l block).filter fun c => ids.contains c.id := by
  unfold ofC
  rw [List.filter_filter]
  apply List.filter_congr
  intro c _
  simp [pickF, Bool.and_comm]

set_option maxRecDepth 100000 in
set_option maxHeartbeats 4000000 in
theorem rlaid10_any (B : Option Addr) (nb cb : Nat) (L : List UInt8) (hL : L.length = 256) (hnb : L.length = nb) (hcb : nb ≤ cb) (hmb : cb ≤ maxLen) (A : Option Addr) (n cap : Nat) (l : List Cg) (hn : l.length = n) (hm : n ≤ 4096) (block : Int) (Ai : Option Addr) (ni ci : Nat) (ids : List Int) (hni : ids.length = ni) (hmi : ni ≤ 4096) (all : Bool) (w : World) (hb : RB w B L) (hr : RdL RdC w A 5 l) (hri : RC w Ai (ivals ids)) :
    Calls Try.prog 34 #[.slice B nb cb, .slice A n cap, .int .i64 block, .slice Ai ni ci, .bool all] w (RetB w (laidC L (l.filter (pickF block ids all)))) := by
  have HL := Lib.hid hL
  have Hn := Lib.hid hn
  have Hr := Lib.hid hr
  have Hb := Lib.hid hb
  have Hnb := Lib.hid hnb
  have Hni := Lib.hid hni
  have Hri := Lib.hid hri
  clear hL hn hr hb hnb hni hri
  go_enter Try.func34, Try.ntmps34
  go_wp2_with fail
  go_loopw [0, 11] (fun v i wr => ∃ (k : Nat) (B' : Option Addr) (nb' cb' : Nat), k ≤ n ∧ i = .int .i64 k ∧ v = .slice B' nb' cb' ∧ (laidC L ((l.take k).filter (pickF block ids all))).length = nb' ∧ nb' ≤ cb' ∧ cb' ≤ maxLen ∧ RB wr B' (laidC L ((l.take k).filter (pickF block ids all))) ∧ Below w.heap.size w wr) (fun _ i _ => n - (intOf i).toNat)
  case atStart => exact ⟨0, B, nb, cb, Nat.zero_le _, rfl, rfl, Hnb.out, hcb, hmb, Hb.out, Below.refl _ _⟩
  case round =>
    obtain ⟨k, B', nb', cb', hk, rfl, rfl, hl, hc1, hc2, hb', hbw⟩ := hrel
    have Hl := Lib.hid hl
    have Hb' := Lib.hid hb'
    have Hbw := Lib.hid hbw
    have Hc := Lib.hid (show nb' ≤ cb' ∧ cb' ≤ maxLen from ⟨hc1, hc2⟩)
    clear hl hb' hbw hc1 hc2
    by_cases hlt : k < n
    · have d0 : decide ((k : Int) < n) = true := by simpa using hlt
      have hkl : k < l.length := by rw [Hn.out]; exact hlt
      have z1 : (k : Int) < n := by omega
      obtain ⟨ad, Ad, nd, cd, An, nn, cn, rfl, hcv, h0, h1, h2, h3, -⟩ := Hr.out.cg hkl
      have Hon := Lib.hid (laid_on (L := L) (f := pickF block ids all) hkl)
      have Hoff := Lib.hid (laid_off (L := L) (f := pickF block ids all) hkl)
      have HM := Lib.hid (laidC_len ((l.take k).filter (pickF block ids all)) HL.out)
      have tr := fun {ad : Addr} {v : Value} (h : w.cell? ad = some v) => (Hbw.out.cell (block_lt_of_cell h)).trans h
      have c0 := tr h0
      have c1 := cell_fld c0 (tr h1)
      have F2 := Lib.hid (cell_fld c0 (tr h2))
      have F3 := Lib.hid (cell_fld1 c0 (tr h3))
      have Hcv := Lib.hid (hcv.below Hbw.out)
      clear h0 h1 h2 h3 hcv tr
      have Hpk : pickF block ids all l[k] = (decide (l[k].block = block) && (all || ids.contains l[k].id)) := rfl
      generalize pickF block ids all l[k] = pk at *
      generalize l[k] = c at *
      generalize laidC L ((l.take k).filter (pickF block ids all)) = M at *
      clear hkl
      obtain ⟨b, hbb⟩ : ∃ b, ids.contains c.id = b := ⟨_, rfl⟩
      rw [hbb] at Hpk
      have HBB := Lib.hid hbb
      clear hbb
      have Hpk := Lib.hid Hpk
      by_cases hb : c.block = block
      · have e1 : (c.block == block) = true := by simpa using hb
        have HP := Lib.hid (show pk = (all || b) by rw [Hpk.out, decide_eq_true hb]; rfl)
        clear hb
        cases all
        · go_wp2_with fail
          refine (rin9_is Ai ni ci ids Hni.out (by unfold maxLen; omega) c.id b HBB.out _ (Hri.out.below Hbw.out)).mono ?_; rintro e wx ⟨rfl, rfl⟩
          cases b
          · have HX := Lib.hid (Hoff.out HP.out)
            go_wp2_with fail
            go_roundw
            case rel => exact ⟨k + 1, B', nb', cb', by omega, by go_num, rfl, by rw [HX.out]; exact Hl.out, Hc.out.1, Hc.out.2, by rw [HX.out]; exact Hb'.out, Hbw.out⟩
            case measure => simp [intOf]; omega
          · have HX := Lib.hid (Hon.out HP.out)
            go_wp2_with (refine wpList_load_pair rfl _ _ rfl ⟨(ad.add (k * 5)).block, (ad.add (k * 5)).off + 2, none⟩ rfl (.int .i64 c.p.at_) (.slice Ad nd cd) F2.out F3.out _ Try.underlying54 Try.rpatchSize ?_)
            refine (rlayp_any B' nb' cb' M HM.out Hl.out Hc.out.1 Hc.out.2 c.p Ad nd cd _ Hb'.out Hcv.out.p).mono ?_; rintro e w2 ⟨B2, n2, c2, rfl, h1, h2, h3, h4, h5⟩
            have H1 := Lib.hid h1
            have H4 := Lib.hid h4
            have H5 := Lib.hid (bt Hbw.out h5)
            have H2 := Lib.hid (show n2 ≤ c2 ∧ c2 ≤ maxLen from ⟨h2, h3⟩)
            clear h1 h2 h3 h4 h5
            go_wp2_with fail
            go_roundw
            case rel => exact ⟨k + 1, B2, n2, c2, by omega, by go_num, rfl, by rw [HX.out]; exact H1.out, H2.out.1, H2.out.2, by rw [HX.out]; exact H4.out, H5.out⟩
            case measure => simp [intOf]; omega
        · have HX := Lib.hid (Hon.out HP.out)
          go_wp2_with (refine wpList_load_pair rfl _ _ rfl ⟨(ad.add (k * 5)).block, (ad.add (k * 5)).off + 2, none⟩ rfl (.int .i64 c.p.at_) (.slice Ad nd cd) F2.out F3.out _ Try.underlying54 Try.rpatchSize ?_)
          refine (rlayp_any B' nb' cb' M HM.out Hl.out Hc.out.1 Hc.out.2 c.p Ad nd cd _ Hb'.out Hcv.out.p).mono ?_; rintro e w2 ⟨B2, n2, c2, rfl, h1, h2, h3, h4, h5⟩
          have H1 := Lib.hid h1
          have H4 := Lib.hid h4
          have H5 := Lib.hid (bt Hbw.out h5)
          have H2 := Lib.hid (show n2 ≤ c2 ∧ c2 ≤ maxLen from ⟨h2, h3⟩)
          clear h1 h2 h3 h4 h5
          go_wp2_with fail
          go_roundw
          case rel => exact ⟨k + 1, B2, n2, c2, by omega, by go_num, rfl, by rw [HX.out]; exact H1.out, H2.out.1, H2.out.2, by rw [HX.out]; exact H4.out, H5.out⟩
          case measure => simp [intOf]; omega
      · have e1 : (c.block == block) = false := by simpa using hb
        have HX := Lib.hid (Hoff.out (by rw [Hpk.out, decide_eq_false hb]; rfl))
        clear hb
        go_wp2_with fail
        go_roundw
        case rel => exact ⟨k + 1, B', nb', cb', by omega, by go_num, rfl, by rw [HX.out]; exact Hl.out, Hc.out.1, Hc.out.2, by rw [HX.out]; exact Hb'.out, Hbw.out⟩
        case measure => simp [intOf]; omega
    · have d0 : decide ((k : Int) < n) = false := by simpa using hlt
      have e1 : l.take k = l := List.take_of_length_le (by rw [Hn.out]; omega)
      rw [e1] at Hl Hb'
      clear e1
      go_wp2_with fail
      go_ret
      exact ⟨_, _, _, rfl, Hl.out, Hc.out.1, Hc.out.2, Hb'.out, Hbw.out⟩

end Go.Proofs.Ytckkdfpmibipfaa

/-
  Contracts of the document's answer 10: View, Image, Held.
-/
namespace Go.Proofs.Ytckkdfpmibipfaa
open Go.RowKit

set_option maxRecDepth 100000 in
set_option maxHeartbeats 4000000 in
theorem rview10_any (B : Option Addr) (nb cb : Nat) (L : List UInt8) (hL : L.length = 256) (hnb : L.length = nb) (hcb : nb ≤ cb) (hmb : cb ≤ maxLen) (A : Option Addr) (n cap : Nat) (l : List Cg) (hn : l.length = n) (hm : n ≤ 4096) (hN : ∀ c ∈ l, c.needs.length ≤ 4096) (block : Int) (w : World) (hb : RB w B L) (hr : RdL RdC w A 5 l) :
    Calls Try.prog 12 #[.slice B nb cb, .slice A n cap, .int .i64 block] w (RetB w (viewC L l block)) := by
  obtain ⟨m, hmm⟩ : ∃ m, mayC l = m := ⟨_, rfl⟩
  have Hv := Lib.hid (show viewC L l block = if m = true then laidC L (ofC l block) else L by unfold viewC; rw [hmm])
  have Hmm := Lib.hid hmm
  generalize viewC L l block = V at *
  have Hn := Lib.hid hn
  have Hr := Lib.hid hr
  have Hb := Lib.hid hb
  have Hnb := Lib.hid hnb
  have HN := Lib.hid hN
  clear hn hr hb hnb hN hmm
  go_enter Try.func12, Try.ntmps12
  go_wp2_with fail
  refine (rmay_any A n cap l Hn.out hm HN.out _ Hr.out).mono ?_; rintro e w2 ⟨rfl, hb2⟩
  have Hb2 := Lib.hid hb2
  clear hb2
  rw [Hmm.out]
  cases m
  · go_wp2_with fail
    go_ret
    exact ⟨_, _, _, rfl, by rw [Hv.out]; exact Hnb.out, hcb, hmb, by rw [Hv.out]; exact Hb.out.below Hb2.out, Hb2.out⟩
  · go_wp2_with fail
    refine (rlaid10_any B nb cb L hL Hnb.out hcb hmb A n cap l Hn.out hm block none 0 0 [] rfl (Nat.zero_le _) true _ (Hb.out.below Hb2.out) (Hr.out.below Hb2.out) (RC.nil_ _ _)).mono ?_; rintro e w3 ⟨B2, n2, c2, rfl, h1, h2, h3, h4, h5⟩
    rw [pickF_all] at h1 h4
    have H1 := Lib.hid h1
    have H4 := Lib.hid h4
    have H5 := Lib.hid (bt Hb2.out h5)
    have H2 := Lib.hid (show n2 ≤ c2 ∧ c2 ≤ maxLen from ⟨h2, h3⟩)
    clear h1 h2 h3 h4 h5
    go_wp2_with fail
    go_ret
    exact ⟨_, _, _, rfl, by rw [Hv.out]; exact H1.out, H2.out.1, H2.out.2, by rw [Hv.out]; exact H4.out, H5.out⟩

set_option maxRecDepth 100000 in
set_option maxHeartbeats 4000000 in
theorem rimage10_any (B : Option Addr) (nb cb : Nat) (L : List UInt8) (hL : L.length = 256) (hnb : L.length = nb) (hcb : nb ≤ cb) (hmb : cb ≤ maxLen) (A : Option Addr) (n cap : Nat) (l : List Cg) (hn : l.length = n) (hm : n ≤ 4096) (hN : ∀ c ∈ l, c.needs.length ≤ 4096) (block : Int) (w : World) (hb : RB w B L) (hr : RdL RdC w A 5 l) :
    Calls Try.prog 13 #[.slice B nb cb, .slice A n cap, .int .i64 block] w (RetB w (imageC L l block)) := by
  have Hv := Lib.hid (show imageC L l block = laidC L (l.filter (pickF block (readyC l block) false)) by rw [pickF_ids]; rfl)
  have Hlen := Lib.hid (show (readyC l block).length ≤ 4096 by have h := (readyC_sub (l := l) (block := block)).length_le; rw [List.length_map] at h; omega)
  generalize imageC L l block = V at *
  have Hn := Lib.hid hn
  have Hr := Lib.hid hr
  have Hb := Lib.hid hb
  have Hnb := Lib.hid hnb
  have HN := Lib.hid hN
  clear hn hr hb hnb hN
  go_enter Try.func13, Try.ntmps13
  go_wp2_with fail
  refine (rready9_any A n cap l Hn.out hm HN.out block _ Hr.out).mono ?_; rintro e w2 ⟨Ai, ni, ci, rfl, g1, g2, g3, g4, g5⟩
  have G1 := Lib.hid g1
  have G4 := Lib.hid g4
  have Hb2 := Lib.hid g5
  clear g1 g2 g3 g4 g5
  generalize readyC l block = ids at *
  go_wp2_with fail
  refine (rlaid10_any B nb cb L hL Hnb.out hcb hmb A n cap l Hn.out hm block Ai ni ci ids G1.out (by have := Hlen.out; have := G1.out; omega) false _ (Hb.out.below Hb2.out) (Hr.out.below Hb2.out) G4.out).mono ?_; rintro e w3 ⟨B2, n2, c2, rfl, h1, h2, h3, h4, h5⟩
  have H1 := Lib.hid h1
  have H4 := Lib.hid h4
  have H5 := Lib.hid (bt Hb2.out h5)
  have H2 := Lib.hid (show n2 ≤ c2 ∧ c2 ≤ maxLen from ⟨h2, h3⟩)
  clear h1 h2 h3 h4 h5
  go_wp2_with fail
  go_ret
  exact ⟨_, _, _, rfl, by rw [Hv.out]; exact H1.out, H2.out.1, H2.out.2, by rw [Hv.out]; exact H4.out, H5.out⟩

/-- Of a block: those that are not of these IDs. -/
def heldF (block : Int) (ids : List Int) (c : Cg) : Bool := decide (c.block = block) && !ids.contains c.id
theorem heldC_eq {l : List Cg} {block : Int} (h : mayC l = true) : heldC l block = (l.filter (heldF block (readyC l block))).map (·.id) := by
  unfold heldC restC ofC
  rw [h, if_pos rfl, List.filter_filter]
  congr 1
  apply List.filter_congr
  intro c _
  unfold heldF
  rw [Bool.and_comm]
def preH (block : Int) (ids : List Int) (l : List Cg) (k : Nat) : List Int := ((l.take k).filter (heldF block ids)).map (·.id)
theorem preH_on {block : Int} {ids : List Int} {l : List Cg} {k : Nat} (hk : k < l.length) (h : heldF block ids l[k] = true) : preH block ids l (k + 1) = preH block ids l k ++ [l[k].id] := by
  unfold preH
  rw [List.take_succ_eq_append_getElem hk, List.filter_append, List.map_append, List.filter_cons_of_pos h]
  rfl
theorem preH_off {block : Int} {ids : List Int} {l : List Cg} {k : Nat} (hk : k < l.length) (h : heldF block ids l[k] = false) : preH block ids l (k + 1) = preH block ids l k := by
  unfold preH
  rw [List.take_succ_eq_append_getElem hk, List.filter_append, List.filter_cons_of_neg (by simp [h])]
  simp
theorem preH_len (block : Int) (ids : List Int) (l : List Cg) (k : Nat) : (preH block ids l k).length ≤ k := by
  unfold preH
  rw [List.length_map]
  exact Nat.le_trans (List.length_filter_le _ _) (by rw [List.length_take]; omega)

set_option maxRecDepth 100000 in
set_option maxHeartbeats 4000000 in
theorem rheld10_any (A : Option Addr) (n cap : Nat) (l : List Cg) (hn : l.length = n) (hm : n ≤ 4096) (hN : ∀ c ∈ l, c.needs.length ≤ 4096) (block : Int) (w : World) (hr : RdL RdC w A 5 l) :
    Calls Try.prog 18 #[.slice A n cap, .int .i64 block] w (RetI w (heldC l block)) := by
  obtain ⟨m, hmm⟩ : ∃ m, mayC l = m := ⟨_, rfl⟩
  have Hv := Lib.hid (show heldC l block = if m = true then preH block (readyC l block) l n else [] by
    cases m
    · unfold heldC; rw [hmm]; rfl
    · rw [heldC_eq hmm, if_pos rfl]; unfold preH; rw [List.take_of_length_le (by omega)])
  have Hlen := Lib.hid (show (readyC l block).length ≤ 4096 by have h := (readyC_sub (l := l) (block := block)).length_le; rw [List.length_map] at h; omega)
  have Hmm := Lib.hid hmm
  have Hn := Lib.hid hn
  have Hr := Lib.hid hr
  have HN := Lib.hid hN
  clear hn hr hN hmm
  generalize heldC l block = V at *
  go_enter Try.func18, Try.ntmps18
  go_wp2_with fail
  refine (rready9_any A n cap l Hn.out hm HN.out block _ Hr.out).mono ?_; rintro e w2 ⟨Ai, ni, ci, rfl, g1, g2, g3, g4, g5⟩
  have Hni := Lib.hid g1
  have Hri := Lib.hid g4
  have Hb2 := Lib.hid g5
  have Hmi := Lib.hid (show ni ≤ maxLen by have := Hlen.out; have := Hni.out; unfold maxLen; omega)
  clear g1 g2 g3 g4 g5
  generalize readyC l block = ids at *
  go_wp2_with fail
  go_loopw [5, 7] (fun o i wr => ∃ k : Nat, k ≤ n ∧ (m = false → k = 0) ∧ i = .int .i64 k ∧ OwnC wr w2.heap.size 3 o (ivals (preH block ids l k)) ∧ Below w2.heap.size w2 wr) (fun _ i _ => n - (intOf i).toNat)
  case atStart => exact ⟨0, Nat.zero_le _, fun _ => rfl, rfl, OwnC.nil_ _ _ _, Below.refl _ _⟩
  case round =>
    obtain ⟨k, hk, hk0, rfl, hu, hbi⟩ := hrel
    have hbw := bt Hb2.out hbi
    have Hu := Lib.hid hu
    have Hbw := Lib.hid hbw
    have Hbi := Lib.hid hbi
    have Hk0 := Lib.hid hk0
    have Hlk := Lib.hid (preH_len block ids l k)
    clear hu hbw hbi hk0
    by_cases hlt : k < n
    · have d0 : decide ((k : Int) < n) = true := by simpa using hlt
      have hkl : k < l.length := by rw [Hn.out]; exact hlt
      have z1 : (k : Int) < n := by omega
      go_wp2_with fail
      refine (rmay_any A n cap l Hn.out hm HN.out _ (Hr.out.below Hbw.out)).mono ?_; rintro e w3 ⟨rfl, hb3⟩
      have Hb3 := Lib.hid hb3
      clear hb3
      rw [Hmm.out]
      cases m
      · obtain rfl := Hk0.out rfl
        obtain ⟨Ao, co, hv1, hv2, hv3, hv4⟩ := (Hu.out.ext Hb3.out).ints
        subst hv1
        go_wp2_with fail
        go_ret
        exact ⟨_, _, _, rfl, by rw [Hv.out]; rfl, hv2, hv3, by rw [Hv.out]; exact RC.nil_ _ _, bt Hbw.out Hb3.out⟩
      · obtain ⟨ad, Ad, nd, cd, An, nn, cn, rfl, hcv, h0, h1, -⟩ := Hr.out.cg hkl
        have Hon := Lib.hid (preH_on (block := block) (ids := ids) hkl)
        have Hoff := Lib.hid (preH_off (block := block) (ids := ids) hkl)
        have tr := fun {ad : Addr} {v : Value} (h : w.cell? ad = some v) => ((bt Hbw.out Hb3.out).cell (block_lt_of_cell h)).trans h
        have c0 := tr h0
        have c1 := cell_fld c0 (tr h1)
        clear h0 h1 hcv tr
        have Hpk : heldF block ids l[k] = (decide (l[k].block = block) && !ids.contains l[k].id) := rfl
        generalize heldF block ids l[k] = pk at *
        generalize l[k] = c at *
        generalize preH block ids l k = M at *
        clear hkl
        obtain ⟨b, hbb⟩ : ∃ b, ids.contains c.id = b := ⟨_, rfl⟩
        rw [hbb] at Hpk
        have HBB := Lib.hid hbb
        have Hpk := Lib.hid Hpk
        clear hbb
        by_cases hb : c.block = block
        · have e1 : (c.block == block) = true := by simpa using hb
          have HP := Lib.hid (show pk = !b by rw [Hpk.out, decide_eq_true hb]; rfl)
          clear hb
          go_wp2_with fail
          refine (rin9_is Ai ni ci ids Hni.out Hmi.out c.id b HBB.out _ (Hri.out.below (bt Hbi.out Hb3.out))).mono ?_; rintro e wx ⟨rfl, rfl⟩
          cases b
          · have HX := Lib.hid (Hon.out HP.out)
            have Hu3 := Lib.hid (Hu.out.ext Hb3.out)
            have Hw3 := Lib.hid (bt Hbi.out Hb3.out)
            have hl1 : (ivals M).length + 1 ≤ maxLen := by have := Hlk.out; rw [ivals_len]; unfold maxLen; omega
            have hl2 : ((ivals M).length + 1) * 8 ≤ 140737488355328 := by have := Hlk.out; rw [ivals_len]; omega
            go_wp2_with (at_builtin; refine wpList_append_one rfl _ _ _ _ rfl Try.underlying30 (.int .i64 0) 8 Try.infoInt rfl w2.heap.size _ _ rfl Hu3.out (.int .i64 c.id) rfl rfl Hw3.out.size hl1 hl2 ?_)
            apply Stop.go
            intro v' w6 Hv' Ha'
            have D6 := Lib.hid (Hw3.out.trans Ha'.out.below)
            go_wp2_with fail
            go_roundw
            case rel => exact ⟨k + 1, by omega, fun h => (by cases h), by go_num, by rw [HX.out, ← ivals_snoc]; exact Hv'.out, D6.out⟩
            case measure => simp [intOf]; omega
          · have HX := Lib.hid (Hoff.out HP.out)
            go_wp2_with fail
            go_roundw
            case rel => exact ⟨k + 1, by omega, fun h => (by cases h), by go_num, by rw [HX.out]; exact Hu.out.ext Hb3.out, bt Hbi.out Hb3.out⟩
            case measure => simp [intOf]; omega
        · have e1 : (c.block == block) = false := by simpa using hb
          have HX := Lib.hid (Hoff.out (by rw [Hpk.out, decide_eq_false hb]; rfl))
          clear hb
          go_wp2_with fail
          go_roundw
          case rel => exact ⟨k + 1, by omega, fun h => (by cases h), by go_num, by rw [HX.out]; exact Hu.out.ext Hb3.out, bt Hbi.out Hb3.out⟩
          case measure => simp [intOf]; omega
    · have d0 : decide ((k : Int) < n) = false := by simpa using hlt
      have hkn : k = n := by omega
      subst hkn
      obtain ⟨Ao, co, hv1, hv2, hv3, hv4⟩ := Hu.out.ints
      subst hv1
      have HV : V = preH block ids l k := by
        cases m
        · obtain rfl := Hk0.out rfl; rw [Hv.out]; rfl
        · rw [Hv.out]; rfl
      go_wp2_with fail
      go_ret
      exact ⟨_, _, _, rfl, by rw [HV], hv2, hv3, by rw [HV]; exact hv4, Hbw.out⟩

end Go.Proofs.Ytckkdfpmibipfaa
