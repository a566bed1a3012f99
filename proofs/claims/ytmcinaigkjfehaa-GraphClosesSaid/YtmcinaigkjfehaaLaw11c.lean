/-
  The walk of GraphCloses.
-/
import Derived.Test.YtmcinaigkjfehaaLw11w
import Derived.Test.YtmcinaigkjfehaaLw9a
import Derived.Test.YtmcinaigkjfehaaLw11b
import Derived.Test.YtmcinaigkjfehaaR09d
import Derived.Test.YtmcinaigkjfehaaGr4
import Derived.Test.YtmcinaigkjfehaaCg5h
import Derived.Test.YtmcinaigkjfehaaR09e
import Derived.Test.YtmcinaigkjfehaaRef11b
namespace Go.Proofs.Ytmcinaigkjfehaa
open Go.RowKit

/-- What is gathered: the change, and all for which the first k wait. -/
def Gat (l : List Cg) (id : Int) (Z : List Int) (k : Nat) (wl : List Int) : Prop := id ∈ wl ∧ ∀ j (h : j < Z.length), j < k → ∀ y ∈ waitsC l Z[j], y ∈ wl
theorem Gat.start (l : List Cg) (id : Int) (Z : List Int) : Gat l id Z 0 [id] := ⟨by simp, fun j _ h => absurd h (Nat.not_lt_zero _)⟩
theorem Gat.next {l : List Cg} {id : Int} {Z : List Int} {k : Nat} {wl L : List Int} (h : Gat l id Z k wl) (hk : k < Z.length) (hL : waitsC l Z[k] = L) : Gat l id Z (k + 1) (wl ++ L) := by
  refine ⟨List.mem_append.2 (Or.inl h.1), fun j hj hjk y hy => ?_⟩
  by_cases e : j = k
  · subst e
    rw [hL] at hy
    exact List.mem_append.2 (Or.inr hy)
  · exact List.mem_append.2 (Or.inl (h.2 j hj (by omega) y hy))
theorem Gat.all {l : List Cg} {id : Int} {Z : List Int} {wl : List Int} (h : Gat l id Z Z.length wl) (hf : ∀ x ∈ Z, x = id ∨ ∃ z ∈ Z, x ∈ waitsC l z) : ∀ x ∈ Z, wl.contains x = true := by
  intro x hx
  have : x ∈ wl := by
    rcases hf x hx with rfl | ⟨z, hz, hxz⟩
    · exact h.1
    · obtain ⟨j, hj, rfl⟩ := List.getElem_of_mem hz
      exact h.2 j hj hj x hxz
  simpa using this
theorem OwnC.one {w : World} {B g : Nat} {e : TypeId} {x : Int} (h : Blk w g e #[.int .i64 x]) (hB : B ≤ g) : OwnC w B e (.slice (some ⟨g, 0, none⟩) 1 1) (ivals [x]) :=
  ⟨rfl, Or.inr ⟨g, 1, _, rfl, hB, h, Nat.le_refl _, by unfold maxLen; omega, rfl, rfl⟩⟩

set_option maxRecDepth 100000 in
set_option maxHeartbeats 16000000 in
theorem graphCloses_tail (A : Option Addr) (n cap : Nat) (l : List Cg) (hn : l.length = n) (a : Nat) (ha : a < 256) (hpos : 0 < n) (hmay : mayC l = true) (hl : l.length ≤ 24) (hd : ∀ c ∈ l, c.p.data.length ≤ 300 ∧ c.needs.length ≤ 60) (w : World) (hr : RdL RdC w A 5 l) (HM : Calls Try.prog 8 #[.slice A n cap, .int .i64 24] w fun e w' => e = .returned (.bool false) ∧ w = w') :
    Calls Try.prog 7 #[.slice A n cap, .int .u8 (a : Int)] w fun e w' => e = .returned (.bool true) ∧ Below w.heap.size w w' := by
  have HM := Lib.hid HM
  have Hn := Lib.hid hn
  have Hr := Lib.hid hr
  have hn24 : n ≤ 24 := by omega
  have HD := Lib.hid hd
  have HN : Hid (∀ c ∈ l, c.needs.length ≤ 4096) := Lib.hid (fun c hc => by have := (hd c hc).2; omega)
  have HMy := Lib.hid (rmay_any A n cap l hn (by omega) HN.out w hr)
  rw [hmay] at HMy
  have HMay := Lib.hid hmay
  have d0 : ((n : Int) == 0) = false := by simp; omega
  have d1 : decide ((n : Int) = 0) = false := by simp; omega
  obtain ⟨k, hk⟩ : ∃ k, k = a % n := ⟨_, rfl⟩
  have hkn : k < n := by rw [hk]; exact Nat.mod_lt _ hpos
  have hkl : k < l.length := by omega
  have z1 : (k : Int) < n := by omega
  have q1 : Int.tmod (a : Int) (n : Int) = (k : Int) := by rw [hk]; exact (Int.ofNat_tmod a n).symm
  have q3 : (a : Int) % (n : Int) = (k : Int) := by rw [hk]; rfl
  have q4 : a % n = k := hk.symm
  clear hk
  have q2 : IntKind.i64.wrap (a : Int) = (a : Int) := by rw [IntKind.wrap_i64]; omega
  obtain ⟨ad, Ad, nd, cd, An, nn, cn, rfl, hcv, c0, c1, _, _, _⟩ := hr.cgk hkl
  have C0 := Lib.hid c0
  have HId0 : Hid (HasId l (cgA l k).id) := Lib.hid ⟨cgA l k, by rw [cgA_eq hkl]; exact List.getElem_mem _, rfl⟩
  obtain ⟨id, hid⟩ : ∃ id, (cgA l k).id = id := ⟨_, rfl⟩
  rw [hid] at C0 HId0
  have hal : (allC l id).length ≤ 24 := by have := allC_le_len l id; omega
  have HZd := Lib.hid (depthC_le (l := l) (id := id) hmay)
  have HZs := Lib.hid (allC_self (id := id) hmay HId0.out)
  have HZc := Lib.hid (fun x (hx : x ∈ allC l id) y (hy : y ∈ waitsC l x) => allC_closed hmay HId0.out hx hy)
  have HZf := Lib.hid (fun x (hx : x ∈ allC l id) => allC_from hmay HId0.out hx)
  obtain ⟨Z, hZ⟩ : ∃ Z, allC l id = Z := ⟨_, rfl⟩
  have HZ := Lib.hid hZ
  rw [hZ] at hal HZd HZs HZc HZf
  have HWn : Hid (∀ x, (waitsC l x).length ≤ 24) := Lib.hid (fun x => by have := waitsC_len l x; omega)
  clear hn hr hl hd hmay hcv c0 c1 hid hZ HId0
  go_enter Try.func7, Try.ntmps7
  go_wp2_with fail
  refine (HM.out).mono ?_; rintro e w2 ⟨rfl, rfl⟩
  go_wp2_with fail
  refine (HMy.out).mono ?_; rintro e w3 ⟨rfl, hb3⟩
  have Hw3 := Lib.hid hb3
  have k0 := (hb3.cell (block_lt_of_cell C0.out)).trans C0.out
  have k00 := cell_fld (i := 0) k0 (by rw [add_of_add]; exact k0)
  clear hb3
  go_wp2_with fail
  refine (to9_any (some ad) n cap l Hn.out (by omega) HD.out _ (Hr.out.below Hw3.out)).mono ?_; rintro e w4 ⟨A4, n4, c4, rfl, e4, q4', r4, hr4, hb4⟩
  have HX := Lib.hid e4
  have hn4 : n4 ≤ 24 := by have := Hn.out; omega
  have HrX := Lib.hid hr4
  have Hw4 := Lib.hid (bt Hw3.out hb4)
  clear e4 hr4 hb4 k0 k00
  go_wp2_with fail
  refine (gAll_any A4 n4 c4 l HX.out q4' (by omega) HN.out id _ HrX.out).mono ?_; rintro e w5 ⟨A5, n5, c5, rfl, e5, q5, r5, hr5, hb5⟩
  rw [HZ.out] at e5 hr5
  have Hi5 := Lib.hid hr5
  have He5 := Lib.hid e5
  have Hw5 := Lib.hid (bt Hw4.out hb5)
  have HrX5 := Lib.hid (HrX.out.below hb5)
  have hn5 : n5 ≤ 24 := by omega
  have hm5 : n5 ≤ maxLen := by unfold maxLen; omega
  clear e5 hr5 hb5 HrX Hw4 Hw3
  go_wp2_with (refine wpList_build_one1 rfl _ _ _ rfl Try.underlying28 8 _ Try.infoInt (.int .i64 id) rfl rfl rfl ?_)
  apply Stop.go; intro w6 Hg6 Hb6
  have HO6 := Lib.hid (OwnC.one (B := w5.heap.size) Hb6.out (Nat.le_refl _))
  have Hw6 := Lib.hid Hg6.out.1
  clear Hb6 Hg6
  go_wp2_with fail
  go_loopw [8, 9] (fun u i wr => ∃ (k : Nat) (wl : List Int) (u0 : Value), k ≤ n5 ∧ i = .int .i64 k ∧ u0 = u ∧ OwnC wr w5.heap.size 3 u0 (ivals wl) ∧ wl.length ≤ 1 + 24 * k ∧ Gat l id Z k wl ∧ Below w5.heap.size w5 wr) (fun _ i _ => n5 - (intOf i).toNat)
  case atStart => exact ⟨0, [id], _, Nat.zero_le _, rfl, rfl, HO6.out, by simp, Gat.start l id Z, Hw6.out⟩
  case round =>
    obtain ⟨k, wl, u, hk, rfl, rfl, hu, hwl, hg, hbw⟩ := hrel
    have Hu := Lib.hid hu
    have Hwl := Lib.hid hwl
    have Hg := Lib.hid hg
    have Hbw := Lib.hid hbw
    clear hu hwl hg hbw
    by_cases hlt : k < n5
    · have d0 : decide ((k : Int) < n5) = true := by simpa using hlt
      have z1 : (k : Int) < n5 := by omega
      have hkZ : k < Z.length := by rw [He5.out]; exact hlt
      obtain ⟨a5, rfl, k0⟩ := (Hi5.out.below Hbw.out).int k hkZ
      have HG1 : Hid (∀ L, waitsC l Z[k] = L → Gat l id Z (k + 1) (wl ++ L)) := Lib.hid (fun L hL => Hg.out.next hkZ hL)
      have HC1 := Lib.hid (HZc.out Z[k] (List.getElem_mem hkZ))
      have HL1 := Lib.hid (HWn.out Z[k])
      obtain ⟨wL, hwL⟩ : ∃ x, x = wr := ⟨_, rfl⟩
      subst hwL
      generalize Z[k] = x at *
      have HP := Lib.hid (pwaitsH_any A4 n4 c4 l HX.out q4' (by omega) HN.out x _ (HrX5.out.below Hbw.out))
      obtain ⟨L, hL⟩ : ∃ L, waitsC l x = L := ⟨_, rfl⟩
      rw [hL] at HP HC1 HL1
      have HG2 := Lib.hid (HG1.out L hL)
      clear HG1 hL
      go_wp2_with fail
      refine (HP.out).mono ?_; rintro e w7 ⟨v7, rfl, ho7, hb7⟩
      have HO7 := Lib.hid ho7
      have Hbw7 := Lib.hid (bt Hbw.out hb7)
      have Hu7 := Lib.hid (Hu.out.ext hb7)
      have HA7 : Hid (Apart v7 u) := Lib.hid (fun g e1 e2 => by
        have h1 := (HO7.out.lt g e1).1
        have h2 := (Hu.out.lt g e2).2
        omega)
      obtain ⟨A7, c7, rfl, q7, r7, _⟩ := ho7.ints
      obtain ⟨n7, hn7⟩ : ∃ n7, L.length = n7 := ⟨_, rfl⟩
      have Hn7 := Lib.hid hn7
      rw [hn7] at HO7 HA7 q7 ⊢
      have hn7' : n7 ≤ 24 := by have := HL1.out; omega
      clear ho7 hb7 k0 HP Hu Hbw hn7
      go_wp2_with fail
      go_loopw [8, 11] (fun u' i wr => ∃ (q : Nat) (u1 : Value), q ≤ n7 ∧ i = .int .i64 q ∧ u1 = u' ∧ OwnC wr w5.heap.size 3 u1 (ivals (wl ++ L.take q)) ∧ OwnC wr wL.heap.size 3 (.slice A7 n7 c7) (ivals L) ∧ Apart (.slice A7 n7 c7) u1 ∧ Below w5.heap.size w5 wr) (fun _ i _ => n7 - (intOf i).toNat)
      case atStart => exact ⟨0, _, Nat.zero_le _, rfl, rfl, by rw [List.take_zero, List.append_nil]; exact Hu7.out, HO7.out, HA7.out, Hbw7.out⟩
      case round =>
        obtain ⟨q, u1, hq, rfl, rfl, hu, ho, ha, hbw⟩ := hrel
        have Hu := Lib.hid hu
        have Ho := Lib.hid ho
        have Ha := Lib.hid ha
        have Hbw := Lib.hid hbw
        clear hu ho ha hbw
        by_cases hlt2 : q < n7
        · have d1 : decide ((q : Int) < n7) = true := by simpa using hlt2
          have z2 : (q : Int) < n7 := by omega
          have hqL : q < L.length := by rw [Hn7.out]; exact hlt2
          obtain ⟨A8, c8, e8, _, _, hr8⟩ := Ho.out.ints
          injection e8 with e8 eL eC
          subst e8
          clear eL eC
          obtain ⟨a7, rfl, k0⟩ := hr8.int q hqL
          have HT : Hid (wl ++ L.take (q + 1) = (wl ++ L.take q) ++ [L[q]]) := Lib.hid (by rw [List.take_succ_eq_append_getElem hqL, List.append_assoc])
          have Hc := Lib.hid (HC1.out L[q] (List.getElem_mem hqL))
          have hlq : (wl ++ L.take q).length ≤ 1 + 24 * k + 24 := by
            rw [List.length_append, List.length_take]
            have := Hwl.out
            omega
          generalize L[q] = y at *
          generalize wl ++ L.take q = wq at *
          clear hr8
          go_wp2_with fail
          refine (rin9_is (some a5) n5 c5 Z He5.out hm5 y true (by simpa using Hc.out) _ (Hi5.out.below Hbw.out)).mono ?_; rintro e w8 ⟨rfl, rfl⟩
          have Hal := Lib.hid (Grew.alloc wr (.cells #[.int .i64 y] 3)).1
          have hl3 : wq.length + 1 ≤ maxLen := by unfold maxLen; omega
          have hl4 : (wq.length + 1) * 8 ≤ 140737488355328 := by omega
          go_wp2_with (at_builtin; refine wpList_append_int rfl _ _ _ _ rfl Try.underlying28 (.int .i64 0) 8 Try.infoInt rfl w5.heap.size _ wq rfl (Hu.out.ext Hal.out) y _ rfl _ (Blk.new _ _ _) (Nat.le_trans Hbw.out.size Hal.out.size) hl3 hl4 ?_)
          apply Stop.go
          intro v' w9 Hv' Ha' Hl'
          have HK := Lib.hid (Ha'.out.keep _ _ _ _ (Ho.out.ext Hal.out) Ha.out)
          have Hbw9 := Lib.hid ((Hbw.out.trans (Hal.out.mono Hbw.out.size)).trans Ha'.out.below)
          clear Ha' Hl' Hal k0
          go_wp2_with fail
          go_roundw
          case rel => exact ⟨q + 1, v', by omega, by go_num, rfl, by rw [HT.out]; exact Hv'.out, HK.out.1, HK.out.2, Hbw9.out⟩
          case measure => simp [intOf]; omega
        · have d1 : decide ((q : Int) < n7) = false := by simpa using hlt2
          have hqe : q = n7 := by omega
          subst hqe
          have Hu9 : Hid (OwnC wr w5.heap.size 3 u1 (ivals (wl ++ L))) := Lib.hid (by have := Hu.out; rwa [← Hn7.out, List.take_length] at this)
          have hlw : Hid ((wl ++ L).length ≤ 1 + 24 * (k + 1)) := Lib.hid (by rw [List.length_append]; have := Hwl.out; have := HL1.out; omega)
          go_wp2_with fail
          go_roundw
          case rel => exact ⟨k + 1, wl ++ L, _, by omega, by go_num, rfl, Hu9.out, hlw.out, HG2.out, Hbw.out⟩
          case measure => simp [intOf]; omega
    · have d0 : decide ((k : Int) < n5) = false := by simpa using hlt
      have hke : k = n5 := by omega
      subst hke
      have HAll : Hid (∀ x ∈ Z, wl.contains x = true) := Lib.hid (by
        have := Hg.out
        rw [← He5.out] at this
        exact this.all HZf.out)
      obtain ⟨A6, c6, rfl, q6, r6, hr6⟩ := Hu.out.ints
      obtain ⟨n6, hn6⟩ : ∃ n6, wl.length = n6 := ⟨_, rfl⟩
      have Hn6 := Lib.hid hn6
      have hm6 : n6 ≤ maxLen := by unfold maxLen; have := Hwl.out; omega
      rw [hn6] at q6 ⊢
      have Hr6 := Lib.hid hr6
      obtain ⟨wL, hwL⟩ : ∃ x, x = wr := ⟨_, rfl⟩
      subst hwL
      clear hr6 Hg hn6 Hwl Hu HO6
      go_wp2_with fail
      go_loopw [12] (fun i wr => ∃ (q : Nat), q ≤ k ∧ i = .int .i64 q ∧ wL = wr) (fun i _ => k - (intOf i).toNat)
      case atStart => exact ⟨0, Nat.zero_le _, rfl, rfl⟩
      case round =>
        obtain ⟨q, hq, rfl, rfl⟩ := hrel
        by_cases hlt2 : q < k
        · have d1 : decide ((q : Int) < k) = true := by simpa using hlt2
          have z2 : (q : Int) < k := by omega
          have hqZ : q < Z.length := by rw [He5.out]; exact hlt2
          obtain ⟨a5, rfl, k0⟩ := (Hi5.out.below Hbw.out).int q hqZ
          have Hc := Lib.hid (HAll.out Z[q] (List.getElem_mem hqZ))
          generalize Z[q] = y at *
          go_wp2_with fail
          refine (rin9_is A6 n6 c6 wl Hn6.out hm6 y true Hc.out _ Hr6.out).mono ?_; rintro e w8 ⟨rfl, rfl⟩
          go_wp2_with fail
          go_roundw
          case rel => exact ⟨q + 1, by omega, by go_num, by first | rfl | trivial⟩
          case measure => simp [intOf]; omega
        · have d1 : decide ((q : Int) < k) = false := by simpa using hlt2
          have HDp := Lib.hid (gdepth_any A4 n4 c4 l HX.out q4' (by omega) HN.out id _ (HrX5.out.below Hbw.out))
          obtain ⟨dp, hdp⟩ : ∃ x, depthC l id = x := ⟨_, rfl⟩
          have hdk : dp ≤ k := by have := HZd.out; have := He5.out; omega
          have d2 : decide ((dp : Int) ≤ (k : Int)) = true := by simpa using hdk
          rw [hdp] at HDp
          clear hdp
          go_wp2_with fail
          refine (rin9_is A5 k c5 Z He5.out hm5 id true (by simpa using HZs.out) _ (Hi5.out.below Hbw.out)).mono ?_; rintro e w8 ⟨rfl, rfl⟩
          go_wp2_with fail
          refine (HDp.out).mono ?_; rintro e w9 ⟨rfl, hb9⟩
          have Hw9 := Lib.hid (bt Hbw.out hb9)
          clear hb9
          go_wp2_with fail
          refine (works11_any _).mono ?_; rintro e w10 ⟨rfl, hb10⟩
          go_wp2_with fail
          go_ret
          exact ⟨rfl, bt Hw5.out (bt Hw9.out hb10)⟩

set_option maxRecDepth 100000 in
set_option maxHeartbeats 4000000 in
theorem graphCloses_any (A : Option Addr) (n cap : Nat) (l : List Cg) (hn : l.length = n) (hcap : n ≤ cap) (hm : cap ≤ maxLen) (a : Nat) (ha : a < 256) (w : World) (hr : RdL RdC w A 5 l) :
    Calls Try.prog 7 #[.slice A n cap, .int .u8 (a : Int)] w fun e w' => e = .returned (.bool true) ∧ Below w.heap.size w w' := by
  have HM := Lib.hid (rmuchc_any 24 (by decide) A n cap l hn (Nat.le_trans hcap hm) w hr)
  cases hmu : muchC l 24
  · rw [hmu] at HM
    obtain ⟨hl, hd⟩ := muchC_no hmu
    have HMy := Lib.hid (rmay_any A n cap l hn (by omega) (fun c hc => by have := (hd c hc).2; omega) w hr)
    cases hmay : mayC l
    · rw [hmay] at HMy
      clear hr hn hl hd hmu hmay ha
      go_enter Try.func7, Try.ntmps7
      go_wp2_with fail
      refine (HM.out).mono ?_; rintro e w2 ⟨rfl, rfl⟩
      go_wp2_with fail
      refine (HMy.out).mono ?_; rintro e w3 ⟨rfl, hb3⟩
      have Hw3 := Lib.hid hb3
      clear hb3
      go_wp2_with fail
      refine (works11_any _).mono ?_; rintro e w4 ⟨rfl, hb4⟩
      go_wp2_with fail
      go_ret
      exact ⟨rfl, bt Hw3.out hb4⟩
    · by_cases hpos : 0 < n
      · exact graphCloses_tail A n cap l hn a ha hpos hmay hl hd w hr HM.out
      · have hn0 : n = 0 := by omega
        rw [hmay] at HMy
        subst hn0
        clear hr hn hl hd hmu hmay ha hpos
        go_enter Try.func7, Try.ntmps7
        go_wp2_with fail
        refine (HM.out).mono ?_; rintro e w2 ⟨rfl, rfl⟩
        go_wp2_with fail
        refine (HMy.out).mono ?_; rintro e w3 ⟨rfl, hb3⟩
        have Hw3 := Lib.hid hb3
        clear hb3
        go_wp2_with fail
        refine (works11_any _).mono ?_; rintro e w4 ⟨rfl, hb4⟩
        go_wp2_with fail
        go_ret
        exact ⟨rfl, bt Hw3.out hb4⟩
  · rw [hmu] at HM
    clear hr hn hmu ha
    go_enter Try.func7, Try.ntmps7
    go_wp2_with fail
    refine (HM.out).mono ?_; rintro e w2 ⟨rfl, rfl⟩
    go_wp2_with fail
    refine (works11_any _).mono ?_; rintro e w3 ⟨rfl, hb3⟩
    go_wp2_with fail
    go_ret
    exact ⟨rfl, hb3⟩

end Go.Proofs.Ytmcinaigkjfehaa
