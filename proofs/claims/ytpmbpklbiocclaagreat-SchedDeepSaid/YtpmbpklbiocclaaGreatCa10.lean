/-
  The program's: a copy of pointers; ready (a block's changes that may be there, each behind those for which it waits).
-/
import Derived.Test.YtpmbpklbiocclaaGreatCa9
namespace Go.Proofs.YtpmbpklbiocclaaGreat
open Go.RowKit

structure Gr (S : CS) (ids : List Int) (dep : Int → Int → Bool) : Prop where
  nd : ids.Nodup
  lv : ∀ i ∈ ids, S.live i = true
  idd : ∀ i ∈ ids, (S.cg i).id = i
  kn : ∀ i ∈ ids, S.kn (S.cg i).block = true
  beh : ∀ i ∈ ids, S.beh i = bN ids dep i
  waits : ∀ j ∈ ids, S.waits j = (wN ids dep j : Int)
  lf : ∀ i, S.lf i = true ↔ i ∈ ids
  fre : ∀ k, S.kn k = true → (S.free k).Nodup ∧ ∀ j, j ∈ S.free k ↔ j ∈ ids ∧ (S.cg j).block = k ∧ wN ids dep j = 0
  len : ids.length ≤ 100000
  rng : ∀ i ∈ ids, -9223372036854775808 ≤ i ∧ i < 9223372036854775808
theorem OwnC.empty {w : World} {B g : Nat} {e : TypeId} (h : Blk w g e #[]) (hB : B ≤ g) : OwnC w B e (.slice (some ⟨g, 0, none⟩) 0 0) [] :=
  ⟨rfl, Or.inr ⟨g, 0, #[], rfl, hB, h, Nat.le_refl _, Nat.zero_le _, rfl, rfl⟩⟩
theorem Tryz.chgpSize : (Tryz.prog.info? 95).map (·.size) = some 1 := by kernel_rfl
theorem wpList_build0b {P : Program} {ops : Array Oper} {rest : List Oper} {o : Oper} {a : Act} {w : World} {Q : Exit → Act → World → Prop} (hgd : Region.wanted o (yielded ops a.tmps) = true) (t e : TypeId) (ho : o.op = .buildSlice t 0 #[]) (ht : P.underlying t = some (.slice e)) (hs : (P.info? e).map (·.size) = some 1)
    (h : Stop (∀ w', Hid (Grew w w') → Hid (Blk w' w.heap.size e #[]) → wpList P ops Q rest (a.put o.dst (.slice (some ⟨w.heap.size, 0, none⟩) 0 0)) w')) : wpList P ops Q (o :: rest) a w :=
  wpList_wanted hgd fun _ hK => ow_build0b t e ho ht hs (fun w' h1 h2 => hK _ _ (h w' h1 h2))
theorem cloneP_any (v : Value) (ha : Int → Nat) (l : List Int) (hm : l.length ≤ 100000) (w : World) (h : OwnC w 0 95 v (ptrs ha l)) :
    Calls Tryz.prog 96 #[v] w fun e w' => ∃ v', e = .returned v' ∧ OwnC w' w.heap.size 95 v' (ptrs ha l) ∧ Below w.heap.size w w' := by
  have hr := h.read
  rcases h.2 with ⟨rfl, hl⟩ | ⟨g, cap, cur, rfl, hbk, hk, hnc, hx⟩
  · have e : ptrs ha l = [] := List.eq_nil_of_length_eq_zero hl
    rw [e]
    clear h hr hl e
    have qn : ∀ w' : World, (binOp .eql 99 (.slice none 0 0) (.slice none 0 0)).run Tryz.prog w' = .ok (.bool true) w' := fun w' => Lib.run_eql_slice_nil w' _ _ none 0 0 0 0 Tryz.underlying99
    go_enter Tryz.func96, Tryz.ntmps96
    go_wp2_with fail
    go_ret
    exact ⟨_, rfl, OwnC.nil_ _ _ _, Below.refl _ _⟩
  · obtain ⟨A0, c0, e0, q1, q2, q3⟩ := hr
    rw [e0]
    injection e0 with e1 e2 e3
    subst e1
    clear hx hnc hk h
    have Hr := Lib.hid q3
    have hn : (ptrs ha l).length = l.length := ptrs_len _ _
    have Hn := Lib.hid hn
    have h1 : Hid (∀ u ∈ ptrs ha l, u.oneCell' = true) := Lib.hid (fun u hu => by
      obtain ⟨i, _, rfl⟩ := List.mem_map.1 hu
      rfl)
    clear q1 q2 q3 e2 e3
    rw [hn]
    clear hn
    obtain ⟨ad, had⟩ : ∃ ad, (⟨g, 0, none⟩ : Addr) = ad := ⟨_, rfl⟩
    rw [had] at Hr ⊢
    clear had
    have qn : ∀ w' : World, (binOp .eql 99 (.slice (some ad) l.length c0) (.slice none 0 0)).run Tryz.prog w' = .ok (.bool false) w' := fun w' => Lib.run_eql_slice_nil w' _ _ (some ad) l.length c0 0 0 Tryz.underlying99
    go_enter Tryz.func96, Tryz.ntmps96
    go_wp2_with (refine wpList_build0b rfl _ _ rfl Tryz.underlying99 Tryz.chgpSize ?_)
    apply Stop.go; intro w1 Hg1 Hb1
    go_wp2_with (at_builtin; refine wpList_append_many rfl _ _ _ _ rfl Tryz.underlying99 (.pointer none) 8 Tryz.infoPtr rfl w.heap.size _ [] rfl (OwnC.empty Hb1.out (Nat.le_refl _)) (some ad) l.length c0 (ptrs ha l) rfl Hn.out (Hr.out.below Hg1.out.1) h1.out Hg1.out.1.size (by simp; unfold maxLen; omega) (by simp; omega) ?_)
    apply Stop.go; intro v' w2 Hv2 Hg2
    go_wp2_with fail
    go_ret
    exact ⟨_, rfl, by have h := Hv2.out; simpa using h, Hg1.out.1.grown Hg2.out Hg1.out.1.size fun k hk => by simp [Value.ownBlock] at hk; omega⟩

def metM (met : Int → Int) : Int → Option Value := fun k => if met k = 0 then none else some (.int .i64 (met k))
theorem metM_get (met : Int → Int) (k : Int) : (metM met k).getD (.int .i64 0) = .int .i64 (met k) := by
  unfold metM
  by_cases h : met k = 0
  · rw [if_pos h, h]; rfl
  · rw [if_neg h]; rfl
theorem metM_upd (met : Int → Int) (k : Int) (x : Int) (h : x ≠ 0) : updM (metM met) k (some (.int .i64 x)) = metM (updF met k x) := by
  funext j
  unfold updM metM updF
  by_cases hj : j = k
  · simp [hj, h]
  · simp [hj]
theorem metM_zero : metM (fun _ => 0) = fun _ => none := by
  funext k
  unfold metM
  rw [if_pos rfl]
theorem Tryz.zeroInt : (Tryz.prog.info? 3).map (·.zero) = some (some (.int .i64 0)) := by kernel_rfl

theorem KI.low2 {ids : List Int} {dep : Int → Int → Bool} {blk : Int → Int} {b : Int} {l : List Int} {p k : Nat} {met : Int → Int} (h : KI ids dep blk b l p k met) (hn : ids.Nodup) (hp : p < l.length) {i : Int} (he : l[p] = i) (hk : k < (bN ids dep i).length) {j : Int} (hj : (bN ids dep i)[k] = j) :
    j ∈ ids ∧ met j = (mN dep (l.take p) j : Int) ∧ met j < (wN ids dep j : Int) := by
  subst he; subst hj; exact h.low hn hp hk
theorem KI.step2 {ids : List Int} {dep : Int → Int → Bool} {blk : Int → Int} {b : Int} {l : List Int} {p k : Nat} {met : Int → Int} (h : KI ids dep blk b l p k met) (hn : ids.Nodup) (hp : p < l.length) {i : Int} (he : l[p] = i) (hk : k < (bN ids dep i).length) {j : Int} (hj : (bN ids dep i)[k] = j) (x : Int) (hx : met j + 1 = x) :
    (blk j = b ∧ x = (wN ids dep j : Int) → KI ids dep blk b (l ++ [j]) p (k + 1) (updF met j x)) ∧ (¬ (blk j = b ∧ x = (wN ids dep j : Int)) → KI ids dep blk b l p (k + 1) (updF met j x)) := by
  subst he; subst hx
  have h1 := h.step hn hp hk j hj (updF met j (met j + 1)) (fun i => rfl)
  rw [updF_same] at h1
  exact h1
set_option maxRecDepth 100000 in
set_option maxHeartbeats 8000000 in
theorem ready_any {w : World} {ro : Nat → Option Rl} {A : CA} {S : CS} {ids : List Int} {dep : Int → Int → Bool} (h : HP w ro A S) (hG : Gr S ids dep) (b : Int) (hk : S.kn b = true) :
    Calls Tryz.prog 65 #[ptr (A.ka b)] w fun e w' => ∃ v L, e = .returned v ∧ OwnC w' w.heap.size 95 v (ptrs A.ha L) ∧ Below w.heap.size w w' ∧ Kahn ids dep (fun j => (S.cg j).block) b L := by
  have H := Lib.hid h
  have G := Lib.hid hG
  have HK := Lib.hid hk
  have LF := Lib.hid (h.blkLen hk)
  obtain ⟨A0, q0, e0, hq1, hq2, _⟩ := (h.fw hk).read
  have F0 := Lib.hid (h.fw hk)
  have cF : w.cell? ⟨A.ka b, 513, none⟩ = some (.slice A0 (ptrs A.ha (S.free b)).length q0) := by rw [(h.kb hk).cell 513, List.getElem?_toArray, kc_free LF.out.1 LF.out.2.1, e0]
  rw [ptrs_len] at cF e0
  rw [e0] at F0
  have hfl : (S.free b).length ≤ 100000 := by
    obtain ⟨f1, f2⟩ := hG.fre b hk
    have := nodup_len f1 (B := ids) fun x hx => ((f2 x).1 hx).1
    have := hG.len
    omega
  clear h hG hk hq1 hq2 e0
  unfold ptr
  go_enter Tryz.func65, Tryz.ntmps65
  go_wp2_with fail
  refine (cloneP_any _ A.ha (S.free b) hfl _ F0.out).mono ?_; rintro e w1 ⟨v1, rfl, ho1, hb1⟩
  have HO1 := Lib.hid ho1
  have HB1 := Lib.hid hb1
  obtain ⟨A1, q1, e1, _, _, _⟩ := ho1.read
  rw [ptrs_len] at e1
  subst e1
  clear ho1 hb1 F0 cF hfl
  go_wp2_with (refine wpList_makeZ (zv := .int .i64 0) rfl _ rfl 3 ?_)
  apply Stop.go; intro w2 Hg2 Hm2
  have HB2 := Lib.hid (bt HB1.out Hg2.out.1)
  have HO2 := Lib.hid (HO1.out.ext Hg2.out.1)
  obtain ⟨gm, hgm⟩ : ∃ gm, gm = w1.heap.size := ⟨_, rfl⟩
  have hgw : w.heap.size ≤ gm := by rw [hgm]; exact HB1.out.size
  have HGW := Lib.hid hgw
  rw [← hgm] at Hm2 ⊢
  have NE1 := Lib.hid (show (Value.slice A1 (S.free b).length q1).ownBlock ≠ some gm from fun e => by have := (HO1.out.lt gm e).2; omega)
  have KS := Lib.hid (KI.start (ids := ids) (dep := dep) (blk := fun j => (S.cg j).block) (b := b) (l := S.free b) (met := fun _ => 0) G.out.nd (G.out.fre b HK.out).1 (G.out.fre b HK.out).2 (fun _ => rfl))
  rw [← metM_zero] at Hm2
  clear hgw HO1 HB1 Hg2 hgm
  go_wp2_with fail
  go_loopw [3, 5] (fun v i wr => ∃ (l : List Int) (p n : Nat) (met : Int → Int), i = .int .i64 p ∧ OwnC wr w.heap.size 95 v (ptrs A.ha l) ∧ MapZ (.int .i64 0) wr Tryz.prog 3 gm n (metM met) ∧ v.ownBlock ≠ some gm ∧ n ≤ p * 100000 ∧ KI ids dep (fun j => (S.cg j).block) b l p 0 met ∧ Below w.heap.size w wr) (fun _ i _ => 100000 - (intOf i).toNat)
  case atStart => exact ⟨S.free b, 0, 0, fun _ => 0, rfl, HO2.out, Hm2.out, NE1.out, Nat.zero_le _, KS.out, HB2.out⟩
  case round =>
    obtain ⟨l, p, n, met, rfl, hu, hm, hne, hn, hki, hbw⟩ := hrel
    have Hu := Lib.hid hu
    have Hm := Lib.hid hm
    have NE := Lib.hid hne
    have HKI := Lib.hid hki
    have Hbw := Lib.hid hbw
    have HC := Lib.hid (H.out.ext hbw)
    obtain ⟨A3, q3, e3, _, _, hr3⟩ := hu.read
    rw [ptrs_len] at e3
    subst e3
    have Hr3 := Lib.hid hr3
    have hll : l.length ≤ 100000 := Nat.le_trans hki.len G.out.len
    have hple := hki.le
    clear hu hm hne hki hbw hr3 KS NE1 HO2 Hm2 HB2
    by_cases hlt : p < l.length
    · have d0 : decide ((p : Int) < (l.length : Int)) = true := by simpa using hlt
      obtain ⟨ad, rfl, hc⟩ := Hr3.out p (by rw [ptrs_len]; exact hlt)
      rw [ptrs_get hlt] at hc
      obtain ⟨i, hi⟩ : ∃ i, l[p] = i := ⟨_, rfl⟩
      rw [hi] at hc
      have hmi := HKI.out.mem i (by rw [← hi]; exact List.getElem_mem hlt)
      have hli := G.out.lv i hmi.1
      have HLI := Lib.hid hli
      have HI := Lib.hid hi
      obtain ⟨A4, q4, e4, _, _, hr4⟩ := (HC.out.bw hli).read
      rw [ptrs_len, G.out.beh i hmi.1] at e4
      rw [G.out.beh i hmi.1] at hr4
      have c6 : wr.cell? ⟨A.ha i, 6, none⟩ = some (.slice A4 (bN ids dep i).length q4) := by rw [(HC.out.hb hli).cell 6, ← e4]; rfl
      have Hr4 := Lib.hid hr4
      have HE4 := Lib.hid e4
      have HBI := Lib.hid (show (S.cg i).block = b from hmi.2)
      clear e4 hr4 hmi hli hi
      unfold ptr at hc
      obtain ⟨nb, hnb⟩ : ∃ nb, (bN ids dep i).length = nb := ⟨_, rfl⟩
      have HNB := Lib.hid hnb
      have hnbl : nb ≤ 100000 := by rw [← hnb]; exact Nat.le_trans (List.length_filter_le _ _) G.out.len
      rw [hnb] at c6
      clear hnb
      go_wp2_with fail
      go_loopw [3, 28] (fun v x wq => ∃ (l2 : List Int) (k n2 : Nat) (met2 : Int → Int), x = .int .i64 k ∧ k ≤ nb ∧ OwnC wq w.heap.size 95 v (ptrs A.ha l2) ∧ MapZ (.int .i64 0) wq Tryz.prog 3 gm n2 (metM met2) ∧ v.ownBlock ≠ some gm ∧ n2 ≤ n + k ∧ KI ids dep (fun j => (S.cg j).block) b l2 p k met2 ∧ (∃ h : p < l2.length, l2[p] = i) ∧ Below w.heap.size w wq) (fun _ x _ => nb - (intOf x).toNat)
      case atStart => exact ⟨l, 0, n, met, rfl, Nat.zero_le _, Hu.out, Hm.out, NE.out, Nat.le_refl _, HKI.out, ⟨hlt, HI.out⟩, Hbw.out⟩
      case round =>
        obtain ⟨l2, k, n2, met2, rfl, hkn, hu2, hm2, hne2, hn2, hki2, ⟨hp2, hi2⟩, hbw2⟩ := hrel
        have Hu2 := Lib.hid hu2
        have Hm2 := Lib.hid hm2
        have NE2 := Lib.hid hne2
        have HKI2 := Lib.hid hki2
        have Hbw2 := Lib.hid hbw2
        have HC2 := Lib.hid (H.out.ext hbw2)
        obtain ⟨A5, q5, e5, _, _, hr5⟩ := hu2.read
        rw [ptrs_len] at e5
        subst e5
        have Hr5 := Lib.hid hr5
        have hll2 : l2.length ≤ 100000 := Nat.le_trans hki2.len G.out.len
        have HI2 := Lib.hid hi2
        clear hu2 hm2 hne2 hki2 hbw2 hr5 hi2 c6 hc
        by_cases hlk : k < nb
        · have d1 : decide ((k : Int) < (nb : Int)) = true := by simpa using hlk
          have hkb : k < (bN ids dep i).length := by rw [HNB.out]; exact hlk
          have hr4' : RC wr A4 (ptrs A.ha (bN ids dep i)) := by
            have ho := HC2.out.bw HLI.out
            rw [HE4.out, G.out.beh i (HKI2.out.mem i (by rw [← HI2.out]; exact List.getElem_mem hp2)).1] at ho
            obtain ⟨A', c', e', _, _, hr'⟩ := ho.read
            injection e' with e1 e2 e3
            rw [e1]; exact hr'
          obtain ⟨ad4, rfl, hc4⟩ := hr4' k (by rw [ptrs_len]; exact hkb)
          rw [ptrs_get hkb] at hc4
          obtain ⟨j, hj⟩ : ∃ j, (bN ids dep i)[k] = j := ⟨_, rfl⟩
          rw [hj] at hc4
          obtain ⟨j1, j2, j3⟩ := HKI2.out.low2 G.out.nd hp2 HI2.out hkb hj
          obtain ⟨m0, hm0⟩ : ∃ m0, met2 j = m0 := ⟨_, rfl⟩
          obtain ⟨m1, hm1⟩ : ∃ m1, m0 + 1 = m1 := ⟨_, rfl⟩
          have st := HKI2.out.step2 G.out.nd hp2 HI2.out hkb hj m1 (by rw [hm0]; exact hm1)
          have ST := Lib.hid st
          have hwl : wN ids dep j ≤ 100000 := Nat.le_trans (List.length_filter_le _ _) G.out.len
          have hm1b : 1 ≤ m1 ∧ m1 ≤ 100000 := by omega
          have hmw : IntKind.i64.wrap (m0 + 1) = m1 := by rw [IntKind.wrap_i64]; omega
          have hget : (metM met2 j).getD (.int .i64 0) = .int .i64 m0 := by rw [metM_get, hm0]
          have hup := metM_upd met2 j m1 (by omega)
          have HGET := Lib.hid hget
          have HUP := Lib.hid hup
          have Hwf := Lib.hid (wf_int (G.out.rng j j1).1 (G.out.rng j j1).2)
          have LJ := Lib.hid (G.out.lv j j1)
          have IDJ := Lib.hid (G.out.idd j j1)
          have WJ := Lib.hid (G.out.waits j j1)
          have cj0 : wr.cell? ⟨A.ha j, 0, none⟩ = some (.int .i64 j) := by rw [(HC2.out.hb LJ.out).cell 0, ← IDJ.out]; simp [hcells, IDJ.out]
          have hnm : n2 < maxLen := by
            have h1 : nb ≤ 100000 := by rw [← HNB.out]; exact Nat.le_trans (List.length_filter_le _ _) G.out.len
            have h2 : p ≤ 100000 := by omega
            unfold maxLen; omega
          obtain ⟨bj, hbj⟩ : ∃ bj, (S.cg j).block = bj := ⟨_, rfl⟩
          have HBJ := Lib.hid hbj
          unfold ptr at hc4
          clear hr4' hj j1 j2 j3 hm0 hm1 st hwl hget hup hkb hbj
          go_wp2_with (first | refine wpList_lookZ rfl _ _ _ rfl _ _ Tryz.underlying3 Tryz.underlying157 Tryz.zeroInt rfl Hm2.out j rfl Hwf.out _ HGET.out ?_ | refine wpList_mapZ_store rfl _ _ _ _ rfl _ _ Tryz.underlying3 Tryz.underlying157 rfl Hm2.out hnm j rfl Hwf.out _ rfl ?_)
          apply Stop.go; intro w3 Hm3 Hg3
          have HB3 := Lib.hid (Hbw2.out.grown Hg3.out Hbw2.out.size (fun k hk => by injection hk with hk; rw [← hk]; exact HGW.out))
          have HC3 := Lib.hid (H.out.ext HB3.out)
          have HO3 := Lib.hid (Hu2.out.same fun g e => Hg3.out.block g (Hu2.out.lt g e).2 (fun e2 => NE2.out (by rw [e]; exact e2)))
          have hr3' : RC w3 A5 (ptrs A.ha l2) := by
            obtain ⟨A', c', e', _, _, hr'⟩ := HO3.out.read
            injection e' with e1 e2 e3
            rw [e1]; exact hr'
          obtain ⟨ad5, rfl, hc5⟩ := hr3' p (by rw [ptrs_len]; exact hp2)
          rw [ptrs_get hp2, HI2.out] at hc5
          have HC5 := Lib.hid hc5
          have Hm3' : Hid (MapZ (.int .i64 0) w3 Tryz.prog 3 gm (n2 + 1) (metM (updF met2 j m1))) := Lib.hid (by
            have h := Hm3.out
            (try rw [hmw] at h)
            rw [HUP.out] at h
            exact h)
          have hg2 : (metM (updF met2 j m1) j).getD (.int .i64 0) = .int .i64 m1 := by rw [metM_get, updF_same]
          have HG2 := Lib.hid hg2
          clear hr3' hc5 hg2 hnm hc4 cj0
          by_cases hb : (S.cg j).block = b
          · have g0 : ((S.cg j).block == (S.cg i).block) = true := by rw [hb, HBI.out]; simp
            have Hb := Lib.hid hb
            clear hb
            by_cases hw : m1 = (wN ids dep j : Int)
            · have g1 : (m1 == S.waits j) = true := by rw [WJ.out, hw]; simp
              have Hw := Lib.hid hw
              clear hw
              go_wp2_with fail
              refine WH.start (S := fun w' : World => Blk w' (A.ha j) 101 (hcells (S.cg j) (A.sl j) (S.waits j) (A.hv j)) ∧ Blk w' (A.ha i) 101 (hcells (S.cg i) (A.sl i) (S.waits i) (A.hv i)) ∧ w'.cell? (ad5.add p) = some (ptr (A.ha i)) ∧ MapZ (.int .i64 0) w' Tryz.prog 3 gm (n2 + 1) (metM (updF met2 j m1))) [false, false, false, false, false, false, false, false, false, false, false, false, false, false, false, false, false, false, false, false, false, false, false, false, false, false, false, false] 28 rfl rfl (by kernel_rfl) ⟨(HC3.out.drew 1).hb LJ.out, (HC3.out.drew 1).hb HLI.out, cell_ext (bdrew w3 1) HC5.out, Hm3'.out.ext (bdrew w3 1)⟩ (fun hSn => ?_)
              obtain ⟨wS, hwS⟩ : ∃ x, w3.drew = x := ⟨_, rfl⟩
              have HBS := Lib.hid (bt HB3.out (bdrew w3 1))
              have HCS := Lib.hid (HC3.out.drew 1)
              have HOS := Lib.hid (HO3.out.ext (bdrew w3 1))
              have HMS := Lib.hid (Hm3'.out.ext (bdrew w3 1))
              rw [show w3.drewN 1 = wS from hwS] at HBS HCS HOS HMS
              rw [hwS] at hSn ⊢
              clear hwS
              refine WH.tk 0 ?_; simp only [setL]
              refine WH.tk 1 ?_; simp only [setL]
              refine WH.tk 2 ?_; simp only [setL]
              refine WH.tk 3 ?_; simp only [setL]
              refine WH.tv 4 rfl (fun w' hSw => exec_load_cell _ _ rfl _ rfl (.int .i64 (S.cg j).block) (hSw.1.cell 1) _ (Tryz.underlying3) rfl) ?_; simp only [setL]
              refine WH.tk 5 ?_; simp only [setL]
              refine WH.tk 6 ?_; simp only [setL]
              refine WH.tk 7 ?_; simp only [setL]
              refine WH.tv 8 rfl (fun w' hSw => exec_load_cell _ _ rfl _ rfl (.pointer (some ⟨A.ha i, 0, none⟩)) hSw.2.2.1 _ Tryz.underlying95 rfl) ?_; simp only [setL]
              refine WH.tk 9 ?_; simp only [setL]
              refine WH.tk 10 ?_; simp only [setL]
              refine WH.tk 11 ?_; simp only [setL]
              refine WH.tv 12 rfl (fun w' hSw => exec_load_cell _ _ rfl _ rfl (.int .i64 (S.cg i).block) (hSw.2.1.cell 1) _ (Tryz.underlying3) rfl) ?_; simp only [setL]
              refine WH.tk 13 ?_; simp only [setL]
              (try rw [g0])
              refine WH.tk 14 ?_; simp only [setL]
              refine WH.tk 15 ?_; simp only [setL]
              refine WH.tk 16 ?_; simp only [setL]
              refine WH.tk 17 ?_; simp only [setL]
              refine WH.tk 18 ?_; simp only [setL]
              refine WH.tk 19 ?_; simp only [setL]
              refine WH.tv 20 rfl (fun w' hSw => exec_load_cell _ _ rfl _ rfl (.int .i64 (S.cg j).id) (hSw.1.cell 0) _ (Tryz.underlying3) rfl) ?_; simp only [setL]
              refine WH.tv 21 rfl (fun w' hSw => exec_lookP _ _ _ rfl _ _ Tryz.underlying3 Tryz.underlying157 Tryz.zeroInt rfl hSw.2.2.2 j (by show Value.int .i64 (S.cg j).id = _; rw [IDJ.out]) Hwf.out _ HG2.out) ?_; simp only [setL]
              refine WH.tk 22 ?_; simp only [setL]
              refine WH.tk 23 ?_; simp only [setL]
              refine WH.tk 24 ?_; simp only [setL]
              refine WH.tv 25 rfl (fun w' hSw => exec_load_cell _ _ rfl _ rfl (.int .i64 (S.waits j)) (hSw.1.cell 5) _ (Tryz.underlying3) rfl) ?_; simp only [setL]
              refine WH.tk 26 ?_; simp only [setL]
              (try rw [g1])
              refine WH.tk 27 ?_; simp only [setL]
              refine WH.done (by kernel_rfl) ?_
              have KN := Lib.hid (ST.out.1 ⟨Hb.out, Hw.out⟩)
              have KL := KN.out.len
              rw [List.length_append, List.length_singleton] at KL
              have hlen1 : l2.length + 1 ≤ maxLen := by have := G.out.len; unfold maxLen; omega
              have hlen2 : (l2.length + 1) * 8 ≤ 140737488355328 := by have := G.out.len; omega
              clear g0 g1 KL
              go_wp2_with (refine wpList_build_ptr rfl _ _ _ rfl Tryz.underlying99 (.pointer none) 8 Tryz.infoPtr (A.ha j) rfl ?_)
              apply Stop.go; intro w6 Hg6 Hb6
              have HB6 := Lib.hid (bt HBS.out Hg6.out.1)
              have HO6 := Lib.hid (HOS.out.ext Hg6.out.1)
              have HM6 := Lib.hid (HMS.out.ext Hg6.out.1)
              go_wp2_with (at_builtin; refine wpList_append_ptr rfl _ _ _ _ rfl Tryz.underlying99 (.pointer none) 8 Tryz.infoPtr rfl w.heap.size _ A.ha l2 rfl HO6.out j _ rfl _ Hb6.out HB6.out.size hlen1 hlen2 ?_)
              apply Stop.go; intro v7 w7 Hv7 Hl7
              have HB7 := Lib.hid (Hl7.out.bel HB6.out (fun k hk => (HO6.out.lt k hk).1))
              have HM7 := Lib.hid (HM6.out.grown Hl7.out.grown (fun e => NE2.out e.symm))
              have NE7 := Lib.hid (show v7.ownBlock ≠ some gm from fun e => by
                rcases Hl7.out.place with h | h
                · rw [h] at e; exact NE2.out e
                · rw [h] at e; injection e with e; have := HM6.out.lt; omega)
              have HI7 : Hid (∃ h : p < (l2 ++ [j]).length, (l2 ++ [j])[p] = i) := Lib.hid ⟨by rw [List.length_append]; omega, by rw [List.getElem_append_left hp2]; exact HI2.out⟩
              go_wp2_with fail
              go_roundw
              case rel => exact ⟨l2 ++ [j], k + 1, n2 + 1, _, by go_num, by omega, Hv7.out, HM7.out, NE7.out, by omega, KN.out, HI7.out, HB7.out⟩
              case measure => simp [intOf]; omega
            · have g1 : (m1 == S.waits j) = false := by rw [WJ.out]; simpa using hw
              have Hw := Lib.hid hw
              clear hw
              go_wp2_with fail
              refine WH.start (S := fun w' : World => Blk w' (A.ha j) 101 (hcells (S.cg j) (A.sl j) (S.waits j) (A.hv j)) ∧ Blk w' (A.ha i) 101 (hcells (S.cg i) (A.sl i) (S.waits i) (A.hv i)) ∧ w'.cell? (ad5.add p) = some (ptr (A.ha i)) ∧ MapZ (.int .i64 0) w' Tryz.prog 3 gm (n2 + 1) (metM (updF met2 j m1))) [false, false, false, false, false, false, false, false, false, false, false, false, false, false, false, false, false, false, false, false, false, false, false, false, false, false, false, false] 28 rfl rfl (by kernel_rfl) ⟨(HC3.out.drew 1).hb LJ.out, (HC3.out.drew 1).hb HLI.out, cell_ext (bdrew w3 1) HC5.out, Hm3'.out.ext (bdrew w3 1)⟩ (fun hSn => ?_)
              obtain ⟨wS, hwS⟩ : ∃ x, w3.drew = x := ⟨_, rfl⟩
              have HBS := Lib.hid (bt HB3.out (bdrew w3 1))
              have HCS := Lib.hid (HC3.out.drew 1)
              have HOS := Lib.hid (HO3.out.ext (bdrew w3 1))
              have HMS := Lib.hid (Hm3'.out.ext (bdrew w3 1))
              rw [show w3.drewN 1 = wS from hwS] at HBS HCS HOS HMS
              rw [hwS] at hSn ⊢
              clear hwS
              refine WH.tk 0 ?_; simp only [setL]
              refine WH.tk 1 ?_; simp only [setL]
              refine WH.tk 2 ?_; simp only [setL]
              refine WH.tk 3 ?_; simp only [setL]
              refine WH.tv 4 rfl (fun w' hSw => exec_load_cell _ _ rfl _ rfl (.int .i64 (S.cg j).block) (hSw.1.cell 1) _ (Tryz.underlying3) rfl) ?_; simp only [setL]
              refine WH.tk 5 ?_; simp only [setL]
              refine WH.tk 6 ?_; simp only [setL]
              refine WH.tk 7 ?_; simp only [setL]
              refine WH.tv 8 rfl (fun w' hSw => exec_load_cell _ _ rfl _ rfl (.pointer (some ⟨A.ha i, 0, none⟩)) hSw.2.2.1 _ Tryz.underlying95 rfl) ?_; simp only [setL]
              refine WH.tk 9 ?_; simp only [setL]
              refine WH.tk 10 ?_; simp only [setL]
              refine WH.tk 11 ?_; simp only [setL]
              refine WH.tv 12 rfl (fun w' hSw => exec_load_cell _ _ rfl _ rfl (.int .i64 (S.cg i).block) (hSw.2.1.cell 1) _ (Tryz.underlying3) rfl) ?_; simp only [setL]
              refine WH.tk 13 ?_; simp only [setL]
              (try rw [g0])
              refine WH.tk 14 ?_; simp only [setL]
              refine WH.tk 15 ?_; simp only [setL]
              refine WH.tk 16 ?_; simp only [setL]
              refine WH.tk 17 ?_; simp only [setL]
              refine WH.tk 18 ?_; simp only [setL]
              refine WH.tk 19 ?_; simp only [setL]
              refine WH.tv 20 rfl (fun w' hSw => exec_load_cell _ _ rfl _ rfl (.int .i64 (S.cg j).id) (hSw.1.cell 0) _ (Tryz.underlying3) rfl) ?_; simp only [setL]
              refine WH.tv 21 rfl (fun w' hSw => exec_lookP _ _ _ rfl _ _ Tryz.underlying3 Tryz.underlying157 Tryz.zeroInt rfl hSw.2.2.2 j (by show Value.int .i64 (S.cg j).id = _; rw [IDJ.out]) Hwf.out _ HG2.out) ?_; simp only [setL]
              refine WH.tk 22 ?_; simp only [setL]
              refine WH.tk 23 ?_; simp only [setL]
              refine WH.tk 24 ?_; simp only [setL]
              refine WH.tv 25 rfl (fun w' hSw => exec_load_cell _ _ rfl _ rfl (.int .i64 (S.waits j)) (hSw.1.cell 5) _ (Tryz.underlying3) rfl) ?_; simp only [setL]
              refine WH.tk 26 ?_; simp only [setL]
              (try rw [g1])
              refine WH.tk 27 ?_; simp only [setL]
              refine WH.done (by kernel_rfl) ?_
              have KN := Lib.hid (ST.out.2 (fun h => Hw.out h.2))
              go_wp2_with fail
              go_roundw
              case rel => exact ⟨l2, k + 1, n2 + 1, _, by go_num, by omega, HOS.out, HMS.out, NE2.out, by omega, KN.out, ⟨hp2, HI2.out⟩, HBS.out⟩
              case measure => simp [intOf]; omega
          · have g0 : ((S.cg j).block == (S.cg i).block) = false := by rw [HBI.out]; simpa using hb
            have Hb := Lib.hid hb
            clear hb
            go_wp2_with fail
            refine WH.start (S := fun w' : World => Blk w' (A.ha j) 101 (hcells (S.cg j) (A.sl j) (S.waits j) (A.hv j)) ∧ Blk w' (A.ha i) 101 (hcells (S.cg i) (A.sl i) (S.waits i) (A.hv i)) ∧ w'.cell? (ad5.add p) = some (ptr (A.ha i)) ∧ MapZ (.int .i64 0) w' Tryz.prog 3 gm (n2 + 1) (metM (updF met2 j m1))) [false, false, false, false, false, false, false, false, false, false, false, false, false, false, false, false, false, false, false, false, false, false, false, false, false, false, false, false] 28 rfl rfl (by kernel_rfl) ⟨(HC3.out.drew 1).hb LJ.out, (HC3.out.drew 1).hb HLI.out, cell_ext (bdrew w3 1) HC5.out, Hm3'.out.ext (bdrew w3 1)⟩ (fun hSn => ?_)
            obtain ⟨wS, hwS⟩ : ∃ x, w3.drew = x := ⟨_, rfl⟩
            have HBS := Lib.hid (bt HB3.out (bdrew w3 1))
            have HCS := Lib.hid (HC3.out.drew 1)
            have HOS := Lib.hid (HO3.out.ext (bdrew w3 1))
            have HMS := Lib.hid (Hm3'.out.ext (bdrew w3 1))
            rw [show w3.drewN 1 = wS from hwS] at HBS HCS HOS HMS
            rw [hwS] at hSn ⊢
            clear hwS
            refine WH.tk 0 ?_; simp only [setL]
            refine WH.tk 1 ?_; simp only [setL]
            refine WH.tk 2 ?_; simp only [setL]
            refine WH.tk 3 ?_; simp only [setL]
            refine WH.tv 4 rfl (fun w' hSw => exec_load_cell _ _ rfl _ rfl (.int .i64 (S.cg j).block) (hSw.1.cell 1) _ (Tryz.underlying3) rfl) ?_; simp only [setL]
            refine WH.tk 5 ?_; simp only [setL]
            refine WH.tk 6 ?_; simp only [setL]
            refine WH.tk 7 ?_; simp only [setL]
            refine WH.tv 8 rfl (fun w' hSw => exec_load_cell _ _ rfl _ rfl (.pointer (some ⟨A.ha i, 0, none⟩)) hSw.2.2.1 _ Tryz.underlying95 rfl) ?_; simp only [setL]
            refine WH.tk 9 ?_; simp only [setL]
            refine WH.tk 10 ?_; simp only [setL]
            refine WH.tk 11 ?_; simp only [setL]
            refine WH.tv 12 rfl (fun w' hSw => exec_load_cell _ _ rfl _ rfl (.int .i64 (S.cg i).block) (hSw.2.1.cell 1) _ (Tryz.underlying3) rfl) ?_; simp only [setL]
            refine WH.tk 13 ?_; simp only [setL]
            (try rw [g0])
            refine WH.tk 14 ?_; simp only [setL]
            refine WH.skip 15 _ rfl (by kernel_rfl) (fun _ _ _ h => h) rfl (by assumption) ?_; simp only [setL]
            refine WH.skip 16 _ rfl (by kernel_rfl) (fun _ _ _ h => h) rfl (by assumption) ?_; simp only [setL]
            refine WH.skip 17 _ rfl (by kernel_rfl) (fun _ _ _ h => h) rfl (by assumption) ?_; simp only [setL]
            refine WH.skip 18 _ rfl (by kernel_rfl) (fun _ _ _ h => h) rfl (by assumption) ?_; simp only [setL]
            refine WH.skip 19 _ rfl (by kernel_rfl) (fun _ _ _ h => h) rfl (by assumption) ?_; simp only [setL]
            refine WH.skip 20 _ rfl (by kernel_rfl) (fun _ _ _ h => h) rfl (by assumption) ?_; simp only [setL]
            refine WH.skip 21 _ rfl (by kernel_rfl) (fun _ _ _ h => h) rfl (by assumption) ?_; simp only [setL]
            refine WH.skip 22 _ rfl (by kernel_rfl) (fun _ _ _ h => h) rfl (by assumption) ?_; simp only [setL]
            refine WH.skip 23 _ rfl (by kernel_rfl) (fun _ _ _ h => h) rfl (by assumption) ?_; simp only [setL]
            refine WH.skip 24 _ rfl (by kernel_rfl) (fun _ _ _ h => h) rfl (by assumption) ?_; simp only [setL]
            refine WH.skip 25 _ rfl (by kernel_rfl) (fun _ _ _ h => h) rfl (by assumption) ?_; simp only [setL]
            refine WH.skip 26 _ rfl (by kernel_rfl) (fun _ _ _ h => h) rfl (by assumption) ?_; simp only [setL]
            refine WH.tk 27 ?_; simp only [setL]
            refine WH.done (by kernel_rfl) ?_
            have KN := Lib.hid (ST.out.2 (fun h => Hb.out h.1))
            go_wp2_with fail
            go_roundw
            case rel => exact ⟨l2, k + 1, n2 + 1, _, by go_num, by omega, HOS.out, HMS.out, NE2.out, by omega, KN.out, ⟨hp2, HI2.out⟩, HBS.out⟩
            case measure => simp [intOf]; omega
        · have d1 : decide ((k : Int) < (nb : Int)) = false := by simpa using hlk
          have hkn2 : k = nb := by omega
          have HN := Lib.hid (show KI ids dep (fun j => (S.cg j).block) b l2 (p + 1) 0 met2 from HKI2.out.next hp2 (by rw [HI2.out, hkn2, ← HNB.out]))
          have hnn : n2 ≤ (p + 1) * 100000 := by
            have h1 : nb ≤ 100000 := by rw [← HNB.out]; exact Nat.le_trans (List.length_filter_le _ _) G.out.len
            omega
          go_wp2_with fail
          go_roundw
          case rel => exact ⟨l2, p + 1, n2, met2, by go_num, Hu2.out, Hm2.out, NE2.out, hnn, HN.out, Hbw2.out⟩
          case measure => simp [intOf]; omega
    · have d0 : decide ((p : Int) < (l.length : Int)) = false := by simpa using hlt
      have HD := Lib.hid (HKI.out.done G.out.nd (by omega))
      go_wp2_with fail
      go_ret
      exact ⟨_, l, rfl, Hu.out, Hbw.out, HD.out⟩

end Go.Proofs.YtpmbpklbiocclaaGreat
