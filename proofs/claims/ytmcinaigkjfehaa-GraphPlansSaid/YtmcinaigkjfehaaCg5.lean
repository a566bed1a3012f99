/-
  The contract of package ready's Waits.
-/
import Derived.Test.YtmcinaigkjfehaaCg4
namespace Go.Proofs.Ytmcinaigkjfehaa
open Go.RowKit

theorem Try.infoInt : (Try.prog.info? 3).map (fun i => (i.zero, i.size, i.bytes)) = some (some (.int .i64 0), 1, 8) := by kernel_rfl
/-- Of the first k those that keep one back. -/
def preW (l : List Cg) (c : Cg) (k : Nat) : List Int := ((l.take k).filter fun d => keepsB d c).map (·.id)
theorem preW_off {l : List Cg} {c : Cg} {k : Nat} (hk : k < l.length) (h : keepsB l[k] c = false) : preW l c (k + 1) = preW l c k := by
  unfold preW
  rw [List.take_succ_eq_append_getElem hk, List.filter_append]
  simp [h]
theorem preW_on {l : List Cg} {c : Cg} {k : Nat} (hk : k < l.length) (h : keepsB l[k] c = true) : preW l c (k + 1) = preW l c k ++ [l[k].id] := by
  unfold preW
  rw [List.take_succ_eq_append_getElem hk, List.filter_append]
  simp [h]
theorem preW_len (l : List Cg) (c : Cg) (k : Nat) : (preW l c k).length ≤ k := by
  unfold preW
  rw [List.length_map]
  exact Nat.le_trans (List.length_filter_le _ _) (by rw [List.length_take]; omega)
theorem waitsC_at {l : List Cg} {p : Nat} {id : Int} (hm : mayC l = true) (hp : p < l.length) (h : l[p].id = id) : waitsC l id = preW l l[p] p := by
  rw [← h, waitsC_mid hm (pre := l.take p) (post := l.drop (p + 1)) (by rw [List.getElem_cons_drop, List.take_append_drop])]
  rfl
theorem waitsC_none {l : List Cg} {id : Int} (h : ∀ c ∈ l, c.id ≠ id) : waitsC l id = [] := by
  unfold waitsC
  rw [splitId_none.2 h]
  split <;> rfl
theorem waitsC_not {l : List Cg} (id : Int) (h : mayC l = false) : waitsC l id = [] := by
  unfold waitsC
  rw [h]
  rfl
theorem RetI.nil_ {w w' : World} (h : Below w.heap.size w w') : RetI w [] (.returned (.slice none 0 0)) w' := ⟨none, 0, 0, rfl, rfl, Nat.le_refl _, by unfold maxLen; omega, RC.nil_ _ _, h⟩
theorem OwnC.retI {w w' : World} {B : Nat} {e : TypeId} {v : Value} {l : List Int} (h : OwnC w' B e v (ivals l)) (hb : Below w.heap.size w w') : RetI w l (.returned v) w' := by
  obtain ⟨A, c, rfl, h1, h2, h3⟩ := h.ints
  exact ⟨A, _, c, rfl, rfl, h1, h2, h3, hb⟩

set_option maxRecDepth 100000 in
set_option maxHeartbeats 4000000 in
theorem pwaits_any (A : Option Addr) (n cap : Nat) (l : List Cg) (hn : l.length = n) (hcap : n ≤ cap) (hm : n ≤ 4096) (hN : ∀ c ∈ l, c.needs.length ≤ 4096) (id : Int) (w : World) (hr : RdL RdC w A 5 l) :
    Calls Try.prog 28 #[.slice A n cap, .int .i64 id] w (RetI w (waitsC l id)) := by
  have Hn := Lib.hid hn
  have Hr := Lib.hid hr
  have HNN := Lib.hid hN
  obtain ⟨W, hW⟩ : ∃ W, waitsC l id = W := ⟨_, rfl⟩
  rw [hW]
  have HW := Lib.hid hW
  clear hn hr hN hW
  go_enter Try.func28, Try.ntmps28
  go_wp2_with fail
  refine (chk_any A n cap l Hn.out hm _ Hr.out).mono ?_; rintro e w1 ⟨rfl, hb1⟩
  have Hb1 := Lib.hid hb1
  clear hb1
  cases hmay : mayC l
  · rw [chkI_no hmay]
    have HE : Hid (W = []) := Lib.hid (HW.out.symm.trans (waitsC_not id hmay))
    clear hmay
    go_wp2_with fail
    go_ret
    rw [HE.out]
    exact RetI.nil_ Hb1.out
  · rw [chkI_yes hmay]
    have Hmay := Lib.hid hmay
    clear hmay
    go_wp2_with fail
    refine (place_any A n cap l Hn.out hm id Hmay.out _ (Hr.out.below Hb1.out)).mono ?_; rintro e w2 ⟨p, b, rfl, hf, hb2⟩
    have Hf := Lib.hid hf
    have Hw2 := Lib.hid (bt Hb1.out hb2)
    clear hf hb2
    cases b
    · have HE : Hid (W = []) := Lib.hid (HW.out.symm.trans (waitsC_none (Hf.out.2 rfl)))
      go_wp2_with fail
      go_ret
      rw [HE.out]
      exact RetI.nil_ Hw2.out
    · obtain ⟨hp, hid⟩ := Hf.out.1 rfl
      have HWp := Lib.hid (HW.out.symm.trans (waitsC_at Hmay.out hp hid))
      have hpn : p < n := by have := Hn.out; omega
      have hs : l[p].needs.Pairwise (· ≤ ·) := (riseN_le (Cg.may_iff.1 (mayC_iff0.1 Hmay.out p hp)).2.2.2).1
      have hN' := HNN.out l[p] (List.getElem_mem hp)
      obtain ⟨ad, Ad, nd, cd, An, nn, cn, rfl, hcv, h0, h1, h2, h3, h4⟩ := Hr.out.cg hp
      have Q0 := Lib.hid h0
      have Q1 := Lib.hid h1
      have Q2 := Lib.hid h2
      have Q3 := Lib.hid h3
      have Q4 := Lib.hid h4
      have Hcv := Lib.hid hcv
      have Hs := Lib.hid hs
      have HN : Hid (nn ≤ 4096) := Lib.hid (by rw [hcv.len] at hN'; exact hN')
      clear h0 h1 h2 h3 h4 hcv hs hid hN'
      generalize l[p] = c at *
      have z0 : (p : Int) < n := by omega
      have z1 : p ≤ cap := by omega
      have z2 : (p : Int) ≤ cap := by omega
      go_wp2_with fail
      go_loopw [7, 25] (fun v i wr => ∃ k : Nat, k ≤ p ∧ i = .int .i64 k ∧ OwnC wr w.heap.size 3 v (ivals (preW l c k)) ∧ Below w.heap.size w wr) (fun _ i _ => p - (intOf i).toNat)
      case atStart => exact ⟨0, Nat.zero_le _, rfl, OwnC.nil_ _ _ _, Hw2.out⟩
      case round =>
        obtain ⟨k, hk, rfl, hu, hbw⟩ := hrel
        have Hu := Lib.hid hu
        have Hbw := Lib.hid hbw
        clear hu hbw
        by_cases hlt : k < p
        · have d0 : decide ((k : Int) < p) = true := by simpa using hlt
          have hkl : k < l.length := by have := Hn.out; omega
          have Hoff := Lib.hid (preW_off (c := c) hkl)
          have Hon := Lib.hid (preW_on (c := c) hkl)
          have hl0 := preW_len l c k
          have hl1 : (ivals (preW l c k)).length + 1 ≤ maxLen := by rw [ivals_len]; unfold maxLen; omega
          have hl2 : ((ivals (preW l c k)).length + 1) * 8 ≤ 140737488355328 := by rw [ivals_len]; omega
          obtain ⟨ad', Ae, ne, ce, Am, nm, cm, e', hdv, h0, h1, h2, h3, h4⟩ := (Hr.out.below Hbw.out).cg hkl
          injection e' with e'
          subst e'
          have C0 := Lib.hid h0
          have C1 := Lib.hid h1
          have C2 := Lib.hid h2
          have C3 := Lib.hid h3
          have C4 := Lib.hid h4
          have Hdv := Lib.hid hdv
          clear h0 h1 h2 h3 h4 hdv
          generalize l[k] = d at *
          generalize preW l c k = L at *
          clear hkl
          go_wp2_with (first | refine wpList_load_five rfl _ _ rfl (ad.add (k * 5)) rfl _ _ _ _ _ C0.out C1.out C2.out C3.out C4.out _ Try.underlying50 Try.chgSize ?_ | refine wpList_alloc_row rfl _ rfl _ Try.chgZero ?_); apply Stop.go; intro w3 Hg3 Hb3; go_wp2_with (refine wpList_store_arr rfl _ _ _ rfl _ #[.int .i64 d.id, .int .i64 d.block, .int .i64 d.p.at_, .slice Ae ne ce, .slice Am nm cm] rfl rfl _ _ Hb3.out Try.chgSize rfl (by simp [Value.oneCell']) ?_); apply Stop.go; intro w4 Ho4 Hb4; have D4 := Lib.hid (bonly Hg3.out.1 Ho4.out (Nat.le_refl _))
          have K0 := Lib.hid ((bt Hbw.out D4.out).cell (block_lt_of_cell Q0.out) |>.trans Q0.out)
          have K1 := Lib.hid ((bt Hbw.out D4.out).cell (block_lt_of_cell Q1.out) |>.trans Q1.out)
          have K2 := Lib.hid ((bt Hbw.out D4.out).cell (block_lt_of_cell Q2.out) |>.trans Q2.out)
          have K3 := Lib.hid ((bt Hbw.out D4.out).cell (block_lt_of_cell Q3.out) |>.trans Q3.out)
          have K4 := Lib.hid ((bt Hbw.out D4.out).cell (block_lt_of_cell Q4.out) |>.trans Q4.out)
          have Hu4 := Lib.hid (Hu.out.ext D4.out)
          have Hw4 := Lib.hid (bt Hbw.out D4.out)
          go_wp2_with fail
          refine WH.start (S := fun w' : World => Below w4.heap.size w4 w') [false, false, false, false, false, false] 6 rfl rfl (by kernel_rfl) (bdrew w4 1) (fun hSn => ?_)
          refine WH.take 0 _ ?_ rfl (by kernel_rfl) (fun _ _ _ h => h) rfl (by assumption) ?_ ?_; rotate_left; (focus (intro w hSw; (try dsimp only at hSw); (first | (go_simp; done) | (go_simp; with_reducible rfl)))); simp only [Act.put, List.setIfInBounds_toArray, List.set_cons_zero, List.set_cons_succ]
          refine WH.take 1 _ ?_ rfl (by kernel_rfl) (fun _ _ _ h => h) rfl (by assumption) ?_ ?_; rotate_left; (focus (intro w hSw; (try dsimp only at hSw); (first | (go_simp; done) | (go_simp; with_reducible rfl)))); simp only [Act.put, List.setIfInBounds_toArray, List.set_cons_zero, List.set_cons_succ]
          refine WH.take 2 _ ?_ rfl (by kernel_rfl) (fun _ _ _ h => h) rfl (by assumption) ?_ ?_; rotate_left; (focus (intro w hSw; (try dsimp only at hSw); (first | (go_simp; done) | (go_simp; with_reducible rfl)))); simp only [Act.put, List.setIfInBounds_toArray, List.set_cons_zero, List.set_cons_succ]
          refine WH.take 3 _ _ rfl (by kernel_rfl) (fun _ _ _ h => h) rfl (by assumption) (fun w' hSw => exec_load_five _ _ rfl (ad.add (p * 5)) rfl _ _ _ _ _ ((hSw.cell (block_lt_of_cell K0.out)).trans K0.out) ((hSw.cell (block_lt_of_cell K1.out)).trans K1.out) ((hSw.cell (block_lt_of_cell K2.out)).trans K2.out) ((hSw.cell (block_lt_of_cell K3.out)).trans K3.out) ((hSw.cell (block_lt_of_cell K4.out)).trans K4.out) _ Try.underlying50 Try.chgSize) ?_; simp only [Act.put, List.setIfInBounds_toArray, List.set_cons_zero, List.set_cons_succ]
          refine WH.take 4 _ _ rfl (by kernel_rfl) (fun _ _ _ h => h) rfl (by assumption) (fun w' hSw => exec_load_blk _ _ rfl _ rfl _ _ (Hb4.out.ext hSw) _ (Try.underlying50) rfl (Try.chgSize)) ?_; simp only [Act.put, List.setIfInBounds_toArray, List.set_cons_zero, List.set_cons_succ]
          refine WH.only 5 _ rfl (by kernel_rfl) rfl (fun K hK => ?_); go_simp; refine (wfor_any c Ad nd cd An nn cn d Ae ne ce Am nm cm _ (Hcv.out.below (bt (bt Hbw.out D4.out) hSn)) (Hdv.out.below (bt D4.out hSn)) HN.out Hs.out).mono ?_; rintro e w5 ⟨rfl, hb5⟩; go_simp
          have hSn := bt hSn hb5; refine hK _ _ hSn ?_; clear hK; clear K; simp only [List.set_cons_zero, List.set_cons_succ]
          refine WH.done (by kernel_rfl) ?_
          have H5 := Lib.hid hSn
          clear hSn hb5
          have Hu5 := Lib.hid (Hu4.out.ext H5.out)
          have Hw5 := Lib.hid (bt Hw4.out H5.out)
          have c0 : w5.cell? ⟨wr.heap.size, 0, none⟩ = some (.int .i64 d.id) := (Hb4.out.ext H5.out).five.1
          cases hkp : keepsB d c
          · have HX := Lib.hid (Hoff.out hkp)
            clear hkp
            go_wp2_with fail
            go_roundw
            case rel => exact ⟨k + 1, by omega, by go_num, by rw [HX.out]; exact Hu5.out, Hw5.out⟩
            case measure => simp [intOf]; omega
          · have HX := Lib.hid (Hon.out hkp)
            clear hkp
            go_wp2_with (at_builtin; refine wpList_append_one rfl _ _ _ _ rfl Try.underlying28 (.int .i64 0) 8 Try.infoInt rfl w.heap.size _ _ rfl Hu5.out (.int .i64 d.id) rfl rfl Hw5.out.size hl1 hl2 ?_)
            apply Stop.go
            intro v' w6 Hv' Ha'
            have D6 := Lib.hid (Hw5.out.trans Ha'.out.below)
            go_wp2_with fail
            go_roundw
            case rel => exact ⟨k + 1, by omega, by go_num, by rw [HX.out, ← ivals_snoc]; exact Hv'.out, D6.out⟩
            case measure => simp [intOf]; omega
        · have d0 : decide ((k : Int) < p) = false := by simpa using hlt
          have HX : Hid (W = preW l c k) := Lib.hid (by rw [HWp.out, show k = p by omega])
          go_wp2_with fail
          go_ret
          rw [HX.out]
          exact Hu.out.retI Hbw.out

end Go.Proofs.Ytmcinaigkjfehaa
