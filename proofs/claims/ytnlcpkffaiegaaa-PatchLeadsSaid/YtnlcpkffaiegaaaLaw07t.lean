/-
  The walk of PatchLeads.
-/
import Derived.Test.YtnlcpkffaiegaaaLaw07s
namespace Go.Proofs.Ytnlcpkffaiegaaa
open Go.RowKit

theorem diffP_rise {a b : List UInt8} (hb : b.length = 256) : ∀ (i j : Nat) (hi : i < (diffP a b).length) (hj : j < (diffP a b).length), i < j → (diffP a b)[i].at_ + ((diffP a b)[i].data.length : Int) < (diffP a b)[j].at_ := by
  have ok := runs_ok (unlike a b) 256
  intro i j hi hj hij
  unfold diffP at hi hj ⊢
  rw [List.length_map] at hi hj
  simp only [List.getElem_map]
  have h1 := (List.pairwise_iff_getElem.1 ok.rise) i j hi hj hij
  have h2 := ok.pos _ (List.getElem_mem hi)
  rw [ptOf_len hb h2.2]
  show ((runsTo (unlike a b) 256)[i].1 : Int) + _ < ((runsTo (unlike a b) 256)[j].1 : Int)
  omega
theorem diffP_sum {a b : List UInt8} (hb : b.length = 256) : bytesP (diffP a b) = ((diffP a b).map (fun p => p.data.length)).sum := by
  have ok := runs_ok (unlike a b) 256
  unfold diffP
  rw [bytesP_runs hb _ ok.pos ok.rise, List.map_map]
  congr 1
  apply List.map_congr_left
  intro r hr
  exact (ptOf_len hb (ok.pos r hr).2).symm
theorem sum_snoc (l : List Pt) (k : Nat) (hk : k < l.length) : ((l.take (k + 1)).map (fun p => p.data.length)).sum = ((l.take k).map (fun p => p.data.length)).sum + l[k].data.length := by
  rw [List.take_succ_eq_append_getElem hk, List.map_append, List.sum_append]
  simp
theorem sum_max (l : List Pt) (h : ∀ p ∈ l, p.data.length ≤ 256) : (l.map (fun p => p.data.length)).sum ≤ 256 * l.length := by
  induction l with
  | nil => simp
  | cons p l ih =>
    have h1 := ih (fun q hq => h q (List.mem_cons_of_mem _ hq))
    have h2 := h p (by simp)
    simp only [List.map_cons, List.sum_cons, List.length_cons]
    omega

set_option maxHeartbeats 4000000 in
theorem patchLeads_any (L M : List UInt8) (hL : L.length = 256) (hM : M.length = 256) (w : World) :
    Calls Try.prog 6 #[.agg (bcells L), .agg (bcells M)] w fun e w' => e = .returned (.bool true) ∧ Below w.heap.size w w' := by
  have HL := Lib.hid hL
  have HN := Lib.hid hM
  clear hL hM
  go_enter Try.func6, Try.ntmps6
  go_wp2_with (refine wpList_box_row rfl _ _ rfl _ rfl ?_)
  apply Stop.go; intro w1 Hg1 Hb1
  go_wp2_with (refine wpList_box_row rfl _ _ rfl _ rfl ?_)
  apply Stop.go; intro w2 Hg2 Hb2
  have Hw2 := Lib.hid (bt Hg1.out.1 Hg2.out.1)
  have HX2 := Lib.hid (Hb1.out.ext Hg2.out.1)
  go_upto_region 1 with fail
  go_cut [5, 6] from 12 to 13 (fun v v' wx => ∃ G1 G2, v = .pointer (some ⟨G1, 0, none⟩) ∧ v' = .pointer (some ⟨G2, 0, none⟩) ∧ Blk wx G1 27 (bcells L) ∧ Blk wx G2 27 (bcells M) ∧ Below w2.heap.size w2 wx)
  case first =>
    refine WH.start (S := fun w' : World => Below w2.heap.size w2 w') (List.replicate 6 false) 6 rfl rfl (by kernel_rfl) (bdrew w2 1) (fun hSn => ?_)
    simp only [List.replicate]
    obtain ⟨wS, hwS⟩ : ∃ x, w2.drew = x := ⟨_, rfl⟩
    rw [hwS] at hSn ⊢
    clear hwS
    refine WH.take 0 _ _ rfl (by kernel_rfl) (fun _ _ _ h => h) rfl (by assumption) (fun w' hSw => exec_load_blk _ _ rfl _ rfl _ _ (HX2.out.ext hSw) _ (Try.underlying22) rfl (Try.arr256Fits HL.out)) ?_; simp only [Act.put, List.setIfInBounds_toArray, List.set_cons_zero, List.set_cons_succ]
    refine WH.take 1 _ _ rfl (by kernel_rfl) (fun _ _ _ h => h) rfl (by assumption) (fun w' hSw => exec_load_blk _ _ rfl _ rfl _ _ (Hb2.out.ext hSw) _ (Try.underlying22) rfl (Try.arr256Fits HN.out)) ?_; simp only [Act.put, List.setIfInBounds_toArray, List.set_cons_zero, List.set_cons_succ]
    refine WH.two 2 3 _ _ rfl rfl (by kernel_rfl) rfl rfl (fun K hK => ?_) (fun K hK => ?_)
    focus (
      have hl0 := hSn.size
      have hs0 := hSn
      refine ow_alloc _ rfl _ Try.blockZero ?_
      apply Stop.go
      intro wa HgA HBx
      have hSn := bt hs0 HgA.out.1; refine hK _ _ hSn ?_; clear hK; clear K; simp only [Act.put, List.setIfInBounds_toArray, List.set_cons_zero, List.set_cons_succ]
      refine WH.only 3 _ rfl (by kernel_rfl) rfl (fun K hK => ?_)
      have hl1 := hSn.size
      have hs1 := hSn
      refine ow_alloc _ rfl _ Try.blockZero ?_
      apply Stop.go
      intro wb HgB HBy
      have hSn := bt hs1 HgB.out.1; refine hK _ _ hSn ?_; clear hK; clear K; simp only [Act.put, List.setIfInBounds_toArray, List.set_cons_zero, List.set_cons_succ]
      have hne : wS.heap.size ≠ wa.heap.size := Nat.ne_of_lt HBx.out.lt
      have hs2 := hSn
      refine WH.only 4 _ rfl (by kernel_rfl) rfl (fun K hK => ?_)
      refine ow_store _ _ _ rfl _ (bcells L) rfl rfl _ _ (HBx.out.ext HgB.out.1) (Try.blockFits HL.out) (by rw [bcells_size, bcells_size, HL.out, zeros_len]) (oneCell_bcells _) ?_
      apply Stop.go
      intro wc Hoc Hxc
      have hSn := bonly hs2 Hoc.out hl0; refine hK _ _ hSn ?_; clear hK; clear K; simp only [Act.put, List.set_cons_zero, List.set_cons_succ]
      have hs3 := hSn
      refine WH.only 5 _ rfl (by kernel_rfl) rfl (fun K hK => ?_)
      refine ow_store _ _ _ rfl _ (bcells M) rfl rfl _ _ (HBy.out.only Hoc.out hne.symm) (Try.blockFits HN.out) (by rw [bcells_size, bcells_size, HN.out, zeros_len]) (oneCell_bcells _) ?_
      apply Stop.go
      intro wd Hod Hyd
      have hSn := bonly hs3 Hod.out hl1; refine hK _ _ hSn ?_; clear hK; clear K; simp only [Act.put, List.set_cons_zero, List.set_cons_succ]
      have HXd := Hxc.out.only Hod.out hne
      refine WH.done (by kernel_rfl) ?_
      go_wp2_with fail
      go_meet
      exact ⟨_, _, rfl, rfl, HXd, Hyd.out, hSn⟩)
    focus (
      have hl0 := hSn.size
      have hs0 := hSn
      refine ow_alloc _ rfl _ Try.blockZero ?_
      apply Stop.go
      intro wa HgA HBy
      have hSn := bt hs0 HgA.out.1; refine hK _ _ hSn ?_; clear hK; clear K; simp only [Act.put, List.setIfInBounds_toArray, List.set_cons_zero, List.set_cons_succ]
      refine WH.only 2 _ rfl (by kernel_rfl) rfl (fun K hK => ?_)
      have hl1 := hSn.size
      have hs1 := hSn
      refine ow_alloc _ rfl _ Try.blockZero ?_
      apply Stop.go
      intro wb HgB HBx
      have hSn := bt hs1 HgB.out.1; refine hK _ _ hSn ?_; clear hK; clear K; simp only [Act.put, List.setIfInBounds_toArray, List.set_cons_zero, List.set_cons_succ]
      have hne : wS.heap.size ≠ wa.heap.size := Nat.ne_of_lt HBy.out.lt
      have hs2 := hSn
      refine WH.only 4 _ rfl (by kernel_rfl) rfl (fun K hK => ?_)
      refine ow_store _ _ _ rfl _ (bcells L) rfl rfl _ _ HBx.out (Try.blockFits HL.out) (by rw [bcells_size, bcells_size, HL.out, zeros_len]) (oneCell_bcells _) ?_
      apply Stop.go
      intro wc Hoc Hxc
      have hSn := bonly hs2 Hoc.out hl1; refine hK _ _ hSn ?_; clear hK; clear K; simp only [Act.put, List.set_cons_zero, List.set_cons_succ]
      have hs3 := hSn
      refine WH.only 5 _ rfl (by kernel_rfl) rfl (fun K hK => ?_)
      refine ow_store _ _ _ rfl _ (bcells M) rfl rfl _ _ ((HBy.out.ext HgB.out.1).only Hoc.out hne) (Try.blockFits HN.out) (by rw [bcells_size, bcells_size, HN.out, zeros_len]) (oneCell_bcells _) ?_
      apply Stop.go
      intro wd Hod Hyd
      have hSn := bonly hs3 Hod.out hl0; refine hK _ _ hSn ?_; clear hK; clear K; simp only [Act.put, List.set_cons_zero, List.set_cons_succ]
      have HXd := Hxc.out.only Hod.out hne.symm
      refine WH.done (by kernel_rfl) ?_
      go_wp2_with fail
      go_meet
      exact ⟨_, _, rfl, rfl, HXd, Hyd.out, hSn⟩)
  case rest =>
  obtain ⟨G1, G2, rfl, rfl, hx, hy, hd⟩ := hcut
  have HX5 := Lib.hid hx
  have HY5 := Lib.hid hy
  have Hw5 := Lib.hid (bt Hw2.out hd)
  clear hx hy hd
  generalize wc = w5 at *
  go_wp2_with (first | refine wpList_load_arr rfl _ _ rfl _ rfl _ _ HX5.out _ _ Try.underlying27 (Try.blockFits HL.out) ?_ | refine wpList_load_arr rfl _ _ rfl _ rfl _ _ HY5.out _ _ Try.underlying27 (Try.blockFits HN.out) ?_)
  refine (pdiff_any L M HL.out HN.out _).mono ?_; rintro e w6 ⟨A, n, c, rfl, hn, hc, hm, hr, hb6⟩
  have Hw6 := Lib.hid (bt Hw5.out hb6)
  have HX6 := Lib.hid (HX5.out.ext hb6)
  have HY6 := Lib.hid (HY5.out.ext hb6)
  have hlen := diffP_len L M
  have Hright := Lib.hid (diffP_right (a := L) HN.out)
  have Hrise := Lib.hid (diffP_rise (a := L) HN.out)
  have Hsm := Lib.hid (diffP_sum (a := L) HN.out)
  have Hlead := Lib.hid (diffP_leads HL.out HN.out)
  have Hback := Lib.hid (diffP_back HL.out HN.out)
  have Hnil := Lib.hid (diffP_nil HL.out HN.out)
  generalize diffP L M = l at *
  have Hn := Lib.hid hn
  have Hr := Lib.hid hr
  have hn256 : n ≤ 256 := by omega
  clear hn hr hb6 hlen HX5 HY5 hc hm
  go_wp2_with fail
  go_loopw [8, 9, 10, 11] (fun en sn bk i wr => ∃ (k : Nat) (E : Int), k ≤ n ∧ i = .int .i64 k ∧ en = .int .i64 E ∧ (∀ j (h : j < l.length), k ≤ j → E < l[j].at_) ∧ sn = .int .i64 (((l.take k).map (fun p => p.data.length)).sum : Nat) ∧ OwnP wr w6.heap.size 29 bk ((l.take k).map (wasP L)) ∧ Below w6.heap.size w6 wr) (fun _ _ _ i _ => n - (intOf i).toNat)
  case atStart => exact ⟨0, -1, Nat.zero_le _, rfl, rfl, fun j h _ => by have := Pt.right_iff.1 (Hright.out _ (List.getElem_mem h)); omega, rfl, OwnP.nil_ _ _ _, Below.refl _ _⟩
  case round =>
    obtain ⟨k, E, hk, rfl, rfl, hE, rfl, ho, hbw⟩ := hrel
    have HE := Lib.hid hE
    have How := Lib.hid ho
    have Hbw := Lib.hid hbw
    clear hE ho hbw
    by_cases hlt : k < n
    · have d0 : decide ((k : Int) < n) = true := by simpa using hlt
      have hkl : k < l.length := by rw [Hn.out]; exact hlt
      obtain ⟨ad, v0, v1, rfl, c0, c1, hp⟩ := Hr.out k hkl
      obtain ⟨A', n', c', rfl, rfl, hq⟩ := hp.pv
      have Hp := Lib.hid hq
      have C0 := Lib.hid c0
      have C1 := Lib.hid c1
      have hpr := Hright.out _ (List.getElem_mem hkl)
      have hbd := Pt.right_iff.1 hpr
      have Hpr := Lib.hid hpr
      have He1 := Lib.hid (HE.out k hkl (Nat.le_refl _))
      have He2 := Lib.hid (fun j (h : j < l.length) (hj : k + 1 ≤ j) => Hrise.out k j hkl h hj)
      have Hs1 := Lib.hid (sum_snoc l k hkl)
      have hsm := sum_max (l.take k) (fun p hp => (Pt.right_iff.1 (Hright.out p (List.mem_of_mem_take hp))).2.1)
      rw [List.length_take, Hn.out] at hsm
      have Hwk := Lib.hid (show (l.take (k + 1)).map (wasP L) = (l.take k).map (wasP L) ++ [wasP L l[k]] by rw [List.take_succ_eq_append_getElem hkl, List.map_append]; rfl)
      have Hlt := Lib.hid (show ((l.take k).map (wasP L)).length = k by rw [List.length_map, List.length_take, Hn.out]; omega)
      have Hck := Lib.hid (show checkI l[k] = 0 by unfold checkI; rw [hpr]; rfl)
      rw [hq.len] at hbd He2 Hs1
      generalize l[k] = p at *
      generalize ((l.take k).map (fun p => p.data.length)).sum = S at *
      obtain ⟨b1, b2, b3, b4⟩ := hbd
      have t1 : decide (p.at_ ≤ E) = false := by have := He1.out; simp; omega
      have tw : IntKind.i64.wrap (p.at_ + (n' : Int)) = p.at_ + (n' : Int) := IntWalk.i64_in _ (by omega)
      have hS : S ≤ 65536 := by have : min k n ≤ 256 := by omega
                                omega
      clear hpr hp hq c0 c1 hsm
      go_wp2_with (refine wpList_load_pair rfl _ _ rfl (ad.add (k * 2)) rfl _ _ ((Hbw.out.cell (block_lt_of_cell C0.out)).trans C0.out) (by rw [add_of_add]; exact (Hbw.out.cell (block_lt_of_cell C1.out)).trans C1.out) _ Try.underlying29 Try.patchSize ?_)
      refine (check_any p A' n' c' _ (Hp.out.below Hbw.out)).mono ?_; rintro e w7 ⟨rfl, hb7⟩
      rw [Hck.out]
      have Hbw7 := Lib.hid (bt Hbw.out hb7)
      have How7 := Lib.hid (How.out.ext hb7)
      clear hb7
      have k0 : w7.cell? (ad.add (k * 2)) = some (.int .i64 p.at_) := (Hbw7.out.cell (block_lt_of_cell C0.out)).trans C0.out
      have k1 : w7.cell? ⟨(ad.add (k * 2)).block, (ad.add (k * 2)).off + 1, none⟩ = some (.slice A' n' c') := cell_field k0 ((Hbw7.out.cell (block_lt_of_cell C1.out)).trans C1.out)
      go_wp2_with fail
      go_quiet (fail)
      have D8 := Lib.hid (bdrew w7 nq)
      generalize w7.drewN nq = w8 at *
      have Hbw8 := Lib.hid (bt Hbw7.out D8.out)
      have How8 := Lib.hid (How7.out.ext D8.out)
      have k0 := (D8.out.cell (block_lt_of_cell k0)).trans k0
      have k1 := (D8.out.cell (block_lt_of_cell k1)).trans k1
      go_wp2_with fail
      refine WH.start (S := fun w' : World => Below w6.heap.size w6 w') (List.replicate 10 false) 10 rfl rfl (by kernel_rfl) (bt Hbw8.out (bdrew w8 1)) (fun hSn => ?_)
      simp only [List.replicate]
      obtain ⟨wS, hwS⟩ : ∃ x, w8.drew = x := ⟨_, rfl⟩
      have hDS : Below w8.heap.size w8 wS := by rw [← hwS]; exact bdrew w8 1
      have HoS := Lib.hid (How8.out.ext hDS)
      rw [hwS] at hSn ⊢
      clear hwS k0 k1 hDS
      refine WH.take 0 _ ?_ rfl (by kernel_rfl) (fun _ _ _ h => h) rfl (by assumption) ?_ ?_; rotate_left; (focus (intro w hSw; (try dsimp only at hSw); (first | (go_simp; done) | (go_simp; with_reducible rfl)))); simp only [Act.put, List.setIfInBounds_toArray, List.set_cons_zero, List.set_cons_succ]
      refine WH.take 1 _ _ rfl (by kernel_rfl) (fun _ _ _ h => h) rfl (by assumption) (fun w' hSw => exec_load_blk _ _ rfl _ rfl _ _ (HX6.out.ext hSw) _ (Try.underlying27) rfl (Try.blockFits HL.out)) ?_; simp only [Act.put, List.setIfInBounds_toArray, List.set_cons_zero, List.set_cons_succ]
      refine WH.take 2 _ ?_ rfl (by kernel_rfl) (fun _ _ _ h => h) rfl (by assumption) ?_ ?_; rotate_left; (focus (intro w hSw; (try dsimp only at hSw); (first | (go_simp; done) | (go_simp; with_reducible rfl)))); simp only [Act.put, List.setIfInBounds_toArray, List.set_cons_zero, List.set_cons_succ]
      refine WH.take 3 _ ?_ rfl (by kernel_rfl) (fun _ _ _ h => h) rfl (by assumption) ?_ ?_; rotate_left; (focus (intro w hSw; (try dsimp only at hSw); (first | (go_simp; done) | (go_simp; with_reducible rfl)))); simp only [Act.put, List.setIfInBounds_toArray, List.set_cons_zero, List.set_cons_succ]
      refine WH.take 4 _ ?_ rfl (by kernel_rfl) (fun _ _ _ h => h) rfl (by assumption) ?_ ?_; rotate_left; (focus (intro w hSw; (try dsimp only at hSw); (first | (go_simp; done) | (go_simp; with_reducible rfl)))); simp only [Act.put, List.setIfInBounds_toArray, List.set_cons_zero, List.set_cons_succ]
      refine WH.take 5 _ _ rfl (by kernel_rfl) (fun _ _ _ h => h) rfl (by assumption) (fun w' hSw => exec_load_pair _ _ rfl (ad.add (k * 2)) rfl (.int .i64 p.at_) (.slice A' n' c') ((hSw.cell (block_lt_of_cell C0.out)).trans C0.out) (by rw [add_of_add]; exact (hSw.cell (block_lt_of_cell C1.out)).trans C1.out) _ Try.underlying29 Try.patchSize) ?_; simp only [Act.put, List.setIfInBounds_toArray, List.set_cons_zero, List.set_cons_succ]
      refine WH.only 6 _ rfl (by kernel_rfl) rfl (fun K hK => ?_); go_simp; refine (was_any L HL.out p A' n' c' _ (Hp.out.below hSn)).mono ?_; rintro e wa ⟨A2, n2, c2, rfl, hp2, hb2, hf2⟩; go_simp
      have Ho2 := Lib.hid (HoS.out.ext hb2)
      have Ha2 := Lib.hid (away_new hp2 hf2 fun k hk => (HoS.out.lt k hk).2)
      have hSn := bt hSn hb2; refine hK _ _ hSn ?_; clear hK; clear K; simp only [List.set_cons_zero, List.set_cons_succ]
      have hSa := hSn
      refine WH.only 7 _ rfl (by kernel_rfl) rfl (fun K hK => ?_)
      refine ow_build_one _ _ _ rfl Try.underlying45 _ _ Try.patchInfo rfl _ _ rfl ?_
      have hSn := bt hSa (Grew.alloc wa (.cells #[.int .i64 (wasP L p).at_, .slice A2 n2 c2] 29)).1; refine hK _ _ hSn ?_; clear hK; clear K; simp only [Act.put, List.setIfInBounds_toArray, List.set_cons_zero, List.set_cons_succ]
      refine WH.only 8 _ rfl (by kernel_rfl) rfl (fun K hK => ?_)
      refine ow_append_pt _ _ _ _ rfl Try.underlying45 _ _ Try.patchInfo rfl w6.heap.size _ _ Ho2.out (wasP L p) A2 n2 c2 hp2 Ha2.out rfl rfl hSa.size (by rw [Hlt.out]; omega) (by rw [Hlt.out]; omega) ?_
      apply Stop.go
      intro v' w9 Ho9 Hb9
      have hSn := hSa.trans Hb9.out; refine hK _ _ hSn ?_; clear hK; clear K; simp only [Act.put, List.setIfInBounds_toArray, List.set_cons_zero, List.set_cons_succ]
      refine WH.take 9 _ ?_ rfl (by kernel_rfl) (fun _ _ _ h => h) rfl (by assumption) ?_ ?_; rotate_left; (focus (intro w hSw; (try dsimp only at hSw); (first | (go_simp; done) | (go_simp; with_reducible rfl)))); simp only [Act.put, List.setIfInBounds_toArray, List.set_cons_zero, List.set_cons_succ]
      refine WH.done (by kernel_rfl) ?_
      have Hb9' := Lib.hid hSn
      clear hSn hSa hp2 hb2 hf2
      go_wp2_with fail
      go_roundw
      case rel => exact ⟨k + 1, p.at_ + (n' : Int), by omega, by go_num, rfl, He2.out, by rw [Hs1.out]; go_num, by rw [Hwk.out]; exact Ho9.out, Hb9'.out⟩
      case measure => simp [intOf]; omega
    · have d0 : decide ((k : Int) < n) = false := by simpa using hlt
      obtain rfl : k = n := by omega
      have e1 : l.take k = l := List.take_of_length_le (by rw [Hn.out]; omega)
      rw [e1] at How ⊢
      have Hsum := Lib.hid Hsm.out
      obtain ⟨A3, c3, hv3, h31, h32, HB⟩ := How.out.read
      have Hn3 := Lib.hid (show (l.map (wasP L)).length = k by rw [List.length_map, Hn.out])
      rw [Hn3.out] at hv3
      have Hv3 := Lib.hid hv3
      have HB9 := Lib.hid HB
      have HX9 := Lib.hid (HX6.out.below Hbw.out HX6.out.lt)
      have HY9 := Lib.hid (HY6.out.below Hbw.out HY6.out.lt)
      have HR9 := Lib.hid (Hr.out.below Hbw.out)
      have Hw9 := Lib.hid (bt Hw6.out Hbw.out)
      rw [hv3]
      obtain ⟨b, hb1, hb2⟩ : ∃ b : Bool, ((k : Int) == 0) = b ∧ (L == M) = b := by
        by_cases h : L = M
        · have h0 := Hnil.out.2 h
          have hk0 : k = 0 := by have := Hn.out; rw [h0] at this; simpa using this.symm
          exact ⟨true, by rw [hk0]; rfl, by rw [h]; simp⟩
        · refine ⟨false, ?_, by simpa using h⟩
          have hk0 : k ≠ 0 := fun e => h (Hnil.out.1 (List.eq_nil_of_length_eq_zero (by rw [Hn.out]; exact e)))
          simp; omega
      have Hb2 := Lib.hid hb2
      clear e1 hv3 h31 h32 HB hb2
      generalize (l.map (fun p => p.data.length)).sum = S at *
      generalize hw9 : wr = w9 at *
      clear hw9
      cases b
      all_goals
        go_wp2_with fail
        refine WH.start (S := fun w' : World => Below w9.heap.size w9 w') (List.replicate 31 false) 31 rfl rfl (by kernel_rfl) (bdrew w9 1) (fun hSn => ?_)
        simp only [List.replicate]
        obtain ⟨wS, hwS⟩ : ∃ x, w9.drew = x := ⟨_, rfl⟩
        rw [hwS] at hSn ⊢
        clear hwS
        refine WH.take 0 _ _ rfl (by kernel_rfl) (fun _ _ _ h => h) rfl (by assumption) (fun w' hSw => exec_load_blk _ _ rfl _ rfl _ _ (HX9.out.ext hSw) _ (Try.underlying27) rfl (Try.blockFits HL.out)) ?_; simp only [Act.put, List.setIfInBounds_toArray, List.set_cons_zero, List.set_cons_succ]
        refine WH.take 1 _ ?_ rfl (by kernel_rfl) (fun _ _ _ h => h) rfl (by assumption) ?_ ?_; rotate_left; (focus (intro w hSw; (try dsimp only at hSw); (first | (go_simp; done) | (go_simp; with_reducible rfl)))); simp only [Act.put, List.setIfInBounds_toArray, List.set_cons_zero, List.set_cons_succ]
        refine WH.take 3 _ _ rfl (by kernel_rfl) (fun _ _ _ h => h) rfl (by assumption) (fun w' hSw => exec_load_blk _ _ rfl _ rfl _ _ (HY9.out.ext hSw) _ (Try.underlying27) rfl (Try.blockFits HN.out)) ?_; simp only [Act.put, List.setIfInBounds_toArray, List.set_cons_zero, List.set_cons_succ]
        refine WH.only 2 _ rfl (by kernel_rfl) rfl (fun K hK => ?_); go_simp; refine (pall_any L HL.out A k c l Hn.out (by omega) _ (HR9.out.below hSn)).mono ?_; rintro e wa ⟨rfl, hba⟩; go_simp
        rw [Hlead.out]
        have hSn := bt hSn hba; refine hK _ _ hSn ?_; clear hK; clear K; simp only [List.set_cons_zero, List.set_cons_succ]
        refine WH.take 4 _ _ rfl (by kernel_rfl) (fun _ _ _ h => h) rfl (by assumption) (fun w' hSw => exec_eql_arr _ _ _ _ rfl Try.blockGuard _ _ Try.underlying27 Try.underlying5 Try.byteSize (M) (M) rfl rfl HN.out HN.out true (by simp)) ?_; simp only [Act.put, List.setIfInBounds_toArray, List.set_cons_zero, List.set_cons_succ]
        refine WH.take 5 _ ?_ rfl (by kernel_rfl) (fun _ _ _ h => h) rfl (by assumption) ?_ ?_; rotate_left; (focus (intro w hSw; (try dsimp only at hSw); (first | (go_simp; done) | (go_simp; with_reducible rfl)))); simp only [Act.put, List.setIfInBounds_toArray, List.set_cons_zero, List.set_cons_succ]
        refine WH.take 6 _ _ rfl (by kernel_rfl) (fun _ _ _ h => h) rfl (by assumption) (fun w' hSw => exec_load_blk _ _ rfl _ rfl _ _ (HY9.out.ext hSw) _ (Try.underlying27) rfl (Try.blockFits HN.out)) ?_; simp only [Act.put, List.setIfInBounds_toArray, List.set_cons_zero, List.set_cons_succ]
        refine WH.take 7 _ ?_ rfl (by kernel_rfl) (fun _ _ _ h => h) rfl (by assumption) ?_ ?_; rotate_left; (focus (intro w hSw; (try dsimp only at hSw); (first | (go_simp; done) | (go_simp; with_reducible rfl)))); simp only [Act.put, List.setIfInBounds_toArray, List.set_cons_zero, List.set_cons_succ]
        refine WH.take 9 _ _ rfl (by kernel_rfl) (fun _ _ _ h => h) rfl (by assumption) (fun w' hSw => exec_load_blk _ _ rfl _ rfl _ _ (HX9.out.ext hSw) _ (Try.underlying27) rfl (Try.blockFits HL.out)) ?_; simp only [Act.put, List.setIfInBounds_toArray, List.set_cons_zero, List.set_cons_succ]
        refine WH.only 8 _ rfl (by kernel_rfl) rfl (fun K hK => ?_); go_simp; refine (pall_any M HN.out A3 k c3 (l.map (wasP L)) Hn3.out (by omega) _ (HB9.out.below hSn)).mono ?_; rintro e wb ⟨rfl, hbb⟩; go_simp
        rw [Hback.out]
        have hSn := bt hSn hbb; refine hK _ _ hSn ?_; clear hK; clear K; simp only [List.set_cons_zero, List.set_cons_succ]
        refine WH.take 10 _ _ rfl (by kernel_rfl) (fun _ _ _ h => h) rfl (by assumption) (fun w' hSw => exec_eql_arr _ _ _ _ rfl Try.blockGuard _ _ Try.underlying27 Try.underlying5 Try.byteSize (L) (L) rfl rfl HL.out HL.out true (by simp)) ?_; simp only [Act.put, List.setIfInBounds_toArray, List.set_cons_zero, List.set_cons_succ]
        refine WH.take 11 _ ?_ rfl (by kernel_rfl) (fun _ _ _ h => h) rfl (by assumption) ?_ ?_; rotate_left; (focus (intro w hSw; (try dsimp only at hSw); (first | (go_simp; done) | (go_simp; with_reducible rfl)))); simp only [Act.put, List.setIfInBounds_toArray, List.set_cons_zero, List.set_cons_succ]
        refine WH.take 12 _ ?_ rfl (by kernel_rfl) (fun _ _ _ h => h) rfl (by assumption) ?_ ?_; rotate_left; (focus (intro w hSw; (try dsimp only at hSw); (first | (go_simp; done) | (go_simp; with_reducible rfl)))); simp only [Act.put, List.setIfInBounds_toArray, List.set_cons_zero, List.set_cons_succ]
        refine WH.take 13 _ ?_ rfl (by kernel_rfl) (fun _ _ _ h => h) rfl (by assumption) ?_ ?_; rotate_left; (focus (intro w hSw; (try dsimp only at hSw); (first | (go_simp; done) | (go_simp; with_reducible rfl)))); simp only [Act.put, List.setIfInBounds_toArray, List.set_cons_zero, List.set_cons_succ]
        refine WH.take 15 _ ?_ rfl (by kernel_rfl) (fun _ _ _ h => h) rfl (by assumption) ?_ ?_; rotate_left; (focus (intro w hSw; (try dsimp only at hSw); (first | (go_simp; done) | (go_simp; with_reducible rfl)))); simp only [Act.put, List.setIfInBounds_toArray, List.set_cons_zero, List.set_cons_succ]
        refine WH.only 14 _ rfl (by kernel_rfl) rfl (fun K hK => ?_); go_simp; refine (pbytes_any A k c l Hn.out (by omega) _ (HR9.out.below hSn)).mono ?_; rintro e wc2 ⟨rfl, hbc⟩; go_simp
        rw [Hsum.out]
        have hSn := bt hSn hbc; refine hK _ _ hSn ?_; clear hK; clear K; simp only [List.set_cons_zero, List.set_cons_succ]
        refine WH.take 16 _ ?_ rfl (by kernel_rfl) (fun _ _ _ h => h) rfl (by assumption) ?_ ?_; rotate_left; (focus (intro w hSw; (try dsimp only at hSw); (first | (go_simp; done) | (go_simp; with_reducible rfl)))); simp only [Act.put, List.setIfInBounds_toArray, List.set_cons_zero, List.set_cons_succ]
        refine WH.take 17 _ ?_ rfl (by kernel_rfl) (fun _ _ _ h => h) rfl (by assumption) ?_ ?_; rotate_left; (focus (intro w hSw; (try dsimp only at hSw); (first | (go_simp; done) | (go_simp; with_reducible rfl)))); simp only [Act.put, List.setIfInBounds_toArray, List.set_cons_zero, List.set_cons_succ]
        refine WH.take 18 _ ?_ rfl (by kernel_rfl) (fun _ _ _ h => h) rfl (by assumption) ?_ ?_; rotate_left; (focus (intro w hSw; (try dsimp only at hSw); (first | (go_simp; done) | (go_simp; with_reducible rfl)))); simp only [Act.put, List.setIfInBounds_toArray, List.set_cons_zero, List.set_cons_succ]
        refine WH.take 19 _ ?_ rfl (by kernel_rfl) (fun _ _ _ h => h) rfl (by assumption) ?_ ?_; rotate_left; (focus (intro w hSw; (try dsimp only at hSw); (first | (go_simp; done) | (go_simp; with_reducible rfl)))); simp only [Act.put, List.setIfInBounds_toArray, List.set_cons_zero, List.set_cons_succ]
        refine WH.take 20 _ ?_ rfl (by kernel_rfl) (fun _ _ _ h => h) rfl (by assumption) ?_ ?_; rotate_left; (focus (intro w hSw; (try dsimp only at hSw); (first | (go_simp; done) | (go_simp; with_reducible rfl)))); simp only [Act.put, List.setIfInBounds_toArray, List.set_cons_zero, List.set_cons_succ]
        refine WH.take 21 _ ?_ rfl (by kernel_rfl) (fun _ _ _ h => h) rfl (by assumption) ?_ ?_; rotate_left; (focus (intro w hSw; (try dsimp only at hSw); (first | (go_simp; done) | (go_simp; with_reducible rfl)))); simp only [Act.put, List.setIfInBounds_toArray, List.set_cons_zero, List.set_cons_succ]
        refine WH.take 22 _ _ rfl (by kernel_rfl) (fun _ _ _ h => h) rfl (by assumption) (fun w' hSw => exec_load_blk _ _ rfl _ rfl _ _ (HX9.out.ext hSw) _ (Try.underlying27) rfl (Try.blockFits HL.out)) ?_; simp only [Act.put, List.setIfInBounds_toArray, List.set_cons_zero, List.set_cons_succ]
        refine WH.take 23 _ _ rfl (by kernel_rfl) (fun _ _ _ h => h) rfl (by assumption) (fun w' hSw => exec_load_blk _ _ rfl _ rfl _ _ (HY9.out.ext hSw) _ (Try.underlying27) rfl (Try.blockFits HN.out)) ?_; simp only [Act.put, List.setIfInBounds_toArray, List.set_cons_zero, List.set_cons_succ]
        refine WH.take 24 _ _ rfl (by kernel_rfl) (fun _ _ _ h => h) rfl (by assumption) (fun w' hSw => exec_eql_arr _ _ _ _ rfl Try.blockGuard _ _ Try.underlying27 Try.underlying5 Try.byteSize L M rfl rfl HL.out HN.out _ Hb2.out) ?_; simp only [Act.put, List.setIfInBounds_toArray, List.set_cons_zero, List.set_cons_succ]
        refine WH.take 25 _ ?_ rfl (by kernel_rfl) (fun _ _ _ h => h) rfl (by assumption) ?_ ?_; rotate_left; (focus (intro w hSw; (try dsimp only at hSw); (first | (go_simp; done) | (go_simp; with_reducible rfl)))); simp only [Act.put, List.setIfInBounds_toArray, List.set_cons_zero, List.set_cons_succ]
        refine WH.take 26 _ ?_ rfl (by kernel_rfl) (fun _ _ _ h => h) rfl (by assumption) ?_ ?_; rotate_left; (focus (intro w hSw; (try dsimp only at hSw); (first | (go_simp; done) | (go_simp; with_reducible rfl)))); simp only [Act.put, List.setIfInBounds_toArray, List.set_cons_zero, List.set_cons_succ]
        refine WH.take 27 _ ?_ rfl (by kernel_rfl) (fun _ _ _ h => h) rfl (by assumption) ?_ ?_; rotate_left; (focus (intro w hSw; (try dsimp only at hSw); (first | (go_simp; done) | (go_simp; with_reducible rfl)))); simp only [Act.put, List.setIfInBounds_toArray, List.set_cons_zero, List.set_cons_succ]
        refine WH.only 28 _ rfl (by kernel_rfl) rfl (fun K hK => ?_); go_simp; refine (works07_any _).mono ?_; rintro e wd ⟨rfl, hbd⟩; go_simp
        have hSn := bt hSn hbd; refine hK _ _ hSn ?_; clear hK; clear K; simp only [List.set_cons_zero, List.set_cons_succ]
        refine WH.take 29 _ ?_ rfl (by kernel_rfl) (fun _ _ _ h => h) rfl (by assumption) ?_ ?_; rotate_left; (focus (intro w hSw; (try dsimp only at hSw); (first | (go_simp; done) | (go_simp; with_reducible rfl)))); simp only [Act.put, List.setIfInBounds_toArray, List.set_cons_zero, List.set_cons_succ]
        refine WH.take 30 _ ?_ rfl (by kernel_rfl) (fun _ _ _ h => h) rfl (by assumption) ?_ ?_; rotate_left; (focus (intro w hSw; (try dsimp only at hSw); (first | (go_simp; done) | (go_simp; with_reducible rfl)))); simp only [Act.put, List.setIfInBounds_toArray, List.set_cons_zero, List.set_cons_succ]
        refine WH.done (by kernel_rfl) ?_
        have Hfin := Lib.hid (bt Hw9.out hSn)
        clear hSn
        go_wp2_with fail
        go_ret
        exact ⟨rfl, Hfin.out⟩

end Go.Proofs.Ytnlcpkffaiegaaa
