/-
  Contracts of package roll: laid, ids.
-/
import Derived.Test.YtckkdfpmibipfaaCg11
import Derived.Test.YtckkdfpmibipfaaRollA
import Derived.Test.YtckkdfpmibipfaaZcA
namespace Go.Proofs.Ytckkdfpmibipfaa
open Go.RowKit

theorem laidC_at {L : List UInt8} {l : List Cg} {k : Nat} (hk : k < l.length) : laidC L (l.take (k + 1)) = layP (laidC L (l.take k)) l[k].p := by
  rw [List.take_succ_eq_append_getElem hk, laidC_append]
  rfl

set_option maxRecDepth 100000 in
set_option maxHeartbeats 4000000 in
theorem laid_any (L : List UInt8) (hL : L.length = 256) (A : Option Addr) (n cap : Nat) (l : List Cg) (hn : l.length = n) (hm : n ≤ 4096) (w : World) (hr : RdL RdC w A 5 l) :
    Calls Try.prog 29 #[.agg (bcells L), .slice A n cap] w (RetA w (laidC L l)) := by
  have HL := Lib.hid hL
  have Hn := Lib.hid hn
  have Hr := Lib.hid hr
  clear hL hn hr
  go_enter Try.func29, Try.ntmps29
  go_wp2_with (refine wpList_box_row rfl _ _ rfl _ rfl ?_)
  apply Stop.go; intro w1 Hg1 Hb1
  go_wp2_with (refine wpList_alloc_row rfl _ rfl _ Try.blockZero ?_)
  apply Stop.go; intro w2 Hg2 Hb2
  have Hy2 := Lib.hid (Hb1.out.ext Hg2.out.1)
  have Hw2 := Lib.hid (bt Hg1.out.1 Hg2.out.1)
  have Z := Lib.hid Hg1.out.2
  go_wp2_with fail
  go_loopw [9] (fun i wr => ∃ k : Nat, k ≤ n ∧ i = .int .i64 k ∧ Blk wr w.heap.size 28 (bcells (laidC L (l.take k))) ∧ Blk wr w1.heap.size 28 (bcells (zeros 256)) ∧ Below w.heap.size w wr) (fun i _ => n - (intOf i).toNat)
  case atStart => exact ⟨0, Nat.zero_le _, rfl, Hy2.out, Hb2.out, Hw2.out⟩
  case round =>
    obtain ⟨k, hk, rfl, hy, hz, hbw⟩ := hrel
    have Hy := Lib.hid hy
    have Hz := Lib.hid hz
    have Hbw := Lib.hid hbw
    clear hy hz hbw
    by_cases hlt : k < n
    · have d0 : decide ((k : Int) < n) = true := by simpa using hlt
      have hkl : k < l.length := by rw [Hn.out]; exact hlt
      have z1 : (k : Int) < n := by omega
      obtain ⟨ad, Ad, nd, cd, An, nn, cn, rfl, hcv, h0, h1, h2, h3, h4⟩ := (Hr.out.below Hbw.out).cg hkl
      have C0 := Lib.hid h0
      have C1 := Lib.hid h1
      have C2 := Lib.hid h2
      have C3 := Lib.hid h3
      have C4 := Lib.hid h4
      have Hcv := Lib.hid hcv
      have Ht := Lib.hid (laidC_at (L := L) hkl)
      have HM := Lib.hid (laidC_len (l.take k) HL.out)
      clear h0 h1 h2 h3 h4 hcv
      generalize l[k] = c at *
      generalize laidC L (l.take k) = M at *
      go_wp2_with (first | refine wpList_load_five rfl _ _ rfl (ad.add (k * 5)) rfl _ _ _ _ _ C0.out C1.out C2.out C3.out C4.out _ Try.underlying59 Try.chgSize ?_ | refine wpList_alloc_row rfl _ rfl _ Try.chgZero ?_); apply Stop.go; intro w3 Hg3 Hb3; go_wp2_with (refine wpList_store_arr rfl _ _ _ rfl _ #[.int .i64 c.id, .int .i64 c.block, .int .i64 c.p.at_, .slice Ad nd cd, .slice An nn cn] rfl rfl _ _ Hb3.out Try.chgSize rfl (by simp [Value.oneCell']) ?_); apply Stop.go; intro w4 Ho4 Hb4; have D4 := Lib.hid (bonly Hg3.out.1 Ho4.out (Nat.le_refl _))
      have Hy4 := Lib.hid (Hy.out.ext D4.out)
      have Hz4 := Lib.hid (Hz.out.ext D4.out)
      have Hp4 := Lib.hid (Hcv.out.below D4.out).p
      have HM2 := Lib.hid (layP_len c.p HM.out)
      go_wp2_with (first | refine wpList_load_arr rfl _ _ rfl _ rfl _ _ Hy4.out _ _ Try.underlying28 (Try.blockFits HM.out) ?_ | refine wpList_load_pair rfl _ _ rfl ⟨wr.heap.size, 2, none⟩ rfl (.int .i64 c.p.at_) (.slice Ad nd cd) Hb4.out.five.2.2.1 Hb4.out.five.2.2.2.2.2 _ Try.underlying57 Try.patchSize ?_)
      refine (play_any M HM.out c.p Ad nd cd _ Hp4.out).mono ?_; rintro e w5 ⟨rfl, hb5⟩
      have Hb5 := Lib.hid hb5
      have Hy5 := Lib.hid (Hy4.out.ext hb5)
      have Hz5 := Lib.hid (Hz4.out.ext hb5)
      clear hb5
      go_wp2_with (refine wpList_store_arr rfl _ _ _ rfl _ (bcells (layP M c.p)) rfl rfl _ _ Hy5.out (Try.blockFits HM2.out) (by rw [bcells_size, bcells_size, HM.out, HM2.out]) (oneCell_bcells _) ?_)
      apply Stop.go; intro w6 Ho6 Hb6
      go_wp2_with fail
      go_roundw
      case rel => exact ⟨k + 1, by omega, by go_num, by rw [Ht.out]; exact Hb6.out, Hz5.out.only Ho6.out (by have := Z.out; omega), bonly (bt (bt Hbw.out D4.out) Hb5.out) Ho6.out (Nat.le_refl _)⟩
      case measure => simp [intOf]; omega
    · have d0 : decide ((k : Int) < n) = false := by simpa using hlt
      have HX := Lib.hid (show laidC L (l.take k) = laidC L l by rw [List.take_of_length_le (by rw [Hn.out]; omega)])
      rw [HX.out] at Hy
      have HM := Lib.hid (laidC_len l HL.out)
      go_wp2_with (first | refine wpList_load_arr rfl _ _ rfl _ rfl _ _ Hy.out _ _ Try.underlying28 (Try.blockFits HM.out) ?_ | refine wpList_store_arr rfl _ _ _ rfl _ (bcells (laidC L l)) rfl rfl _ _ Hz.out (Try.blockFits HM.out) (by rw [bcells_size, bcells_size, HM.out, zeros_len]) (oneCell_bcells _) ?_)
      apply Stop.go; intro w6 Ho6 Hb6
      go_wp2_with ((with_reducible show bodyPost _ _ _ _ _ _); refine bodyPost_cell rfl _ rfl _ _ Hb6.out _ _ Try.underlying28 (Try.blockFits HM.out) rfl ?_)
      apply Stop.go
      exact ⟨rfl, bonly Hbw.out Ho6.out (by have := Z.out; omega)⟩

theorem Try.intSizeR : (Try.prog.info? 3).map (·.size) = some 1 := by kernel_rfl
/-- The ID of the change at a place. -/
def idAt (l : List Cg) (k : Nat) : Int := (l.getD k default).id
theorem zc_read {w : World} {g n : Nat} {e : TypeId} {z : Nat → Int} {ss : List Int} (hg : Blk w g e (zc n z)) (hn : ss.length = n) (hz : ∀ k (h : k < ss.length), ss[k] = z k) : RC w (some ⟨g, 0, none⟩) (ivals ss) := fun k hk => by
  rw [ivals_len] at hk
  refine ⟨_, rfl, ?_⟩
  rw [addr_add0, hg.cell, zc_get z (by omega)]
  simp [ivals, hz k hk]
set_option maxRecDepth 100000 in
set_option maxHeartbeats 4000000 in
theorem ids_any (A : Option Addr) (n cap : Nat) (l : List Cg) (hn : l.length = n) (hm : n ≤ 4096) (w : World) (hr : RdL RdC w A 5 l) :
    Calls Try.prog 32 #[.slice A n cap] w (RetI w (l.map (·.id))) := by
  have Hn := Lib.hid hn
  have Hr := Lib.hid hr
  clear hn hr
  go_enter Try.func32, Try.ntmps32
  go_wp2_with (refine wpList_make_zero rfl _ _ _ _ rfl Try.underlying30 (.int .i64 0) 8 Try.infoInt rfl .i64 .i64 _ _ n rfl rfl rfl rfl (by omega) (by omega) (zc n (fun _ => 0)) (zc_zero n) ?_)
  apply Stop.go; intro w1 Hg1 Hb1
  generalize hg : w.heap.size = g at Hb1 ⊢
  have Hgl := Lib.hid hg
  clear hg
  go_wp2_with fail
  go_loopw [11] (fun i wr => ∃ k : Nat, k ≤ n ∧ i = .int .i64 k ∧ Blk wr g 3 (zc n (fun i => if i < k then idAt l i else 0)) ∧ Below w.heap.size w wr) (fun i _ => n - (intOf i).toNat)
  case atStart => exact ⟨0, Nat.zero_le _, rfl, by have := Hb1.out; rw [zc_congr (z := fun _ => 0) (fun k _ => by rw [if_neg (Nat.not_lt_zero k)])]; exact this, Hg1.out.1⟩
  case round =>
    obtain ⟨k, hk, rfl, hbk, hbw⟩ := hrel
    have Hbk := Lib.hid hbk
    have Hbw := Lib.hid hbw
    clear hbk hbw
    by_cases hlt : k < n
    · have d0 : decide ((k : Int) < n) = true := by simpa using hlt
      have hkl : k < l.length := by rw [Hn.out]; exact hlt
      have z1 : (k : Int) < n := by omega
      obtain ⟨ad, Ad, nd, cd, An, nn, cn, rfl, hcv, h0, h1, h2, h3, h4⟩ := (Hr.out.below Hbw.out).cg hkl
      have C0 := Lib.hid h0
      have C1 := Lib.hid h1
      have C2 := Lib.hid h2
      have C3 := Lib.hid h3
      have C4 := Lib.hid h4
      clear h0 h1 h2 h3 h4 hcv
      have HE := Lib.hid (show idAt l k = l[k].id by unfold idAt; simp [List.getD, hkl])
      have HS := Lib.hid (zc_step n (idAt l) k)
      rw [HE.out] at HS
      generalize l[k] = c at *
      go_wp2_with (first | refine wpList_load_five rfl _ _ rfl (ad.add (k * 5)) rfl _ _ _ _ _ C0.out C1.out C2.out C3.out C4.out _ Try.underlying59 Try.chgSize ?_ | refine wpList_alloc_row rfl _ rfl _ Try.chgZero ?_); apply Stop.go; intro w3 Hg3 Hb3; go_wp2_with (refine wpList_store_arr rfl _ _ _ rfl _ #[.int .i64 c.id, .int .i64 c.block, .int .i64 c.p.at_, .slice Ad nd cd, .slice An nn cn] rfl rfl _ _ Hb3.out Try.chgSize rfl (by simp [Value.oneCell']) ?_); apply Stop.go; intro w4 Ho4 Hb4; have D4 := Lib.hid (bonly Hg3.out.1 Ho4.out (Nat.le_refl _))
      have c1 : w4.cell? ⟨wr.heap.size, 0, none⟩ = some (.int .i64 c.id) := Hb4.out.five.1
      have Hk4 := Lib.hid (Hbk.out.ext D4.out)
      go_wp2_with (refine wpList_store_cell rfl _ _ _ rfl Try.intSizeR g k rfl (.int .i64 c.id) rfl rfl rfl _ _ Hk4.out (by rw [zc_size]; exact hlt) ?_)
      apply Stop.go; intro w5 Ho5 Hb5
      rw [HS.out] at Hb5
      go_wp2_with fail
      go_roundw
      case rel => exact ⟨k + 1, by omega, by go_num, Hb5.out, bonly (bt Hbw.out D4.out) Ho5.out (Nat.le_of_eq Hgl.out)⟩
      case measure => simp [intOf]; omega
    · have d0 : decide ((k : Int) < n) = false := by simpa using hlt
      have hblk := Hbk.out
      rw [zc_congr (z := idAt l) (fun i hi => by rw [if_pos (by omega)])] at hblk
      have hread := zc_read (ss := l.map (·.id)) hblk (by simpa using Hn.out) (fun k hk => by
        have hk' : k < l.length := by simpa using hk
        simp [idAt, List.getD, hk'])
      have Hread := Lib.hid hread
      clear hblk hread
      go_wp2_with fail
      go_ret
      exact ⟨_, _, _, rfl, by simpa using Hn.out, Nat.le_refl _, by unfold maxLen; omega, Hread.out, Hbw.out⟩

end Go.Proofs.Ytckkdfpmibipfaa
