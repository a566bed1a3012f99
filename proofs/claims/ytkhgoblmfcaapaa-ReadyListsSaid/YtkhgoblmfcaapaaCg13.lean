/-
  The contract of package ready's Blocks, by the library's contracts of Sort and Compact.
-/
import Derived.Test.YtkhgoblmfcaapaaCg5
import Derived.Test.YtkhgoblmfcaapaaShelf
import Derived.Test.YtkhgoblmfcaapaaBlkA
import Derived.Test.YtkhgoblmfcaapaaZcA
import Derived.Sort.OwnSortedInts
import Derived.Sort.Grow
import Derived.Lib.OwnBridge
namespace Go.Proofs.Ytkhgoblmfcaapaa
open Go.RowKit Go.Shelf Go.Sort

theorem Try.intSize13 : (Try.prog.info? 3).map (·.size) = some 1 := by kernel_rfl
/-- What the two calls of the library leave. -/
theorem sorted_ownI {w w1 : World} {g cap n nn q : Nat} {os : Array Obj} {ss : List Int} (hown : w1.ownsRow w.heap.size 3 1 (.slice (some ⟨g, 0, none⟩) n cap) n (ss.map (Value.int .i64))) (hbel : Below w.heap.size w w1) (hbg : w.heap.size ≤ g) (hlen : ss.length = n) :
    (putRow (Value.int .i64) (Sort.ahead (grow (putRow (Value.int .i64) (Sort.ahead w1 nn) g 0 (ss.mergeSort fun x y => decide (x ≤ y)).toArray) os) q) g 0 (sortI ss ++ List.replicate (n - (sortI ss).length) 0).toArray).ownsRow w.heap.size 3 1 (.slice (some ⟨g, 0, none⟩) (sortI ss).length cap) (sortI ss).length ((sortI ss).map (Value.int .i64)) ∧
    Below w.heap.size w (putRow (Value.int .i64) (Sort.ahead (grow (putRow (Value.int .i64) (Sort.ahead w1 nn) g 0 (ss.mergeSort fun x y => decide (x ≤ y)).toArray) os) q) g 0 (sortI ss ++ List.replicate (n - (sortI ss).length) 0).toArray) := by
  have hl2 : (ss.mergeSort fun x y => decide (x ≤ y)).length = ss.length := List.length_mergeSort ss
  have hle : (sortI ss).length ≤ (ss.mergeSort fun x y => decide (x ≤ y)).length := Lib.compact_length_le _
  subst hlen
  rcases hown.2 with ⟨h0, _⟩ | ⟨g', cap', cur, hv, hbase, hb, h1, h2, h3, h4⟩
  · cases h0
  cases hv
  have hs := ownsRow_sortedI (n := nn) (os := os) (ts := ss.mergeSort fun x y => decide (x ≤ y)) hl2 hbase hb h1 h2 h3
  have hc := Lib.ownsRow_putRow (q := q) (k := (sortI ss).length) (ys := sortI ss ++ List.replicate (ss.length - (sortI ss).length) 0) hs (by simp; omega) (by omega)
  rw [List.take_left] at hc
  exact ⟨hc, Lib.below_putRow (hbel.grown (grownBy_sortedI _) hbel.size (fun j hj => by cases hj; exact hbase)) hbg⟩
theorem zc_own {w : World} {B g n : Nat} {e : TypeId} {z : Nat → Int} {ss : List Int} (hB : B ≤ g) (hg : Blk w g e (zc n z)) (hn : ss.length = n) (hz : ∀ k (h : k < ss.length), ss[k] = z k) (hm : n ≤ maxLen) : w.ownsRow B e 1 (.slice (some ⟨g, 0, none⟩) n n) n (ss.map (Value.int .i64)) := by
  refine ⟨by simp [hn], Or.inr ⟨g, n, _, rfl, hB, hg, Nat.le_refl _, hm, by rw [zc_size, Nat.mul_one], ?_⟩⟩
  apply List.ext_getElem?
  intro k
  rw [Nat.mul_one]
  by_cases hk : k < n
  · rw [List.getElem?_take_of_lt hk, Array.getElem?_toList, zc_get z hk, List.getElem?_map, List.getElem?_eq_getElem (by omega), Option.map_some, hz k (by omega)]
  · rw [List.getElem?_eq_none (by simp; omega), List.getElem?_eq_none (by simp; omega)]

theorem own_of_sortI {w : World} {B : Nat} {e : TypeId} {u : Value} {l : List Int} (h : w.ownsRow B e 1 u (sortI l).length ((sortI l).map (Value.int .i64))) : OwnC w B e u (ivals (sortI l)) := by
  unfold OwnC
  rw [ivals_len]
  exact h
/-- The block of the change at a place. -/
def blkAt (l : List Cg) (k : Nat) : Int := (l.getD k default).block
set_option maxRecDepth 100000 in
set_option maxHeartbeats 4000000 in
theorem pblocks_any (A : Option Addr) (n cap : Nat) (l : List Cg) (hn : l.length = n) (hm : n ≤ 4096) (w : World) (hr : RdL RdC w A 5 l) :
    Calls Try.prog 26 #[.slice A n cap] w (RetI w (blocksC l)) := by
  have Hn := Lib.hid hn
  have Hr := Lib.hid hr
  clear hn hr
  go_enter Try.func26, Try.ntmps26
  go_wp2_with (refine wpList_make_zero rfl _ _ _ _ rfl Try.underlying31 (.int .i64 0) 8 Try.infoInt rfl .i64 .i64 _ _ n rfl rfl rfl rfl (by omega) (by omega) (zc n (fun _ => 0)) (zc_zero n) ?_)
  apply Stop.go; intro w1 Hg1 Hb1
  generalize hg : w.heap.size = g at Hb1 ⊢
  have Hgl := Lib.hid hg
  clear hg
  go_wp2_with fail
  go_loopw [11] (fun i wr => ∃ k : Nat, k ≤ n ∧ i = .int .i64 k ∧ Blk wr g 3 (zc n (fun i => if i < k then blkAt l i else 0)) ∧ Below w.heap.size w wr) (fun i _ => n - (intOf i).toNat)
  case atStart => exact ⟨0, Nat.zero_le _, rfl, by have := Hb1.out; rw [zc_congr (z := fun _ => 0) (fun k _ => by rw [if_neg (Nat.not_lt_zero k)])]; exact this, Hg1.out.1⟩
  case round =>
    obtain ⟨k, hk, rfl, hbk, hbw⟩ := hrel
    have Hbk := Lib.hid hbk
    have Hbw := Lib.hid hbw
    have Hk := Lib.hid hk
    clear hbk hbw
    by_cases hlt : k < n
    · have d0 : decide ((k : Int) < n) = true := by simpa using hlt
      have hkl : k < l.length := by rw [Hn.out]; exact hlt
      have z1 : (k : Int) < n := by omega
      obtain ⟨ad, Ad, nd, cd, An, nn, cn, rfl, hcv, h0, h1, h2, h3, h4⟩ := (Hr.out.below Hbw.out).cg hkl
      have C0 := Lib.hid h0
      have C1 := Lib.hid h1
      have C2 := Lib.hid h2
      have C3 := Lib.hid h3
      have C4 := Lib.hid h4
      clear h0 h1 h2 h3 h4 hcv
      have HE := Lib.hid (show blkAt l k = l[k].block by unfold blkAt; simp [List.getD, hkl])
      have HS := Lib.hid (zc_step n (blkAt l) k)
      rw [HE.out] at HS
      generalize l[k] = c at *
      go_wp2_with (first | refine wpList_load_five rfl _ _ rfl (ad.add (k * 5)) rfl _ _ _ _ _ C0.out C1.out C2.out C3.out C4.out _ Try.underlying39 Try.chgSize ?_ | refine wpList_alloc_row rfl _ rfl _ Try.chgZero ?_); apply Stop.go; intro w3 Hg3 Hb3; go_wp2_with (refine wpList_store_arr rfl _ _ _ rfl _ #[.int .i64 c.id, .int .i64 c.block, .int .i64 c.p.at_, .slice Ad nd cd, .slice An nn cn] rfl rfl _ _ Hb3.out Try.chgSize rfl (by simp [Value.oneCell']) ?_); apply Stop.go; intro w4 Ho4 Hb4; have D4 := Lib.hid (bonly Hg3.out.1 Ho4.out (Nat.le_refl _))
      have c1 : w4.cell? ⟨wr.heap.size, 1, none⟩ = some (.int .i64 c.block) := Hb4.out.five.2.1
      have Hk4 := Lib.hid (Hbk.out.ext D4.out)
      go_wp2_with (refine wpList_store_cell rfl _ _ _ rfl Try.intSize13 g k rfl (.int .i64 c.block) rfl rfl rfl _ _ Hk4.out (by rw [zc_size]; exact hlt) ?_)
      apply Stop.go; intro w5 Ho5 Hb5
      rw [HS.out] at Hb5
      go_wp2_with fail
      go_roundw
      case rel => exact ⟨k + 1, by omega, by go_num, Hb5.out, bonly (bt Hbw.out D4.out) Ho5.out (Nat.le_of_eq Hgl.out)⟩
      case measure => simp [intOf]; omega
    · have d0 : decide ((k : Int) < n) = false := by simpa using hlt
      have hblk := Hbk.out
      rw [zc_congr (z := blkAt l) (fun i hi => by rw [if_pos (by omega)])] at hblk
      have hown := zc_own (ss := l.map (·.block)) (Nat.le_of_eq Hgl.out) hblk (by simpa using Hn.out) (fun k hk => by
        have hk' : k < l.length := by simpa using hk
        simp [blkAt, List.getD, hk']) (by unfold maxLen; omega)
      have hlen : (l.map (·.block)).length = n := by simpa using Hn.out
      obtain ⟨g', cap', hv, hbg, hgl, hncap, hcm, -, hH⟩ := Lib.holds_of_ownsRow hown (by simp)
      injection hv with hv1 _ hv3
      injection hv1 with hv1
      injection hv1 with hv1
      subst hv1
      subst hv3
      have HF := Lib.hid (sortI_blocks l)
      generalize l.map (·.block) = ss at *
      have hsort := Any.slices_Sort_int laysSort g 0 n ss wr hH hgl (by omega)
      rw [hlen] at hsort
      have X := Lib.hid (And.intro hown (And.intro Hbw.out hH))
      have HSo := Lib.hid hsort
      have Hlen := Lib.hid hlen
      have Hgl2 := Lib.hid hgl
      clear hown hH hsort hblk hlen hncap hcm hbg hgl Hbk Hb1 Hg1
      go_wp2_with fail
      refine (HSo.out).mono ?_; rintro e w2 ⟨rfl, nn, os, rfl⟩
      have hl2 : (ss.mergeSort fun x y => decide (x ≤ y)).length = n := by rw [List.length_mergeSort]; exact Hlen.out
      have hH2 : Holds (Value.int .i64) (grow (putRow (Value.int .i64) (Sort.ahead wr nn) g 0 (ss.mergeSort fun x y => decide (x ≤ y)).toArray) os) g 0 (ss.mergeSort fun x y => decide (x ≤ y)).toArray :=
        holds_grow _ _ os g 0 _ (by have := Hgl2.out; simpa [putRow, mapBlock, Sort.ahead] using this) (holds_putRow _ _ g 0 _ _ (holds_ahead _ wr nn g 0 _ X.out.2.2) (by simp))
      have hcomp := Any.slices_Compact_int laysCompact g 0 n (ss.mergeSort fun x y => decide (x ≤ y)) _ hH2 (by omega) (by omega)
      rw [hl2] at hcomp
      have HCo := Lib.hid hcomp
      have Hfin : Hid (∀ q, _) := Lib.hid fun q => sorted_ownI (q := q) (nn := nn) (os := os) X.out.1 X.out.2.1 (Nat.le_of_eq Hgl.out) Hlen.out
      clear hH2 hcomp hl2
      generalize grow (putRow (Value.int .i64) (Sort.ahead wr nn) g 0 (ss.mergeSort fun x y => decide (x ≤ y)).toArray) os = w2 at *
      go_wp2_with fail
      refine (HCo.out).mono ?_; rintro e w3 ⟨rfl, q, rfl⟩
      go_wp2_with fail
      go_ret
      have h1 := (Hfin.out q).1
      have h2 := (Hfin.out q).2
      rw [← HF.out]
      exact (own_of_sortI h1).retI h2

end Go.Proofs.Ytkhgoblmfcaapaa
