/-
  Contracts of package pick's Rank and Spread.
-/
import Derived.Test.YtjceaaononbliaaSort4
import Derived.Test.YtjceaaononbliaaPickB
import Derived.Test.YtjceaaononbliaaPick1
import Derived.Test.YtjceaaononbliaaInts
import Derived.Test.YtjceaaononbliaaRealF
namespace Go.Proofs.Ytjceaaononbliaa
open Go.RowKit

theorem fc_congr {n : Nat} {f h : Nat → Nat} (e : ∀ k, k < n → f k = h k) : fc n f = fc n h := by
  apply Array.ext_getElem?
  intro i
  by_cases hi : i < n
  · rw [fc_get _ hi, fc_get _ hi, e i hi]
  · rw [Array.getElem?_eq_none (by rw [fc_size]; omega), Array.getElem?_eq_none (by rw [fc_size]; omega)]
theorem Try.infoInt : (Try.prog.info? 3).map (fun i => (i.zero, i.size, i.bytes)) = some (some (.int .i64 0), 1, 8) := by kernel_rfl
theorem Try.sizeInt : (Try.prog.info? 3).map (·.size) = some 1 := by kernel_rfl
theorem fc_zero (n : Nat) : (List.replicate n (Value.int .i64 0)).toArray = fc n (fun _ => 0) := by
  apply Array.ext_getElem?
  intro i
  by_cases hi : i < n
  · rw [fc_get _ hi]; simp [hi]
  · rw [Array.getElem?_eq_none (by simp; omega), Array.getElem?_eq_none (by rw [fc_size]; omega)]
theorem RC.only {w w' : World} {A : Option Addr} {l : List Value} (h : RC w A l) {g : Nat} (ho : Only w w' g) (hg : w.heap.size ≤ g ∨ ∀ k, k < l.length → ∀ ad, A = some ad → ad.block ≠ g) : RC w' A l := fun k hk => by
  obtain ⟨ad, e, hc⟩ := h k hk
  refine ⟨ad, e, ?_⟩
  have hne : (ad.add k).block ≠ g := by
    rcases hg with hg | hg
    · have := block_lt_of_cell hc; omega
    · rw [block_of_add]; exact hg k hk ad e
  have hb := ho.block _ hne
  rw [← hc]
  unfold World.cell?
  rw [hb]

/-- The test of Rank: of two places, the order of their numbers, turned round. -/
theorem rank1_any (A : Option Addr) (n cap : Nat) (l : List Nat) (hn : l.length = n) (hl : ∀ x ∈ l, x < 18446744073709551616) (b : Nat) (x y : Nat) (hx : x < n) (hy : y < n) (w : World) (hr : RC w A (fvals l)) (hb : w.cell? ⟨b, 0, none⟩ = some (.slice A n cap)) :
    Calls Try.prog 26 #[.int .i64 x, .int .i64 y, .pointer (some ⟨b, 0, none⟩)] w (RetQ (.int .i64 (rkC l x y)) w) := by
  have hxl : x < l.length := by omega
  have hyl : y < l.length := by omega
  obtain ⟨ad, rfl, hc⟩ := hr.flt x hxl
  obtain ⟨ad', e', hc'⟩ := hr.flt y hyl
  obtain rfl : ad = ad' := by simpa using e'
  have e1 : rkC l x y = ordN l[y] l[x] := by unfold rkC; simp [List.getD, hxl, hyl]
  rw [e1]
  have Hx := Lib.hid (hl _ (List.getElem_mem hxl))
  have Hy := Lib.hid (hl _ (List.getElem_mem hyl))
  generalize l[x] = u at *
  generalize l[y] = v at *
  have z1 : (x : Int) < n := by omega
  have z2 : (y : Int) < n := by omega
  obtain ⟨c, Hc⟩ : ∃ c, Hid (ordN v u = c) := ⟨_, Lib.hid rfl⟩
  have HO : Hid (∀ W, Calls Try.prog 18 #[.float .f64 v, .float .f64 u] W fun e w' => e = .returned (.int .i64 c) ∧ w' = W) := Lib.hid fun W => by
    have h := order_any v u Hy.out Hx.out W
    rwa [Hc.out] at h
  rw [Hc.out]
  clear e1 e' hr hl
  go_enter Try.func26, Try.ntmps26
  go_wp2_with fail
  go_quiet ((go_at_call 18; exact Calls.quiet_of_same (HO.out _)))
  go_wp2_with fail
  go_ret
  exact ⟨rfl, nq, rfl⟩

set_option maxHeartbeats 4000000 in
theorem rank_any (A : Option Addr) (n cap : Nat) (l : List Nat) (hn : l.length = n) (hm : n ≤ 1000) (hl : ∀ x ∈ l, x < 18446744073709551616) (w : World) (hr : RC w A (fvals l)) :
    Calls Try.prog 14 #[.slice A n cap] w fun e w' => ∃ g f, e = .returned (.slice (some ⟨g, 0, none⟩) n n) ∧ w.heap.size ≤ g ∧ Blk w' g 3 (fc n f) ∧ Ranked l n f ∧ Below w.heap.size w w' := by
  have Hn := Lib.hid hn
  have Hm := Lib.hid hm
  have Hl := Lib.hid hl
  have Hr := Lib.hid hr
  clear hn hm hl hr
  go_enter Try.func14, Try.ntmps14
  go_wp2_with (refine wpList_make_zero rfl _ _ _ _ rfl Try.underlying27 (.int .i64 0) 8 Try.infoInt rfl .i64 .i64 _ _ n rfl rfl rfl rfl (by have := Hm.out; omega) (by have := Hm.out; omega) (fc n (fun _ => 0)) (fc_zero n) ?_)
  apply Stop.go; intro w1 Hg1 Hb1
  have Hg0 := Lib.hid (Grew.alloc w (.cells #[.slice A n cap] 26))
  have Hc0 := Lib.hid ((Blk.new w 26 #[.slice A n cap]).ext Hg1.out.1)
  have Hgw := Lib.hid (bt Hg0.out.1 Hg1.out.1)
  generalize hg : w.heap.size + 1 = g at *
  have Hgl := Lib.hid (show w.heap.size < g by omega)
  clear Hg0 Hg1 hg
  go_wp2_with fail
  go_loopw [10] (fun u wr => ∃ k : Nat, k ≤ n ∧ u = .int .i64 k ∧ SF w1 g 3 n (fun i => if i < k then i else 0) wr) (fun u _ => n - (intOf u).toNat)
  case atStart => exact ⟨0, Nat.zero_le _, rfl, Only.refl _ _, by have := Hb1.out; rw [fc_congr (h := fun _ => 0) (fun k _ => by rw [if_neg (Nat.not_lt_zero k)])]; exact this⟩
  case round =>
    obtain ⟨k, hk, rfl, S1⟩ := hrel
    have HS1 := Lib.hid S1
    have Hk := Lib.hid hk
    clear S1 hk
    by_cases hlt : k < n
    · have d0 : decide (k < n) = true := by simpa using hlt
      obtain ⟨k', hk'⟩ : ∃ k', k' = k + 1 := ⟨_, rfl⟩
      have q1 : IntKind.i64.wrap ((k : Int) + 1) = k' := by have := Hm.out; rw [IntKind.wrap_i64]; omega
      have HK := Lib.hid (show k' = k + 1 ∧ k < n from ⟨hk', hlt⟩)
      have z1 : (k : Int) < n := by omega
      clear hk' hlt
      go_wp2_with (refine wpList_store_cell rfl _ _ _ rfl Try.sizeInt g k rfl (.int .i64 k) rfl rfl rfl _ _ HS1.out.blk (by rw [fc_size]; exact HK.out.2) ?_)
      apply Stop.go; intro w2 Ho2 Hb2
      go_wp2_with fail
      go_roundw
      case rel =>
        refine ⟨k', by have := HK.out; omega, rfl, HS1.out.only.trans Ho2.out, ?_⟩
        have h := Hb2.out
        rw [fc_set] at h
        rw [HK.out.1, fc_congr (h := upd (fun i => if i < k then i else 0) k k) (fun i _ => ?_)]
        · exact h
        · show (if i < k + 1 then i else 0) = (if i = k then k else (if i < k then i else 0))
          (repeat' split) <;> omega
      case measure => have := HK.out; simp [intOf]; omega
    · have d0 : decide (k < n) = false := by simpa using hlt
      have hkn : k = n := by have := Hk.out; omega
      have hbk := HS1.out.blk
      rw [fc_congr (h := fun i => i) (fun i hi => by rw [if_pos (by omega)])] at hbk
      have HSS : Hid (SF wr g 3 n (fun i => i) wr) := Lib.hid ⟨Only.refl _ _, hbk⟩
      have HBw := Lib.hid (bonly Hgw.out HS1.out.only (by have := Hgl.out; omega))
      have HCC : Hid (CmpC wr g n (.pointer (some ⟨w.heap.size, 0, none⟩)) (rkC l)) := Lib.hid (fun W hW x y hx hy => by
        have hB := bonly HBw.out hW (by have := Hgl.out; omega)
        have hblk := (Hc0.out.only HS1.out.only (by have := Hgl.out; omega)).only hW (by have := Hgl.out; omega)
        exact rank1_any A n cap l Hn.out Hl.out _ x y hx hy W (Hr.out.below hB) (by rw [hblk.cell]; rfl))
      have HRd := Lib.hid (sortStable_any wr g 3 n n _ (rkC l) (Rk l) HCC.out (rkC_tells l) (by have := Hm.out; omega) wr HSS.out)
      clear hlt hkn hbk HCC HSS
      go_wp2_with (go_at_call 25; refine HRd.out.mono ?_; rintro _ w3 ⟨rfl, f, hs, hv, S3⟩)
      go_ret
      exact ⟨g, f, rfl, by have := Hgl.out; omega, S3.blk, ⟨hs, hv⟩, bonly HBw.out S3.only (by have := Hgl.out; omega)⟩


/-! ### Spread -/
/-- The number in a place. -/
def fAt (l : List Nat) (k : Nat) : Nat := l.getD k 0
/-- Whole numbers by their places, as cells. -/
def zc (n : Nat) (z : Nat → Int) : Array Value := ((List.range n).map fun k => Value.int .i64 (z k)).toArray
theorem zc_size (n : Nat) (z : Nat → Int) : (zc n z).size = n := by simp [zc]
theorem zc_get {n k : Nat} (z : Nat → Int) (h : k < n) : (zc n z)[k]? = some (.int .i64 (z k)) := by simp [zc, h]
theorem zc_zero (n : Nat) : (List.replicate n (Value.int .i64 0)).toArray = zc n (fun _ => 0) := by
  apply Array.ext_getElem?
  intro i
  by_cases hi : i < n
  · rw [zc_get _ hi]; simp [hi]
  · rw [Array.getElem?_eq_none (by simp; omega), Array.getElem?_eq_none (by rw [zc_size]; omega)]
theorem zc_step (n : Nat) (z : Nat → Int) (k : Nat) : (zc n (fun i => if i < k then z i else 0)).setIfInBounds k (.int .i64 (z k)) = zc n (fun i => if i < k + 1 then z i else 0) := by
  apply Array.ext_getElem?
  intro i
  rw [Array.getElem?_setIfInBounds, zc_size]
  by_cases hi : i < n
  · rw [zc_get _ hi, zc_get _ hi]
    by_cases h : k = i
    · subst h; rw [if_pos rfl, if_pos hi, if_pos (by omega)]
    · rw [if_neg h]
      by_cases h2 : i < k
      · rw [if_pos h2, if_pos (by omega)]
      · rw [if_neg h2, if_neg (by omega)]
  · rw [Array.getElem?_eq_none (by rw [zc_size]; omega), Array.getElem?_eq_none (by rw [zc_size]; omega)]
    by_cases h : k = i
    · rw [if_pos h, if_neg (by omega)]
    · rw [if_neg h]
theorem zc_congr {n : Nat} {y z : Nat → Int} (e : ∀ k, k < n → y k = z k) : zc n y = zc n z := by
  apply Array.ext_getElem?
  intro i
  by_cases hi : i < n
  · rw [zc_get _ hi, zc_get _ hi, e i hi]
  · rw [Array.getElem?_eq_none (by rw [zc_size]; omega), Array.getElem?_eq_none (by rw [zc_size]; omega)]

theorem spread1_any (m : Int) (x : Nat) (hm1 : -9223372036854775808 ≤ m) (hm2 : m < 9223372036854775808) (hx : x < 18446744073709551616) (b : Nat) (w : World) (hb : w.cell? ⟨b, 0, none⟩ = some (.int .i64 m)) :
    Calls Try.prog 24 #[.float .f64 x, .pointer (some ⟨b, 0, none⟩)] w fun e w' => e = .returned (.int .i64 (atZ m x)) ∧ w' = w := by
  go_enter Try.func24, Try.ntmps24
  go_wp2_with fail
  refine (at_any m x hm1 hm2 hx _).mono ?_; rintro e w' ⟨rfl, rfl⟩
  go_wp2_with fail
  go_ret
  exact ⟨rfl, rfl⟩

set_option maxHeartbeats 2000000 in
theorem each_any (m : Int) (hm1 : -9223372036854775808 ≤ m) (hm2 : m < 9223372036854775808) (A : Option Addr) (n cap : Nat) (l : List Nat) (hn : l.length = n) (hm : n ≤ 1000) (hl : ∀ x ∈ l, x < 18446744073709551616) (b t : Nat) (w : World) (hr : RC w A (fvals l)) (hb : Blk w b t #[.int .i64 m]) :
    Calls Try.prog 23 #[.slice A n cap, .func (.func 24) #[] #[.pointer (some ⟨b, 0, none⟩)]] w fun e w' => ∃ g, e = .returned (.slice (some ⟨g, 0, none⟩) n n) ∧ w.heap.size ≤ g ∧ Blk w' g 3 (zc n fun k => atZ m (fAt l k)) ∧ Below w.heap.size w w' := by
  have Hn := Lib.hid hn
  have Hm := Lib.hid hm
  have Hl := Lib.hid hl
  have Hr := Lib.hid hr
  have Hb := Lib.hid hb
  clear hn hm hl hr hb
  go_enter Try.func23, Try.ntmps23
  go_wp2_with (refine wpList_make_zero rfl _ _ _ _ rfl Try.underlying27 (.int .i64 0) 8 Try.infoInt rfl .i64 .i64 _ _ n rfl rfl rfl rfl (by have := Hm.out; omega) (by have := Hm.out; omega) (zc n (fun _ => 0)) (zc_zero n) ?_)
  apply Stop.go; intro w1 Hg1 Hb1
  generalize hg : w.heap.size = g at *
  have Hgl := Lib.hid hg
  clear hg
  go_wp2_with fail
  go_loopw [13] (fun u wr => ∃ k : Nat, k ≤ n ∧ u = .int .i64 k ∧ Only w1 wr g ∧ Blk wr g 3 (zc n (fun i => if i < k then atZ m (fAt l i) else 0))) (fun u _ => n - (intOf u).toNat)
  case atStart => exact ⟨0, Nat.zero_le _, rfl, Only.refl _ _, by have := Hb1.out; rw [zc_congr (z := fun _ => 0) (fun k _ => by rw [if_neg (Nat.not_lt_zero k)])]; exact this⟩
  case round =>
    obtain ⟨k, hk, rfl, ho, hbk⟩ := hrel
    have Ho := Lib.hid ho
    have Hbk := Lib.hid hbk
    have Hk := Lib.hid hk
    have HBw := Lib.hid (bonly Hg1.out.1 ho (by rw [Hgl.out]; exact Nat.le_refl _))
    clear ho hbk hk
    by_cases hlt : k < n
    · have d0 : decide (k < n) = true := by simpa using hlt
      have hkl : k < l.length := by rw [Hn.out]; exact hlt
      obtain ⟨k', hk'⟩ : ∃ k', k' = k + 1 := ⟨_, rfl⟩
      have q1 : IntKind.i64.wrap ((k : Int) + 1) = k' := by have := Hm.out; rw [IntKind.wrap_i64]; omega
      have HK := Lib.hid (show k' = k + 1 ∧ k < n from ⟨hk', hlt⟩)
      have z1 : (k : Int) < n := by omega
      obtain ⟨ad, rfl, hc⟩ := (Hr.out.below HBw.out).flt k hkl
      have Hx := Lib.hid (Hl.out _ (List.getElem_mem hkl))
      have He : Hid (fAt l k = l[k]) := Lib.hid (by simp [fAt, List.getD, hkl])
      generalize l[k] = x at *
      have HC := Lib.hid (spread1_any m x hm1 hm2 Hx.out b wr (by rw [(Hb.out.below HBw.out Hb.out.lt).cell]; rfl))
      have HS := Lib.hid (zc_step n (fun i => atZ m (fAt l i)) k)
      rw [He.out] at HS
      generalize atZ m x = y at *
      clear hk' hlt
      go_wp2_with (first | (go_at_call 24; refine HC.out.mono ?_; rintro _ _ ⟨rfl, rfl⟩) | refine wpList_store_cell rfl _ _ _ rfl Try.sizeInt g k rfl (.int .i64 y) rfl rfl rfl _ _ Hbk.out (by rw [zc_size]; exact HK.out.2) ?_)
      apply Stop.go; intro w2 Ho2 Hb2
      go_wp2_with fail
      go_roundw
      case rel =>
        refine ⟨k', by have := HK.out; omega, rfl, Ho.out.trans Ho2.out, ?_⟩
        have h := Hb2.out
        rw [HS.out] at h
        rw [HK.out.1]
        exact h
      case measure => have := HK.out; simp [intOf]; omega
    · have d0 : decide (k < n) = false := by simpa using hlt
      have hkn : k = n := by have := Hk.out; omega
      have hbk := Hbk.out
      rw [zc_congr (z := fun i => atZ m (fAt l i)) (fun i hi => by rw [if_pos (by omega)])] at hbk
      have HB2 := Lib.hid hbk
      clear hlt hkn hbk
      go_wp2_with fail
      go_ret
      exact ⟨g, rfl, by rw [Hgl.out]; exact Nat.le_refl _, HB2.out, HBw.out⟩

theorem spread_any (m : Int) (hm1 : -9223372036854775808 ≤ m) (hm2 : m < 9223372036854775808) (A : Option Addr) (n cap : Nat) (l : List Nat) (hn : l.length = n) (hm : n ≤ 1000) (hl : ∀ x ∈ l, x < 18446744073709551616) (w : World) (hr : RC w A (fvals l)) :
    Calls Try.prog 12 #[.int .i64 m, .slice A n cap] w fun e w' => ∃ g, e = .returned (.slice (some ⟨g, 0, none⟩) n n) ∧ w.heap.size ≤ g ∧ Blk w' g 3 (zc n fun k => atZ m (fAt l k)) ∧ Below w.heap.size w w' := by
  have Hg0 := Lib.hid (Grew.alloc w (.cells #[.int .i64 m] 3))
  have HRd := Lib.hid (each_any m hm1 hm2 A n cap l hn hm hl w.heap.size 3 (w.alloc (.cells #[.int .i64 m] 3)) (hr.below Hg0.out.1) (Blk.new w _ _))
  clear hn hm hl hr
  go_enter Try.func12, Try.ntmps12
  go_wp2_with (go_at_call 23; refine HRd.out.mono ?_; rintro _ w3 ⟨g, rfl, h1, h2, h3⟩)
  go_ret
  exact ⟨g, rfl, Nat.le_trans Hg0.out.1.size h1, h2, bt Hg0.out.1 h3⟩

end Go.Proofs.Ytjceaaononbliaa
