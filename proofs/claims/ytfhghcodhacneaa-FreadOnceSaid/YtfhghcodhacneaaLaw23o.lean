/-
  Layer 23: the walk of FreadOnce.
-/
import Derived.Test.YtfhghcodhacneaaLaw23w
namespace Go.Proofs.Ytfhghcodhacneaa
open Go.RowKit
set_option maxRecDepth 10000

set_option maxHeartbeats 3200000 in
theorem freadOnce_any (z y : Nat) (hz : z < 65536) (hy : y < 65536) (w : World) :
    Calls Try.prog 5 #[.int .u16 (z : Int), .int .u16 (y : Int)] w fun e w' => e = .returned (.bool true) ∧ Below w.heap.size w w' := by
  obtain ⟨p, Hp⟩ : ∃ p, Hid (z % 34304 = p) := ⟨_, Lib.hid rfl⟩
  obtain ⟨m, Hm⟩ : ∃ m, Hid (y % 4000 = m) := ⟨_, Lib.hid rfl⟩
  have hp : p < 34304 := by have := Hp.out; omega
  have hm : m < 4000 := by have := Hm.out; omega
  obtain ⟨E, HE⟩ : ∃ E, Hid (p + min m (34304 - p) = E) := ⟨_, Lib.hid rfl⟩
  have hpE : p ≤ E := by have := HE.out; omega
  have hE : E ≤ 34304 := by have := HE.out; omega
  have hsp : spansS (p : Int) (m : Int) = spnS p E (numS p E) := by
    unfold spansS
    rw [show loS (p : Int) = p from by unfold loS; omega, show (hiS (p : Int) (m : Int)).toNat = E from by have := HE.out; unfold hiS; omega]
  have HC1 := Lib.hid (fun w => fspans_any (p : Int) (m : Int) (by omega) (by omega) w)
  rw [hsp] at HC1
  have HRl := Lib.hid (show (irows (spnS p E (numS p E))).length = numS p E by rw [irows_len, spnS_len])
  have HNl := Lib.hid (numS_le (o := p) hE)
  have HRw := Lib.hid (fun k (h : k < numS p E) => show ∃ s : Nat, 1 ≤ s ∧ posS p E k % 256 + s ≤ 256 ∧ posS p E k + s ≤ 34304 ∧ posS p E (k + 1) = posS p E k + s ∧ p ≤ posS p E k ∧ (irows (spnS p E (numS p E)))[k]? = some [.int .i64 ((posS p E k : Int) / 256), .int .i64 ((posS p E k : Int) % 256), .int .i64 (s : Int)] by
    have h1 := posS_lt h
    have h2 := posS_div h
    have h3 := posS_next h
    have h4 := posS_ge (k := k) hpE
    have hr := irows_at (spnS_at p E h)
    unfold pcS at hr
    rw [← h2] at hr
    exact ⟨min (256 - posS p E k % 256) (E - posS p E k), by omega, by omega, by omega, h3, h4, hr⟩)
  have HEn := Lib.hid (show posS p E (numS p E) = E by
    have h1 := posS_end (o := p) (e := E)
    have h2 := posS_le (k := numS p E) hpE
    omega)
  have HP0 := Lib.hid (show posS p E 0 = p from rfl)
  obtain ⟨P, hP⟩ : ∃ P : Nat → Nat, ∀ k, posS p E k = P k := ⟨posS p E, fun _ => rfl⟩
  simp only [hP] at HRw HEn HP0
  generalize irows (spnS p E (numS p E)) = RW at *
  generalize numS p E = N at *
  have hz1 : (z : Int) % 34304 = (p : Int) := by have := Hp.out; omega
  have hy1 : (y : Int) % 4000 = (m : Int) := by have := Hm.out; omega
  have Hz1 := Lib.hid hz1
  have Hy1 := Lib.hid hy1
  clear hsp hP hz1 hy1
  have hmin : (34304 - (p : Int) < (m : Int) ∧ E - p = 34304 - p) ∨ ((m : Int) ≤ 34304 - (p : Int) ∧ E - p = m) := by have := HE.out; omega
  have HEn2 := Lib.hid hmin
  clear hmin hpE hE
  go_enter Try.func5, Try.ntmps5
  go_wp2_with fail
  rw [Hz1.out, Hy1.out]
  refine (HC1.out _).mono ?_; rintro e w1 ⟨v1, rfl, hv1, hb1⟩
  obtain ⟨A1, c1, rfl, _, _, hr1⟩ := hv1.read
  rw [HRl.out]
  have HR1 := Lib.hid hr1
  have E1 := Lib.hid hb1
  clear hv1 hr1 HC1 hb1 hz hy
  have hN := HNl.out
  go_wp2_with fail
  go_loopw [8, 9, 10] (fun at_ al i wr => ∃ k : Nat, k ≤ N ∧ at_ = .int .i64 (P k : Nat) ∧ al = .int .i64 ((P k - p : Nat) : Int) ∧ i = .int .i64 k ∧ Hid (Below w1.heap.size w1 wr)) (fun _ _ z _ => N - (intOf z).toNat)
  case atStart => exact ⟨0, Nat.zero_le _, by rw [HP0.out], by rw [HP0.out, Nat.sub_self]; rfl, rfl, Lib.hid (Below.refl _ _)⟩
  case round =>
    obtain ⟨k, hk, rfl, rfl, rfl, D⟩ := hrel
    by_cases hlt : k < N
    · have p0 : (0 : Int) ≤ (k : Int) := by omega
      have p1 : (k : Int) < (N : Int) := by omega
      obtain ⟨s, s1, s2, s3, s4, s5, hrw⟩ := HRw.out k hlt
      obtain ⟨ad, rfl⟩ := HR1.out.adr (k := k) (by rw [HRl.out]; exact hlt) (by decide)
      have HC := Lib.hid ((HR1.out.below D.out).row hrw rfl)
      have Hs4 := Lib.hid s4
      clear hrw s4
      generalize P k = q at *
      have d1 : decide ((s : Int) < 1) = false := by simp; omega
      have d2 : decide ((256 : Int) < (q : Int) % 256 + (s : Int)) = false := by simp; omega
      have HW1 := Lib.hid (show IntKind.i64.wrap ((q : Int) + (s : Int)) = ((q + s : Nat) : Int) from IntWalk.i64_in _ (by omega))
      have HW2 := Lib.hid (show IntKind.i64.wrap (((q - p : Nat) : Int) + (s : Int)) = ((q + s - p : Nat) : Int) by
        have e : ((q - p : Nat) : Int) + (s : Int) = ((q + s - p : Nat) : Int) := by omega
        rw [e]
        exact IntWalk.i64_in _ (by omega))
      have hw2 : IntKind.i64.wrap ((q : Int) % 256 + (s : Int)) = (q : Int) % 256 + (s : Int) := IntWalk.i64_in _ (by omega)
      go_wp2_with (first | refine wpList_load_cellsA rfl _ _ rfl (ad.add (k * 3)) rfl _ _ Try.underlying25 [.int .i64 ((q : Int) / 256), .int .i64 ((q : Int) % 256), .int .i64 (s : Int)] Try.spanSize HC.out ?_ | refine wpList_alloc_row rfl _ rfl _ Try.spanZero ?_)
      apply Stop.go; intro w7 Hg7 Hb7
      go_wp2_with (refine wpList_store_arr rfl _ _ _ rfl _ #[.int .i64 ((q : Int) / 256), .int .i64 ((q : Int) % 256), .int .i64 (s : Int)] rfl rfl _ _ Hb7.out Try.spanSize rfl (by simp [Value.oneCell']) ?_)
      apply Stop.go; intro w8 Ho8 Hb8
      have D8 := Lib.hid (bt D.out (bonly Hg7.out.1 Ho8.out (Nat.le_refl _)))
      clear Hg7 Hb7 Ho8 HC D
      generalize wr.heap.size = gr at *
      have c0 : w8.cell? ⟨gr, 0, none⟩ = some (.int .i64 ((q : Int) / 256)) := Hb8.out.cell 0
      have c1 : w8.cell? ⟨gr, 1, none⟩ = some (.int .i64 ((q : Int) % 256)) := Hb8.out.cell 1
      have c2 : w8.cell? ⟨gr, 2, none⟩ = some (.int .i64 (s : Int)) := Hb8.out.cell 2
      go_wp2_with fail
      refine WH.start (S := fun w' : World => Blk w' gr 25 #[.int .i64 ((q : Int) / 256), .int .i64 ((q : Int) % 256), .int .i64 (s : Int)]) [false, false, false, false, false, false, false, false, false, false] 10 rfl rfl (by kernel_rfl) (Hb8.out.ext (bdrew w8 1)) (fun hSn => ?_); obtain ⟨wS, hwS⟩ : ∃ x, (w8).drew = x := ⟨_, rfl⟩; have HE := Lib.hid (show Below (w8).heap.size (w8) wS from hwS ▸ bdrew w8 1); rw [hwS] at hSn ⊢; clear hwS
      refine WH.tk 0 ?_; simp only [setL]
      refine WH.tk 1 ?_; simp only [setL]
      refine WH.tv 2 rfl (fun w' hSw => exec_load_cell _ _ rfl ⟨gr, 2, none⟩ rfl (.int .i64 (s : Int)) (hSw.cell 2) _ Try.underlying3 rfl) ?_; simp only [setL]
      refine WH.tk 3 ?_; simp only [setL]
      refine WH.tk 4 ?_; simp only [setL]
      refine WH.tk 5 ?_; simp only [setL]
      refine WH.tv 6 rfl (fun w' hSw => exec_load_cell _ _ rfl ⟨gr, 2, none⟩ rfl (.int .i64 (s : Int)) (hSw.cell 2) _ Try.underlying3 rfl) ?_; simp only [setL]
      refine WH.tk 7 ?_; simp only [setL]
      refine WH.tk 8 ?_; simp only [setL]
      refine WH.tk 9 ?_; simp only [setL]
      refine WH.done (by kernel_rfl) ?_
      have D := Lib.hid (bt D8.out HE.out)
      clear HE hSn D8 Hb8 c0 c1 c2
      go_wp2_with fail
      go_roundw
      case rel => exact ⟨k + 1, by omega, by rw [Hs4.out, HW1.out], by rw [Hs4.out, HW2.out], by go_num, D⟩
      case measure => simp [intOf]; omega
    · obtain rfl : N = k := by omega
      rw [HEn.out]
      have HX := HEn2.out
      rcases HX with ⟨x1, x2⟩ | ⟨x1, x2⟩
      · have t1 : (((E - p : Nat) : Int) == 34304 - (p : Int)) = true := by simp; omega
        clear x2
        go_wp2_with fail
        refine (works23_any _).mono ?_; rintro e w3 ⟨rfl, hb3⟩
        go_wp2_with fail
        go_ret
        exact ⟨rfl, bt (bt E1.out D.out) hb3⟩
      · rw [x2]
        clear x2
        go_wp2_with fail
        refine (works23_any _).mono ?_; rintro e w3 ⟨rfl, hb3⟩
        go_wp2_with fail
        go_ret
        exact ⟨rfl, bt (bt E1.out D.out) hb3⟩

end Go.Proofs.Ytfhghcodhacneaa
