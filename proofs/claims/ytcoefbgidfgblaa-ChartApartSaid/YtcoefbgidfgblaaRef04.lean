/-
  Contracts of the document's answers 04: Has, Bits, Block.
-/
import Derived.Test.YtcoefbgidfgblaaChart1
namespace Go.Proofs.Ytcoefbgidfgblaa
open Go.RowKit

theorem Try.boolInfo : (Try.prog.info? 4).map (fun i => (i.zero, i.size, i.bytes)) = some (some (.bool false), 1, 1) := by kernel_rfl

theorem Try.boolSize : (Try.prog.info? 4).map (·.size) = some 1 := by kernel_rfl

/-! Halving, as whole numbers. -/
theorem half_next (x k : Nat) : ((x / 2 ^ k : Nat) : Int) / 2 = ((x / 2 ^ (k + 1) : Nat) : Int) := by
  rw [Nat.pow_succ, ← Nat.div_div_eq_div_mul]
  omega
theorem half_bit (x k : Nat) : (((x / 2 ^ k : Nat) : Int) % 2 == 1) = x.testBit k := by
  rw [← bit_half]
  generalize x / 2 ^ k = y
  rw [Bool.eq_iff_iff]
  simp only [beq_iff_eq, decide_eq_true_eq]
  omega
theorem half_lt (x k : Nat) (h : x < 256) : x / 2 ^ k < 256 := Nat.lt_of_le_of_lt (Nat.div_le_self _ _) h

/-- Whether a bit of any bytes is set. -/
def rhasB (l : List UInt8) (i : Int) : Bool := decide (0 ≤ i ∧ i < 8 * l.length) && bitAt l i.toNat
set_option maxHeartbeats 1600000 in
theorem rhas_any (A : Option Addr) (n cap : Nat) (l : List UInt8) (hn : l.length = n) (hm : n ≤ 4096) (i : Int) (hi : i < 9223372036854775808) (w : World) (hr : RB w A l) :
    Calls Try.prog 12 #[.slice A n cap, .int .i64 i] w fun e w' => e = .returned (.bool (rhasB l i)) ∧ w = w' := by
  have Hn := Lib.hid hn
  by_cases h0 : i < 0
  · have d0 : decide (i < 0) = true := by simpa using h0
    have Hh := Lib.hid (show rhasB l i = false by unfold rhasB; rw [decide_eq_false (by omega)]; rfl)
    clear hn
    go_enter Try.func12, Try.ntmps12
    go_wp2_with fail
    go_ret
    rw [Hh.out]
    exact ⟨rfl, rfl⟩
  · obtain ⟨p, rfl⟩ := Int.eq_ofNat_of_zero_le (show 0 ≤ i by omega)
    have d0 : decide ((p : Int) < 0) = false := by simp
    have hm' : (n : Int) ≤ 4096 := by omega
    by_cases h1 : p < 8 * n
    · have d1 : decide (8 * (n : Int) ≤ p) = false := by simp; omega
      have hkl : p / 8 < l.length := by omega
      have Hb := Lib.hid (show bitAt l p = (l[p / 8]).toNat.testBit (p % 8) by unfold bitAt; simp [List.getD, hkl])
      have Hh := Lib.hid (show rhasB l p = bitAt l p by unfold rhasB; rw [decide_eq_true (by omega)]; rfl)
      obtain ⟨ad, rfl, hc⟩ := hr (p / 8) hkl
      have hxlt := (l[p / 8]).toNat_lt
      generalize l[p / 8] = x at *
      obtain ⟨q, hq⟩ : ∃ q, p / 8 = q := ⟨_, rfl⟩
      obtain ⟨r, hr8⟩ : ∃ r, p % 8 = r := ⟨_, rfl⟩
      have hqw : IntKind.i64.wrap (q : Int) = q := IntWalk.i64_in _ (by omega)
      have hqq : (p : Int) / 8 = q := by omega
      have hrr : (p : Int) % 8 = r := by omega
      have hqn : q < n := by omega
      have hql : (q : Int) < n := by omega
      have hr0 : r < 8 := by omega
      rw [hq] at hc
      rw [hr8] at Hb
      clear hn hq hr8 hkl hi h0 h1 hr
      go_enter Try.func12, Try.ntmps12
      go_wp2_with fail
      go_loop [5, 6] (fun y i => ∃ k : Nat, k ≤ r ∧ i = .int .i64 k ∧ y = .int .i64 ((x.toNat / 2 ^ k : Nat) : Int)) (fun _ i => r - (intOf i).toNat)
      case atStart => exact ⟨0, Nat.zero_le _, rfl, by simp⟩
      case round =>
        obtain ⟨k, hk, rfl, rfl⟩ := hrel
        have Hn2 := Lib.hid (half_next x.toNat k)
        have hlt2 := half_lt x.toNat k hxlt
        have hlt3 := half_lt x.toNat (k + 1) hxlt
        have hbt := half_bit x.toNat k
        generalize x.toNat / 2 ^ k = y at *
        obtain ⟨z, hz⟩ : ∃ z, x.toNat / 2 ^ (k + 1) = z := ⟨_, rfl⟩
        have Hz := Lib.hid hz
        rw [hz] at Hn2 hlt3
        have hyz : (y : Int) / 2 = z := Hn2.out
        clear hz
        by_cases hlt : k < r
        · have d2 : decide ((k : Int) < r) = true := by simpa using hlt
          go_wp2_with fail
          exact ⟨⟨k + 1, by omega, by go_num, by rw [Hz.out]⟩, by simp [intOf]; omega⟩
        · have d2 : decide ((k : Int) < r) = false := by simpa using hlt
          go_wp2_with fail
          go_ret
          rw [Hh.out, Hb.out, show k = r by omega]
          exact ⟨rfl, rfl⟩
    · have d1 : decide (8 * (n : Int) ≤ p) = true := by simp; omega
      have Hh := Lib.hid (show rhasB l p = false by unfold rhasB; rw [decide_eq_false (by omega)]; rfl)
      clear hn h1
      go_enter Try.func12, Try.ntmps12
      go_wp2_with fail
      go_ret
      rw [Hh.out]
      exact ⟨rfl, rfl⟩

/-- The first m bits of these bytes. -/
def bitsN (l : List UInt8) (m : Nat) : List Bool := (List.range m).map (bitAt l)
theorem bitsN_len (l : List UInt8) (m : Nat) : (bitsN l m).length = m := by simp [bitsN]
theorem bitsN_next (l : List UInt8) (m : Nat) : bitsN l (m + 1) = bitsN l m ++ [bitAt l m] := by simp [bitsN, List.range_succ]
theorem bitsN_get (l : List UInt8) (m k : Nat) (h : k < (bitsN l m).length) : (bitsN l m)[k] = bitAt l k := by simp [bitsN]
theorem bitAt_in (l : List UInt8) (k j : Nat) (hk : k < l.length) (hj : j < 8) : bitAt l (8 * k + j) = (l[k]).toNat.testBit j := by
  unfold bitAt
  rw [show (8 * k + j) / 8 = k by omega, show (8 * k + j) % 8 = j by omega]
  simp [List.getD, hk]
set_option maxHeartbeats 1600000 in
theorem bits_any (A : Option Addr) (n cap : Nat) (l : List UInt8) (hn : l.length = n) (hm : n ≤ 4096) (w : World) (hr : RB w A l) :
    Calls Try.prog 25 #[.slice A n cap] w fun e w' => ∃ v, e = .returned v ∧ OwnC w' w.heap.size 4 v (bvals (bitsN l (8 * n))) ∧ Below w.heap.size w w' := by
  have Hn := Lib.hid hn
  have Hr := Lib.hid hr
  clear hn hr
  go_enter Try.func25, Try.ntmps25
  go_wp2_with fail
  go_loopw [3, 4] (fun u i wr => ∃ k : Nat, k ≤ n ∧ i = .int .i64 k ∧ OwnC wr w.heap.size 4 u (bvals (bitsN l (8 * k))) ∧ Below w.heap.size w wr) (fun _ i _ => n - (intOf i).toNat)
  case atStart => exact ⟨0, Nat.zero_le _, rfl, OwnC.nil_ _ _ _, Below.refl _ _⟩
  case round =>
    obtain ⟨k, hk, rfl, hu, hbw⟩ := hrel
    have Hu := Lib.hid hu
    have Hbw := Lib.hid hbw
    clear hu hbw
    by_cases hlt : k < n
    · have d0 : decide ((k : Int) < n) = true := by simpa using hlt
      have hkl : k < l.length := by rw [Hn.out]; exact hlt
      obtain ⟨ad, rfl, hc⟩ := (Hr.out.below Hbw.out) k hkl
      have HX := Lib.hid (fun j => bitAt_in l k j hkl)
      have hxlt := (l[k]).toNat_lt
      generalize l[k] = x at *
      go_wp2_with fail
      go_loopw [3, 5, 6] (fun u y j wr' => ∃ m : Nat, m ≤ 8 ∧ j = .int .i64 m ∧ y = .int .i64 ((x.toNat / 2 ^ m : Nat) : Int) ∧ OwnC wr' w.heap.size 4 u (bvals (bitsN l (8 * k + m))) ∧ Below w.heap.size w wr') (fun _ _ j _ => 8 - (intOf j).toNat)
      case atStart => exact ⟨0, by omega, rfl, by simp, Hu.out, Hbw.out⟩
      case round =>
        obtain ⟨m, hm8, rfl, rfl, hu, hbw⟩ := hrel
        have Hu := Lib.hid hu
        have Hbw := Lib.hid hbw
        clear hu hbw
        by_cases hlm : m < 8
        · have d1 : decide ((m : Int) < 8) = true := by simp; omega
          have Hn2 := Lib.hid (half_next x.toNat m)
          have hlt2 := half_lt x.toNat m hxlt
          have hlt3 := half_lt x.toNat (m + 1) hxlt
          have hbt := half_bit x.toNat m
          rw [← HX.out m hlm] at hbt
          generalize x.toNat / 2 ^ m = y at *
          obtain ⟨z, hz⟩ : ∃ z, x.toNat / 2 ^ (m + 1) = z := ⟨_, rfl⟩
          have Hz := Lib.hid hz
          rw [hz] at Hn2 hlt3
          have hyz : (y : Int) / 2 = z := Hn2.out
          have Hnx := Lib.hid (bitsN_next l (8 * k + m))
          generalize bitAt l (8 * k + m) = b at *
          have hl1 : (bvals (bitsN l (8 * k + m))).length + 1 ≤ maxLen := by rw [bvals_len, bitsN_len]; unfold maxLen; omega
          have hl2 : ((bvals (bitsN l (8 * k + m))).length + 1) * 1 ≤ 140737488355328 := by rw [bvals_len, bitsN_len]; omega
          clear hz
          go_wp2_with (at_builtin; refine wpList_append_one rfl _ _ _ _ rfl Try.underlying48 (.bool false) 1 Try.boolInfo rfl w.heap.size _ _ rfl Hu.out (.bool b) rfl rfl Hbw.out.size hl1 hl2 ?_)
          apply Stop.go
          intro v' w3 Hv' Ha'
          go_wp2_with fail
          go_roundw
          case rel => exact ⟨m + 1, by omega, by go_num, by rw [Hz.out], by rw [show 8 * k + (m + 1) = 8 * k + m + 1 by omega, Hnx.out, ← bvals_snoc]; exact Hv'.out, Hbw.out.trans Ha'.out.below⟩
          case measure => simp [intOf]; omega
        · have d1 : decide ((m : Int) < 8) = false := by simp; omega
          have Hm := Lib.hid (show 8 * (k + 1) = 8 * k + m by omega)
          go_wp2_with fail
          go_roundw
          case rel => exact ⟨k + 1, by omega, by go_num, by rw [Hm.out]; exact Hu.out, Hbw.out⟩
          case measure => simp [intOf]; omega
    · have d0 : decide ((k : Int) < n) = false := by simpa using hlt
      go_wp2_with fail
      go_ret
      rw [show n = k by omega]
      exact ⟨_, rfl, Hu.out, Hbw.out⟩

theorem pow_next (k : Nat) : ((2 ^ k : Nat) : Int) * 2 = ((2 ^ (k + 1) : Nat) : Int) := by
  rw [Nat.pow_succ]
  push_cast
  rfl
/-- What a block of these bools is, in one step. -/
theorem block_step (m : Nat) (f : Nat → Bool) (k : Nat) (h : k < 8 * m) (hf : f k = true) : ∃ X Y : UInt8, (blockL m (cutF f k))[k / 8]? = some X ∧ Y.toNat = X.toNat + 2 ^ (k % 8) ∧ (blockL m (cutF f k)).set (k / 8) Y = blockL m (cutF f (k + 1)) := by
  have hx := block_at m f k h
  have hlt := byteOf_lt (fun j => f (8 * (k / 8) + j)) (k % 8)
  have hp : 2 ^ (k % 8 + 1) ≤ 2 ^ 8 := Nat.pow_le_pow_right (by omega) (by omega)
  rw [Nat.pow_succ] at hp
  refine ⟨UInt8.ofNat (byteOf (fun j => f (8 * (k / 8) + j)) (k % 8)), _, ?_, ?_, block_next m f k h hf⟩
  · rw [List.getElem?_eq_getElem (by rw [blockL_len]; omega)]
    rw [← hx]
    simp [List.getD, List.getElem?_eq_getElem (show k / 8 < (blockL m (cutF f k)).length by rw [blockL_len]; omega)]
  · rw [ofNat_byte (by omega), ofNat_byte (by omega)]
set_option maxHeartbeats 1600000 in
theorem block_any (A : Option Addr) (n cap : Nat) (l : List Bool) (hn : l.length = n) (m : Nat) (hnm : n = 8 * m) (hm : m ≤ 4096) (w : World) (hr : RC w A (bvals l)) :
    Calls Try.prog 26 #[.slice A n cap] w fun e w' => e = .returned (.slice (some ⟨w.heap.size, 0, none⟩) m m) ∧ Blk w' w.heap.size 5 (bcells (blockL m fun k => l.getD k false)) ∧ Below w.heap.size w w' := by
  have Hn := Lib.hid hn
  have Hr := Lib.hid hr
  have hn8 : (n : Int) / 8 = m := by omega
  have hmm : (m : Int) ≤ 4096 := by omega
  have Hnm := Lib.hid hnm
  clear hn hr hnm
  obtain ⟨f, hf⟩ : ∃ f : Nat → Bool, (fun k => l.getD k false) = f := ⟨_, rfl⟩
  rw [hf]
  have Hf := Lib.hid hf
  clear hf
  go_enter Try.func26, Try.ntmps26
  go_wp2_with (refine wpList_make_bytes rfl _ _ _ _ rfl Try.underlying25 Try.byteInfo _ _ _ _ m rfl rfl rfl rfl (by omega) ?_)
  apply Stop.go; intro w1 Hg1 Hb1
  have HS := Lib.hid (block_start m f)
  rw [← HS.out] at Hb1
  go_wp2_with fail
  go_loopw [4] (fun i wr => ∃ k : Nat, k ≤ n ∧ i = .int .i64 k ∧ Blk wr w.heap.size 5 (bcells (blockL m (cutF f k))) ∧ Below w.heap.size w wr) (fun i _ => n - (intOf i).toNat)
  case atStart => exact ⟨0, Nat.zero_le _, rfl, Hb1.out, Hg1.out.1⟩
  case round =>
    obtain ⟨k, hk, rfl, hb, hbw⟩ := hrel
    have Hb := Lib.hid hb
    have Hbw := Lib.hid hbw
    clear hb hbw
    by_cases hlt : k < n
    · have d0 : decide ((k : Int) < n) = true := by simpa using hlt
      have hkl : k < l.length := by rw [Hn.out]; exact hlt
      obtain ⟨ad, rfl, hc⟩ := (Hr.out.below Hbw.out).bool k hkl
      have hfk : f k = l[k] := by rw [← Hf.out]; simp [List.getD, hkl]
      generalize l[k] = b at *
      cases b
      · have HN := Lib.hid (block_stay m f k hfk)
        clear hfk
        go_wp2_with fail
        go_roundw
        case rel => exact ⟨k + 1, by omega, by go_num, by rw [HN.out]; exact Hb.out, Hbw.out⟩
        case measure => simp [intOf]; omega
      · obtain ⟨X, Y, hX, hY, hset⟩ := block_step m f k (by rw [← Hnm.out]; exact hlt) hfk
        have HN := Lib.hid hset
        have hYl := Y.toNat_lt
        have hXl := X.toNat_lt
        obtain ⟨r, hr8⟩ : ∃ r, k % 8 = r := ⟨_, rfl⟩
        obtain ⟨q, hq⟩ : ∃ q, k / 8 = q := ⟨_, rfl⟩
        have hqm : q < m := by have := Hnm.out; omega
        have hqi : (q : Int) < m := by omega
        have hrr : (k : Int) % 8 = r := by omega
        have hqq : (k : Int) / 8 = q := by omega
        have hqw : IntKind.i64.wrap (q : Int) = q := IntWalk.i64_in _ (by omega)
        have hr0 : r < 8 := by omega
        rw [hq] at hX HN
        rw [hr8] at hY
        have hcX : wr.cell? ⟨w.heap.size, q, none⟩ = some (.int .u8 (X.toNat : Int)) := by rw [Hb.out.cell, bcells_get, hX]; rfl
        clear hset hfk hX hr8 hq
        go_wp2_with fail
        go_loop [5, 6] (fun y j => ∃ p : Nat, p ≤ r ∧ j = .int .i64 p ∧ y = .int .i64 ((2 ^ p : Nat) : Int)) (fun _ j => r - (intOf j).toNat)
        case atStart => exact ⟨0, Nat.zero_le _, rfl, rfl⟩
        case round =>
          obtain ⟨p, hp, rfl, rfl⟩ := hrel
          by_cases hlp : p < r
          · have d2 : decide ((p : Int) < r) = true := by simpa using hlp
            have Hp := Lib.hid (pow_next p)
            have hp1 := pow_byte (show p < 8 by omega)
            generalize 2 ^ p = y at *
            go_wp2_with fail
            exact ⟨⟨p + 1, by omega, by go_num, by rw [Hp.out]⟩, by simp [intOf]; omega⟩
          · have d2 : decide ((p : Int) < r) = false := by simpa using hlp
            obtain rfl : p = r := by omega
            have hp1 := pow_byte hr0
            generalize 2 ^ p = y at *
            have hYs : (X.toNat : Int) + y = Y.toNat := by omega
            clear hY
            have Hsz : Hid (q < (bcells (blockL m (cutF f k))).size) := Lib.hid (by rw [bcells_size, blockL_len]; exact hqm)
            go_wp2_with (refine wpList_store_cell rfl _ _ _ rfl Try.byteSize _ q rfl (.int .u8 (Y.toNat : Int)) rfl rfl rfl _ _ Hb.out Hsz.out ?_)
            apply Stop.go; intro w3 Ho3 Hb3
            rw [bcells_set, HN.out] at Hb3
            go_wp2_with fail
            go_roundw
            case rel => exact ⟨k + 1, by omega, by go_num, Hb3.out, bonly Hbw.out Ho3.out (Nat.le_refl _)⟩
            case measure => simp [intOf]; omega
    · have d0 : decide ((k : Int) < n) = false := by simpa using hlt
      have HE := Lib.hid (block_end m f)
      rw [show k = 8 * m by have := Hnm.out; omega, HE.out] at Hb
      go_wp2_with fail
      go_ret
      exact ⟨rfl, Hb.out, Hbw.out⟩

end Go.Proofs.Ytcoefbgidfgblaa
