/-
  Texts of this claim joined: Same, Ref01, Ref02, Ref14, Ref15.
-/
import Derived.Test.YtbajicgpjggkfaaGreatRows
import Derived.Test.YtbajicgpjggkfaaGreatGrA
import Derived.BigQuiet
import Derived.Deep.QuietTactic
import Derived.Test.YtbajicgpjggkfaaGreatGrB
import Derived.Test.YtbajicgpjggkfaaGreatGrU
import Derived.Test.YtbajicgpjggkfaaGreatGeo1

/-
  The contract of the document's answer 01's Same. (It needs the seat's rows and Base alone.)
-/
namespace Go.Proofs.YtbajicgpjggkfaaGreat
open Go.RowKit

set_option maxHeartbeats 400000 in
theorem same_any (A : Option Addr) (n cap : Nat) (l : List UInt8) (hn : l.length = n) (A' : Option Addr) (n' cap' : Nat) (l' : List UInt8) (hn' : l'.length = n') (hm : n ≤ maxLen) (hm' : n' ≤ maxLen) (w : World) (hr : RB w A l) (hr' : RB w A' l') :
    Calls Tryz.prog 56 #[.slice A n cap, .slice A' n' cap'] w (RetQ (.bool (decide (l = l'))) w) := by
  unfold maxLen at hm hm'
  have Hn := Lib.hid hn
  have Hn' := Lib.hid hn'
  by_cases hne : n = n'
  · subst hne
    clear hn hn'
    have hb : ((n : Int) != (n : Int)) = false := by simp
    go_enter Tryz.func56, Tryz.ntmps56
    go_wp2_with fail
    go_loopw [4, 5] (fun r i wr => ∃ k : Nat, k ≤ n ∧ i = .int .i64 k ∧ r = .bool false ∧ l.take k = l'.take k ∧ ∃ m, wr = w.drewN m) (fun _ i _ => n - (intOf i).toNat)
    case atStart => exact ⟨0, Nat.zero_le _, rfl, rfl, rfl, 0, rfl⟩
    case round =>
      obtain ⟨k, hk, rfl, rfl, heq, m, rfl⟩ := hrel
      have Heq := Lib.hid heq
      clear heq
      by_cases hlt : k < n
      · obtain ⟨ad, rfl, hc⟩ := hr k (by rw [Hn.out]; omega)
        obtain ⟨ad', rfl, hc'⟩ := hr' k (by rw [Hn'.out]; omega)
        have hb1 := (l[k]'(by rw [Hn.out]; omega)).toNat_lt
        have hb1' := (l'[k]'(by rw [Hn'.out]; omega)).toNat_lt
        by_cases hx : (l[k]'(by rw [Hn.out]; omega)) = (l'[k]'(by rw [Hn'.out]; omega))
        · have hxb : (((l[k]'(by rw [Hn.out]; omega)).toNat : Int) != ((l'[k]'(by rw [Hn'.out]; omega)).toNat : Int)) = false := by rw [hx]; simp
          have Hx := Lib.hid hx
          clear hx
          go_wp2_with fail
          go_quiet (fail)
          go_wp2_with fail
          go_roundw
          case rel =>
            refine ⟨k + 1, by omega, by go_num, rfl, ?_, m + nq, ?_⟩
            · rw [List.take_succ_eq_append_getElem (by rw [Hn.out]; omega), List.take_succ_eq_append_getElem (by rw [Hn'.out]; omega), Heq.out, Hx.out]
            · first | rfl | simp only [World.drewN_drewN]
          case measure => simp [intOf]; omega
        · have hxb : (((l[k]'(by rw [Hn.out]; omega)).toNat : Int) != ((l'[k]'(by rw [Hn'.out]; omega)).toNat : Int)) = true := by
            simp; intro h; exact hx (UInt8.toNat_inj.1 (by omega))
          have Hx := Lib.hid hx
          clear hx
          go_wp2_with fail
          go_quiet (fail)
          go_wp2_with fail
          go_ret
          refine ⟨?_, m + nq, ?_⟩
          · rw [decide_eq_false (fun h => Hx.out (by subst h; rfl))]; rfl
          · first | rfl | simp only [World.drewN_drewN]
      · go_wp2_with fail
        go_ret
        refine ⟨?_, m, rfl⟩
        have : l = l' := by
          have h := Heq.out
          rwa [List.take_of_length_le (by rw [Hn.out]; omega), List.take_of_length_le (by rw [Hn'.out]; omega)] at h
        rw [decide_eq_true this]; rfl
  · have hb : ((n : Int) != (n' : Int)) = true := by simp; omega
    clear hn hn'
    go_enter Tryz.func56, Tryz.ntmps56
    go_wp2_with fail
    go_ret
    refine ⟨?_, 0, rfl⟩
    rw [decide_eq_false (fun h => hne (by rw [← Hn.out, ← Hn'.out, h]))]; rfl

end Go.Proofs.YtbajicgpjggkfaaGreat

namespace Go.Proofs.YtbajicgpjggkfaaGreat
open Go.RowKit



theorem leVal_cons_ge (l : List UInt8) (p k q : Nat) (hk : k + 1 ≤ q) (hp : p + q ≤ l.length) :
    leVal ((l.drop (p + k)).take (q - k)) = leVal ((l.drop (p + (k + 1))).take (q - (k + 1))) * 256 + (l[p + k]'(by omega)).toNat := by
  rw [List.drop_eq_getElem_cons (by omega), show q - k = (q - (k + 1)) + 1 from by omega, List.take_succ_cons, leVal, ← Nat.add_assoc]
  omega
set_option maxHeartbeats 800000 in
theorem rget_any (A : Option Addr) (n cap : Nat) (l : List UInt8) (hn : l.length = n) (hm : n ≤ maxLen) (a wd : Int) (w : World) (hr : RB w A l) :
    Calls Tryz.prog 65 #[.slice A n cap, .int .i64 a, .int .i64 wd] w fun e w' => e = .returned (.tuple #[.int .u64 (getN l a wd 8 : Nat), .bool (fitsB n a wd 8)]) ∧ w = w' := by
  unfold maxLen at hm
  have Hn := Lib.hid hn
  by_cases hf : fitsB n a wd 8 = true
  · have Hg := Lib.hid (show getN l a wd 8 = leVal ((l.drop a.toNat).take wd.toNat) by unfold getN; rw [hn, hf]; rfl)
    have h := hf
    simp only [fitsB, decide_eq_true_eq] at h
    obtain ⟨h1, h2, h3, h4⟩ := h
    obtain ⟨p, rfl⟩ := Int.eq_ofNat_of_zero_le h3
    obtain ⟨q, rfl⟩ := Int.eq_ofNat_of_zero_le (show 0 ≤ wd by omega)
    have Hf := Lib.hid hf
    have d1 : decide ((q : Int) < 1) = false := by simp; omega
    have d2 : decide ((8 : Int) < q) = false := by simp; omega
    have d3 : decide ((p : Int) < 0) = false := by simp
    have d4 : decide ((n : Int) - q < p) = false := by simp; omega
    clear hn hf
    go_enter Tryz.func65, Tryz.ntmps65
    go_wp2_with fail
    go_loop [8, 9] (fun v i => ∃ k : Nat, k ≤ q ∧ i = .int .i64 ((k : Int) - 1) ∧ v = .int .u64 (leVal ((l.drop (p + k)).take (q - k)) : Nat)) (fun _ i => (intOf i + 1).toNat)
    case atStart => exact ⟨q, Nat.le_refl _, rfl, by simp [leVal]⟩
    case round =>
      obtain ⟨k, hk, hi, rfl⟩ := hrel
      rcases k with _ | j
      · have hi : u9 = .int .i64 (-1) := by simpa using hi
        subst hi
        go_wp2_with fail
        go_ret2
        exact ⟨by rw [Hg.out, Hf.out]; rfl, rfl⟩
      · have hi : u9 = .int .i64 (j : Int) := by rw [hi]; congr 1; omega
        subst hi
        obtain ⟨ad, rfl, hc⟩ := hr (p + j) (by rw [Hn.out]; omega)
        have hb := (l[p + j]'(by rw [Hn.out]; omega)).toNat_lt
        have Hs := Lib.hid (leVal_cons_ge l p j q hk (by rw [Hn.out]; omega))
        have hl := leVal_lt ((l.drop (p + (j + 1))).take (q - (j + 1)))
        have hp : 2 ^ (8 * ((l.drop (p + (j + 1))).take (q - (j + 1))).length) ≤ 2 ^ 56 := Nat.pow_le_pow_right (by omega) (by simp; omega)
        generalize hV : leVal ((l.drop (p + (j + 1))).take (q - (j + 1))) = V at *
        have hl : V < 72057594037927936 := by omega
        have HV := Lib.hid hV
        clear hV hp
        go_wp2_with fail
        exact ⟨⟨j, by omega, rfl, by rw [Hs.out, Int.natCast_add, Int.natCast_mul]; rfl⟩, by simp [intOf]⟩
  · have hf' : fitsB n a wd 8 = false := by simpa using hf
    have Hg := Lib.hid (show getN l a wd 8 = 0 by unfold getN; rw [hn, hf']; rfl)
    have Hf := Lib.hid hf'
    clear hn hf
    by_cases h1 : 1 ≤ wd
    · by_cases h2 : wd ≤ 8
      · by_cases h3 : 0 ≤ a
        · have h4 : (n : Int) - wd < a := by
            simp only [fitsB, decide_eq_false_iff_not] at hf'
            omega
          clear hf'
          have d1 : decide (wd < 1) = false := by simp; omega
          have d2 : decide ((8 : Int) < wd) = false := by simp; omega
          have d3 : decide (a < 0) = false := by simp; omega
          have d4 : decide ((n : Int) - wd < a) = true := by simp; omega
          go_enter Tryz.func65, Tryz.ntmps65
          go_wp2_with fail
          go_ret2
          exact ⟨by rw [Hg.out, Hf.out]; rfl, rfl⟩
        · clear hf'
          have d1 : decide (wd < 1) = false := by simp; omega
          have d2 : decide ((8 : Int) < wd) = false := by simp; omega
          have d3 : decide (a < 0) = true := by simp; omega
          go_enter Tryz.func65, Tryz.ntmps65
          go_wp2_with fail
          go_ret2
          exact ⟨by rw [Hg.out, Hf.out]; rfl, rfl⟩
      · clear hf'
        have d1 : decide (wd < 1) = false := by simp; omega
        have d2 : decide ((8 : Int) < wd) = true := by simp; omega
        go_enter Tryz.func65, Tryz.ntmps65
        go_wp2_with fail
        go_ret2
        exact ⟨by rw [Hg.out, Hf.out]; rfl, rfl⟩
    · clear hf'
      have d1 : decide (wd < 1) = true := by simp; omega
      go_enter Tryz.func65, Tryz.ntmps65
      go_wp2_with fail
      go_ret2
      exact ⟨by rw [Hg.out, Hf.out]; rfl, rfl⟩

set_option maxHeartbeats 800000 in
theorem bytesO_any (n v : Nat) (hn : n ≤ 64) (hv : v < 18446744073709551616) (w : World) :
    Calls Tryz.prog 96 #[.int .i64 n, .int .u64 v] w fun e w' => ∃ u, e = .returned u ∧ OwnB w' w.heap.size 5 u (leBytes n v) ∧ Below w.heap.size w w' := by
  go_enter Tryz.func96, Tryz.ntmps96
  go_wp2_with fail
  go_loopw [1, 5, 6] (fun t o i wr => ∃ k : Nat, k ≤ n ∧ i = .int .i64 k ∧ t = .int .u64 (v / 2 ^ (8 * k) : Nat) ∧ OwnB wr w.heap.size 5 o (leBytes k v) ∧ Below w.heap.size w wr) (fun _ _ i _ => n - (intOf i).toNat)
  case atStart => exact ⟨0, Nat.zero_le _, rfl, by simp, OwnB.nil_ _ _ _, Below.refl _ _⟩
  case round =>
    obtain ⟨k, hk, rfl, rfl, how, hbw⟩ := hrel
    have How := Lib.hid how
    have Hbw := Lib.hid hbw
    clear how hbw
    have hlt2 : v / 2 ^ (8 * k) < 18446744073709551616 := Nat.lt_of_le_of_lt (Nat.div_le_self _ _) hv
    generalize hV : v / 2 ^ (8 * k) = V at *
    have HV := Lib.hid hV
    clear hV
    by_cases hlt : k < n
    · go_wp2_with (at_builtin; refine wpList_append_byte rfl _ _ _ _ rfl Tryz.underlying70 Tryz.byteInfo w.heap.size _ _ rfl How.out _ (UInt8.ofNat V) ?_ rfl Hbw.out.size (by rw [leBytes_len]; omega) ?_)
      · simp
      apply Stop.go; intro v1 w1 How1 Hb1
      go_wp2_with fail
      go_roundw
      case rel =>
        refine ⟨k + 1, by omega, by go_num, ?_, ?_, Hbw.out.trans Hb1.out⟩
        · rw [← HV.out, show 8 * (k + 1) = 8 * k + 8 from by omega, Nat.pow_add, ← Nat.div_div_eq_div_mul]; rfl
        · rw [leBytes_succ, HV.out]; exact How1.out
      case measure => simp [intOf]; omega
    · obtain rfl : k = n := by omega
      go_wp2_with fail
      go_ret
      exact ⟨_, rfl, How.out, Hbw.out⟩
theorem bytes_any (n v : Nat) (hn : n ≤ 64) (hv : v < 18446744073709551616) (w : World) :
    Calls Tryz.prog 96 #[.int .i64 n, .int .u64 v] w (RetB w (leBytes n v)) := (bytesO_any n v hn hv w).mono fun _ _ ⟨_, he, ho, hb⟩ => by
  obtain ⟨A, c, hv, h1, h2, h3⟩ := ho.read
  exact ⟨A, _, c, by rw [he, hv], rfl, h1, h2, h3, hb⟩



theorem getN_4 (l : List UInt8) (a wd : Int) (h : wd ≤ 4) : getN l a wd 8 = getN l a wd 4 := by
  unfold getN fitsB
  have : (1 ≤ wd ∧ wd ≤ 8 ∧ 0 ≤ a ∧ a ≤ (l.length : Int) - wd) ↔ (1 ≤ wd ∧ wd ≤ 4 ∧ 0 ≤ a ∧ a ≤ (l.length : Int) - wd) := by omega
  simp only [this]
theorem getN_lt (l : List UInt8) (a wd : Int) : getN l a wd 4 < 4294967296 := by
  unfold getN fitsB
  split
  · rename_i h
    simp only [decide_eq_true_eq] at h
    refine Nat.lt_of_lt_of_le (leVal_lt _) ?_
    have : 8 * ((l.drop a.toNat).take wd.toNat).length ≤ 32 := by simp; omega
    exact Nat.pow_le_pow_right (by omega) this
  · omega
theorem getN_big (l : List UInt8) (a wd : Int) (h : 4 < wd) : getN l a wd 4 = 0 := by
  unfold getN fitsB
  rw [if_neg (by simp; omega)]
set_option maxHeartbeats 800000 in
theorem nrat_any (A : Option Addr) (n cap : Nat) (l : List UInt8) (hn : l.length = n) (hm : n ≤ maxLen) (a wd : Int) (w : World) (hr : RB w A l) :
    Calls Tryz.prog 54 #[.slice A n cap, .int .i64 a, .int .i64 wd] w fun e w' => e = .returned (.int .i64 (getN l a wd 4 : Nat)) ∧ w = w' := by
  have Hn := Lib.hid hn
  clear hn
  by_cases h : wd ≤ 4
  · have d1 : decide ((4 : Int) < wd) = false := by simp; omega
    have hlt := getN_lt l a wd
    have H4 := Lib.hid (getN_4 l a wd h)
    go_enter Tryz.func54, Tryz.ntmps54
    go_wp2_with fail
    refine (rget_any _ _ _ l Hn.out hm _ _ _ hr).mono ?_; rintro e w' ⟨rfl, rfl⟩
    rw [H4.out]
    generalize hV : getN l a wd 4 = V at *
    have HV := Lib.hid hV
    clear hV
    go_wp2_with fail
    go_ret
    exact ⟨by rw [HV.out]; rfl, rfl⟩
  · have d1 : decide ((4 : Int) < wd) = true := by simp; omega
    have Hg := Lib.hid (getN_big l a wd (by omega))
    go_enter Tryz.func54, Tryz.ntmps54
    go_wp2_with fail
    go_ret
    exact ⟨by rw [Hg.out]; rfl, rfl⟩


theorem rcutL_cut (l : List UInt8) (h : l.length = 256) (a m : Int) : rcutL l a m = ncutL l a m := by
  unfold rcutL ncutL isPlaceB
  by_cases h1 : 0 ≤ a
  · by_cases h2 : a < 256
    · by_cases h3 : 1 ≤ m
      · rw [if_pos (by simpa using h1), if_pos (by simp; omega)]
      · rw [if_pos (by simpa using h1), if_neg (by simp; omega), show m.toNat = 0 from by omega]; simp
    · rw [if_pos (by simpa using h1), if_neg (by simp; omega), List.drop_of_length_le (by omega)]; simp
  · rw [if_neg (by simpa using h1), if_neg (by simp; omega)]

end Go.Proofs.YtbajicgpjggkfaaGreat

/-
  Contracts of the document's answers 02: the functions of numbers and of one text.
-/
namespace Go.Proofs.YtbajicgpjggkfaaGreat
open Go.RowKit

theorem rfnv_key (V : Nat) (b : UInt8) (hV : V < 4294967296) :
    ((V : Int) - (V : Int) % 256 + bits BinOp.xor IntKind.u64 ((V : Int) % 256) (b.toNat : Int)) * 16777619 % 4294967296 = ((fnv V b : Nat) : Int) := by
  have hb := b.toNat_lt
  have e1 : (V : Int) % 256 = ((V % 256 : Nat) : Int) := by omega
  rw [e1, bits_xor_u64_nat _ _ (by omega) (by omega), ← fnv_ref V b hV]
  have hx : V % 256 ^^^ b.toNat < 2 ^ 8 := Nat.xor_lt_two_pow (by omega) (by omega)
  omega
theorem rfnv_room (V : Nat) (b : UInt8) (_hV : V < 4294967296) : 0 ≤ bits BinOp.xor IntKind.u64 ((V : Int) % 256) (b.toNat : Int) ∧ bits BinOp.xor IntKind.u64 ((V : Int) % 256) (b.toNat : Int) < 256 := by
  have hb := b.toNat_lt
  have e1 : (V : Int) % 256 = ((V % 256 : Nat) : Int) := by omega
  have hx : V % 256 ^^^ b.toNat < 2 ^ 8 := Nat.xor_lt_two_pow (by omega) (by omega)
  rw [e1, bits_xor_u64_nat _ _ (by omega) (by omega)]
  omega
set_option maxHeartbeats 400000 in
theorem rmore_any (h : Nat) (hh : h < 4294967296) (s : ByteArray) (hs : s.size ≤ maxLen) (w : World) :
    Calls Tryz.prog 81 #[.int .u64 h, .string s] w fun e w' => e = .returned (.int .u64 (fnvs h s.data.toList : Nat)) ∧ w = w' := by
  unfold maxLen at hs
  go_enter Tryz.func81, Tryz.ntmps81
  go_wp2
  go_loop [0, 5] (fun v i => ∃ k : Nat, k ≤ s.size ∧ i = .int .i64 k ∧ v = .int .u64 (fnvs h (s.data.toList.take k) : Nat)) (fun _ i => s.size - (intOf i).toNat)
  case atStart => exact ⟨0, Nat.zero_le _, rfl, rfl⟩
  case round =>
    obtain ⟨k, hk, rfl, rfl⟩ := hrel
    by_cases hlt : k < s.size
    · have hf := fnvs_lt h (s.data.toList.take k) hh
      have hsn := fnvs_snoc h (s.data.toList.take k) s[k]
      rw [← mtake_snoc s k hlt] at hsn
      generalize hV : fnvs h (s.data.toList.take k) = V at *
      have key := rfnv_key V s[k] hf
      have room := rfnv_room V s[k] hf
      generalize hX : bits BinOp.xor IntKind.u64 ((V : Int) % 256) (s[k].toNat : Int) = X at *
      rw [← hsn] at key
      have HK := Lib.hid key
      have HX := Lib.hid hX
      have HV := Lib.hid hV
      have hb := (s[k]).toNat_lt
      clear key hsn hV hX
      go_wp2_with (simp only [HX.out])
      go_round
      case rel => exact ⟨k + 1, by omega, by go_num, by rw [HK.out]⟩
      case measure => simp [intOf]; omega
    · go_wp2
      go_ret
      rw [List.take_of_length_le (by simp; omega)]
      exact ⟨rfl, rfl⟩

set_option maxHeartbeats 400000 in
theorem rof_any (s : ByteArray) (hs : s.size ≤ maxLen) (w : World) :
    Calls Tryz.prog 41 #[.string s] w fun e w' => e = .returned (.int .u64 (hashN s : Nat)) ∧ w = w' := by
  go_enter Tryz.func41, Tryz.ntmps41
  go_wp2_with fail
  refine (rmore_any start start_lt s hs _).mono ?_; rintro e wx ⟨rfl, rfl⟩
  have HX : Hid (fnvs start s.data.toList = hashN s) := rfl
  go_wp2_with fail
  go_ret
  rw [HX.out]
  exact ⟨rfl, rfl⟩

theorem rlow_mod (x : Nat) (hx : x < 4294967296) (k : Nat) : wrap64 ((x : Int) % ((2 ^ k : Nat) : Int)) = ((x % 2 ^ k : Nat) : Int) := by
  have h1 : x % 2 ^ k ≤ x := Nat.mod_le _ _
  have e : (x : Int) % ((2 ^ k : Nat) : Int) = ((x % 2 ^ k : Nat) : Int) := by push_cast; rfl
  rw [e]
  unfold wrap64
  omega
set_option maxHeartbeats 400000 in
theorem rlow_any (x : Nat) (hx : x < 4294967296) (n : Int) (w : World) :
    Calls Tryz.prog 40 #[.int .u64 x, .int .i64 n] w fun e w' => e = .returned (.int .i64 (lowN x n : Nat)) ∧ w = w' := by
  generalize hm : (min n 32).toNat = m
  have HL := Lib.hid (show lowN x n = x % 2 ^ m by unfold lowN; rw [hm])
  have Hm := Lib.hid hm
  clear hm
  have hm32 : m ≤ 32 := by rw [← Hm.out]; omega
  go_enter Tryz.func40, Tryz.ntmps40
  go_wp2
  go_loop [5, 6] (fun v i => ∃ k : Nat, k ≤ m ∧ i = .int .i64 k ∧ v = .int .u64 (2 ^ k : Nat)) (fun _ i => m - (intOf i).toNat)
  case atStart => exact ⟨0, Nat.zero_le _, rfl, rfl⟩
  case round =>
    obtain ⟨k, hk, rfl, rfl⟩ := hrel
    by_cases hlt : k < m
    · have h1 := Hm.out
      have d1 : decide ((k : Int) < n) = true := by simp; omega
      have d2 : decide ((k : Int) < 32) = true := by simp; omega
      have hp : 2 ^ k ≤ 2 ^ 31 := Nat.pow_le_pow_right (by omega) (by omega)
      have HP := Lib.hid (Nat.pow_succ 2 k)
      generalize 2 ^ k = K at *
      clear h1
      go_wp2
      go_round
      case rel => exact ⟨k + 1, by omega, by go_num, by rw [HP.out]; congr 1⟩
      case measure => simp [intOf]; omega
    · obtain rfl : k = m := by omega
      have h1 := Hm.out
      have key := rlow_mod x hx k
      rw [← HL.out] at key
      have h0 : ((2 ^ k : Nat) : Int) ≠ 0 := by have := Nat.two_pow_pos k; omega
      by_cases hn : (k : Int) < n
      · have d1 : decide ((k : Int) < n) = true := by simpa using hn
        have d2 : decide ((k : Int) < 32) = false := by simp; omega
        clear h1
        generalize 2 ^ k = K at *
        go_wp2
        go_ret
        exact ⟨rfl, rfl⟩
      · have d1 : decide ((k : Int) < n) = false := by simpa using hn
        clear h1
        generalize 2 ^ k = K at *
        go_wp2
        go_ret
        exact ⟨rfl, rfl⟩



end Go.Proofs.YtbajicgpjggkfaaGreat

/-
  Contracts of the document's answer 14: Put, Get.
-/
namespace Go.Proofs.YtbajicgpjggkfaaGreat
open Go.RowKit
set_option maxRecDepth 10000

set_option maxHeartbeats 1600000 in
theorem rput14_any (l : Lay14) (hmay : l.may = true) (hm : l.merge < 18446744073709551616) (w : World) :
    Calls Tryz.prog 67 #[.agg l.val] w (RetB w l.put) := by
  have HW := Lib.hid (wrap_blocks hmay)
  have HhL := Lib.hid l.head_len
  have HHd := Lib.hid (show magic ++ (leBytes 2 l.blocks.toNat ++ (leBytes 2 l.inodes.toNat ++ leBytes 8 l.merge)) = l.head from rfl)
  have HPd := Lib.hid (put_doc l)
  clear hmay
  go_enter Tryz.func67, Tryz.ntmps67
  go_wp2_with (refine wpList_box_row rfl _ _ rfl _ rfl ?_)
  apply Stop.go; intro w1 Hg1 Hb1
  go_wp2_with (refine wpList_conv_text rfl _ _ _ rfl Tryz.underlying70 Tryz.underlying5 magic _ rfl _ _ rfl ?_)
  apply Stop.go; intro w2 Hg2 Hr2
  have HB2 := Lib.hid (Hb1.out.ext Hg2.out.1)
  have E2 := Lib.hid (bt Hg1.out.1 Hg2.out.1)
  have c0 := HB2.out.lay0
  clear Hb1 Hg1 Hg2
  go_wp2_with fail
  rw [HW.out.1]
  refine (bytes_any 2 l.blocks.toNat (by omega) HW.out.2.1 _).mono ?_; rintro e w3 ⟨A3, n3, c3, rfl, hl3, hc3, hm3, hr3, hb3⟩
  have hn3 : n3 = 2 := by rw [← hl3, leBytes_len]
  subst hn3
  have HL3 := Lib.hid hl3
  have HR3 := Lib.hid hr3
  have HR2 := Lib.hid (Hr2.out.below hb3)
  have HB3 := Lib.hid (HB2.out.ext hb3)
  have E3 := Lib.hid (bt E2.out hb3)
  clear hl3 hc3 hm3 hr3 hb3 HB2 Hr2 c0 E2
  go_wp2_with (at_builtin; refine wpList_append_grow_bytes rfl _ _ _ _ rfl Tryz.underlying70 Tryz.byteInfo _ _ _ magic rfl magic_len HR2.out _ _ _ _ rfl HL3.out HR3.out (by omega) (by omega) (by omega) ?_)
  apply Stop.go; intro v4 w4 Ho4 He4
  have HB4 := Lib.hid (HB3.out.ext He4.out)
  have E4 := Lib.hid (bt E3.out He4.out)
  have Z4 := Lib.hid He4.out.size
  have c1 := HB4.out.lay1
  have ZB := Lib.hid HB3.out.lt
  generalize w3.heap.size = B at *
  have M4 : Hid ((magic ++ leBytes 2 l.blocks.toNat).length = 10) := Lib.hid (by rw [List.length_append, leBytes_len, magic_len])
  clear HB3 E3 HR2 HR3 HL3 He4
  go_wp2_with fail
  rw [HW.out.2.2.1]
  refine (bytes_any 2 l.inodes.toNat (by omega) HW.out.2.2.2 _).mono ?_; rintro e w5 ⟨A5, n5, c5, rfl, hl5, hc5, hm5, hr5, hb5⟩
  have hn5 : n5 = 2 := by rw [← hl5, leBytes_len]
  subst hn5
  have HL5 := Lib.hid hl5
  have HR5 := Lib.hid hr5
  have Ho5 := Lib.hid (Ho4.out.below hb5)
  have HB5 := Lib.hid (HB4.out.ext hb5)
  have E5 := Lib.hid (bt E4.out hb5)
  have Z5 := Lib.hid (Nat.le_trans Z4.out hb5.size)
  clear hl5 hc5 hm5 hr5 hb5 HB4 c1 E4 Ho4 Z4
  go_wp2_with (at_builtin; refine wpList_append_own_bytes rfl _ _ _ _ rfl Tryz.underlying70 Tryz.byteInfo B _ _ rfl Ho5.out Z5.out _ _ _ _ rfl HL5.out HR5.out (by omega) (by rw [M4.out]; omega) ?_)
  apply Stop.go; intro v6 w6 Ho6 He6
  have HB6 := Lib.hid (HB5.out.below He6.out ZB.out)
  have E6 := Lib.hid (E5.out.trans (He6.out.mono (Nat.le_of_lt ZB.out)))
  have Z6 := Lib.hid (Nat.le_trans Z5.out He6.out.size)
  have M6 : Hid ((magic ++ (leBytes 2 l.blocks.toNat ++ leBytes 2 l.inodes.toNat)).length = 12) := Lib.hid (by rw [← List.append_assoc, List.length_append, leBytes_len, M4.out])
  have c2 := HB6.out.lay2
  clear HB5 E5 Z5 Ho5 HR5 HL5 He6
  go_wp2_with fail
  refine (bytes_any 8 l.merge (by omega) hm _).mono ?_; rintro e w7 ⟨A7, n7, c7, rfl, hl7, hc7, hm7, hr7, hb7⟩
  have hn7 : n7 = 8 := by rw [← hl7, leBytes_len]
  subst hn7
  have HL7 := Lib.hid hl7
  have HR7 := Lib.hid hr7
  have Ho7 := Lib.hid (Ho6.out.below hb7)
  have E7 := Lib.hid (bt E6.out hb7)
  have Z7 := Lib.hid (Nat.le_trans Z6.out hb7.size)
  clear hl7 hc7 hm7 hr7 hb7 HB6 c2 E6 Ho6 Z6
  go_wp2_with (at_builtin; refine wpList_append_own_bytes rfl _ _ _ _ rfl Tryz.underlying70 Tryz.byteInfo B _ _ rfl Ho7.out Z7.out _ _ _ _ rfl HL7.out HR7.out (by omega) (by rw [M6.out]; omega) ?_)
  apply Stop.go; intro v8 w8 Ho8 He8
  have ho8 := Ho8.out
  rw [HHd.out] at ho8
  have E8 := Lib.hid (E7.out.trans (He8.out.mono (Nat.le_of_lt ZB.out)))
  have Z8 := Lib.hid (Nat.le_trans Z7.out He8.out.size)
  obtain ⟨A8, c8, rfl, hc8, hm8, hr8⟩ := ho8.read
  obtain ⟨a8, rfl⟩ := hr8.addr (by rw [HhL.out]; omega)
  have HO8 := Lib.hid ho8
  have HR8 := Lib.hid hr8
  obtain ⟨n8, hn8⟩ : ∃ n, l.head.length = n := ⟨_, rfl⟩
  rw [hn8] at HO8 ⊢
  have HN8 := Lib.hid hn8
  clear ho8 hr8 hc8 hm8 hn8 Ho8 HR7 HL7 E7 Z7 Ho7 He8
  go_wp2_with (refine wpList_bytes_text rfl _ _ _ _ rfl Tryz.underlying70 Tryz.underlying5 Tryz.underlying9 _ _ _ rfl l.head HN8.out HR8.out ?_)
  refine (rof_any ⟨l.head.toArray⟩ (by simp [ByteArray.size, HhL.out, maxLen]) _).mono ?_; rintro e wx ⟨rfl, rfl⟩
  rw [hashN_bytes]
  have hf := fnvs_start_lt l.head
  obtain ⟨F, HF⟩ : ∃ F, Hid (fnvs start l.head = F) := ⟨_, Lib.hid rfl⟩
  rw [HF.out] at hf ⊢
  go_wp2_with fail
  refine (bytes_any 4 F (by omega) (by omega) _).mono ?_; rintro e w9 ⟨A9, n9, c9, rfl, hl9, hc9, hm9, hr9, hb9⟩
  have hn9 : n9 = 4 := by rw [← hl9, leBytes_len]
  subst hn9
  have HL9 := Lib.hid hl9
  have HR9 := Lib.hid hr9
  have Ho9 := Lib.hid (HO8.out.below hb9)
  have E9 := Lib.hid (bt E8.out hb9)
  have Z9 := Lib.hid (Nat.le_trans Z8.out hb9.size)
  clear hl9 hc9 hm9 hr9 hb9 E8 Z8 HO8 HR8
  go_wp2_with (at_builtin; refine wpList_append_own_bytes rfl _ _ _ _ rfl Tryz.underlying70 Tryz.byteInfo B _ _ rfl Ho9.out Z9.out _ _ _ _ rfl HL9.out HR9.out (by omega) (by rw [HhL.out]; omega) ?_)
  apply Stop.go; intro v10 w10 Ho10 He10
  have E10 := Lib.hid (E9.out.trans (He10.out.mono (Nat.le_of_lt ZB.out)))
  obtain ⟨A10, c10, rfl, hc10, hm10, hr10⟩ := Ho10.out.read
  have HR10 := Lib.hid hr10
  have HPf : Hid (rlayL (zeros 256) 0 (l.head ++ leBytes 4 F) = l.put) := Lib.hid (by rw [← HF.out]; exact HPd.out)
  obtain ⟨D, HD⟩ : ∃ D, Hid (l.head ++ leBytes 4 F = D) := ⟨_, Lib.hid rfl⟩
  rw [HD.out] at HR10 HPf ⊢
  obtain ⟨nD, hnD⟩ : ∃ n, D.length = n := ⟨_, rfl⟩
  rw [hnD]
  have HnD := Lib.hid hnD
  clear hnD hr10 hc10 hm10 Ho10 HR9 HL9 E9 Z9 Ho9 He10 hf
  go_wp2_with (refine wpList_make_bytes rfl _ _ _ _ rfl Tryz.underlying70 Tryz.byteInfo _ _ _ _ 256 rfl rfl rfl rfl (by omega) ?_)
  apply Stop.go; intro w11 Hg11 Hb11
  go_wp2_with fail
  refine (rlay_any _ _ _ (zeros 256) (zeros_len 256) (by omega) _ _ _ _ D HnD.out _ (RB.of_blk0 Hb11.out) (HR10.out.below Hg11.out.1)).mono ?_; rintro e w12 ⟨A12, n12, c12, rfl, hl12, hc12, hm12, hr12, hb12⟩
  have HR12 := Lib.hid (show RB w12 A12 l.put from HPf.out ▸ hr12)
  have HL12 := Lib.hid (show l.put.length = n12 from HPf.out ▸ hl12)
  have E12 := Lib.hid (bt (bt E10.out Hg11.out.1) hb12)
  have Hc := Lib.hid hc12
  have Hm2 := Lib.hid hm12
  clear hl12 hc12 hm12 hr12 hb12
  go_wp2_with fail
  go_ret
  exact ⟨A12, n12, c12, rfl, HL12.out, Hc.out, Hm2.out, HR12.out, E12.out⟩

theorem get14_cases (L : List UInt8) (S : Lay14) (h : seen14 L = S) : (S.may = false → get14 L = none) ∧ (S.may = true → decide (S.put = L) = false → get14 L = none) ∧ (S.may = true → decide (S.put = L) = true → get14 L = some S) := by
  subst h
  unfold get14
  refine ⟨fun h => if_neg (by simp [h]), fun _ h2 => if_neg (by simpa using fun _ => by simpa using h2), fun h1 h2 => if_pos ⟨h1, by simpa using h2⟩⟩
set_option maxHeartbeats 1600000 in
theorem rget14_any (A : Option Addr) (n cap : Nat) (L : List UInt8) (hL : L.length = 256) (hn : L.length = n) (w : World) (hr : RB w A L) :
    Calls Tryz.prog 30 #[.slice A n cap] w fun e w' => e = .returned (.tuple #[.agg (got14 L).val, .bool (get14 L).isSome]) ∧ Below w.heap.size w w' := by
  obtain rfl : n = 256 := by rw [← hn, hL]
  have Hn := Lib.hid hn
  have Hr0 := Lib.hid hr
  obtain ⟨g8, g10, g12⟩ := getN_seen L hL
  have HM := Lib.hid (seen_merge L)
  obtain ⟨S, HS⟩ : ∃ S, Hid (seen14 L = S) := ⟨_, Lib.hid rfl⟩
  have hv : #[Value.int .i64 ((leVal ((L.drop 8).take 2) : Nat) : Int), .int .i64 ((leVal ((L.drop 10).take 2) : Nat) : Int), .int .u64 ((leVal ((L.drop 12).take 8) : Nat) : Int)] = S.val := by rw [← HS.out]; rfl
  rw [← g8, ← g10, ← g12] at hv
  obtain ⟨n8, HG8⟩ : ∃ n, Hid (getN L 8 2 4 = n) := ⟨_, Lib.hid rfl⟩
  obtain ⟨n10, HG10⟩ : ∃ n, Hid (getN L 10 2 4 = n) := ⟨_, Lib.hid rfl⟩
  obtain ⟨n12, HG12⟩ : ∃ n, Hid (getN L 12 8 8 = n) := ⟨_, Lib.hid rfl⟩
  rw [HG8.out, HG10.out, HG12.out] at hv
  have HSv := Lib.hid hv
  rw [HS.out] at HM
  have HC := Lib.hid (get14_cases L S HS.out)
  clear g8 g10 g12 hL hv hn hr
  go_enter Tryz.func30, Tryz.ntmps30
  go_wp2_with (refine wpList_alloc_row rfl _ rfl _ Tryz.layZero ?_)
  apply Stop.go; intro w1 Hg1 Hb1
  have Hr1 := Lib.hid (Hr0.out.below Hg1.out.1)
  go_wp2_with fail
  refine (rget_any _ _ _ L Hn.out (by unfold maxLen; omega) _ _ _ Hr1.out).mono ?_; rintro e wx ⟨rfl, rfl⟩
  rw [HG12.out]
  go_wp2_with fail
  refine (nrat_any _ _ _ L Hn.out (by unfold maxLen; omega) _ _ _ Hr1.out).mono ?_; rintro e wx ⟨rfl, rfl⟩
  rw [HG8.out]
  go_wp2_with fail
  refine (nrat_any _ _ _ L Hn.out (by unfold maxLen; omega) _ _ _ Hr1.out).mono ?_; rintro e wx ⟨rfl, rfl⟩
  rw [HG10.out]
  go_wp2_with (refine wpList_alloc_row rfl _ rfl _ Tryz.layZero ?_)
  apply Stop.go; intro w2 Hg2 Hb2
  go_wp2_with (refine wpList_store_arr rfl _ _ _ rfl _ S.val rfl (congrArg Value.agg HSv.out) _ _ Hb2.out Tryz.laySize rfl (val_one _) ?_)
  apply Stop.go; intro w3 Ho3 Hb3
  have z1 := Lib.hid Hg1.out.2
  have E3 := Lib.hid (bonly (bt Hg1.out.1 Hg2.out.1) Ho3.out Hg1.out.1.size)
  have HZ3 := Lib.hid ((Hb1.out.ext Hg2.out.1).only Ho3.out (by rw [z1.out]; omega))
  have Hr3 := Lib.hid (Hr0.out.below E3.out)
  generalize w1.heap.size = G at *
  clear Hg1 Hb1 Hg2 Hb2 Ho3 Hr1 HG8 HG10 HG12 HSv
  go_wp2_with (refine wpList_load_blk rfl _ _ rfl _ rfl _ _ Hb3.out _ Tryz.underlying26 rfl Tryz.laySize ?_)
  refine (rmay_any S _).mono ?_; rintro e w4 ⟨rfl, hb4⟩
  have E4 := Lib.hid (bt E3.out hb4)
  have HX4 := Lib.hid (Hb3.out.ext hb4)
  have HZ4 := Lib.hid (HZ3.out.ext hb4)
  have Hr4 := Lib.hid (Hr0.out.below E4.out)
  clear hb4 E3 Hb3 HZ3 Hr3
  obtain ⟨b, Hm⟩ : ∃ b, Hid (S.may = b) := ⟨_, Lib.hid rfl⟩
  rw [Hm.out]
  cases b
  · have HG0 := Lib.hid (HC.out.1 Hm.out)
    go_wp2_with (refine wpList_store_arr rfl _ _ _ rfl _ zero14.val rfl rfl _ _ HZ4.out Tryz.laySize rfl (val_one _) ?_)
    apply Stop.go; intro w7 Ho7 Hb7
    go_wp2_with ((with_reducible show bodyPost _ _ _ _ _ _); refine bodyPost_struct_tmp rfl _ rfl _ _ Hb7.out _ Tryz.underlying26 rfl Tryz.laySize rfl _ rfl ?_)
    apply Stop.go
    rw [got14, HG0.out]
    exact ⟨⟨rfl, rfl⟩, bonly E4.out Ho7.out (Nat.le_refl _)⟩
  · go_wp2_with (refine wpList_load_blk rfl _ _ rfl _ rfl _ _ HX4.out _ Tryz.underlying26 rfl Tryz.laySize ?_)
    refine (rput14_any S Hm.out HM.out _).mono ?_; rintro e w5 ⟨A5, n5, c5, rfl, hl5, hc5, hm5, hr5, hb5⟩
    have E5 := Lib.hid (bt E4.out hb5)
    have HX5 := Lib.hid (HX4.out.ext hb5)
    have HZ5 := Lib.hid (HZ4.out.ext hb5)
    have Hr5 := Lib.hid (Hr0.out.below E5.out)
    have HL5 := Lib.hid hl5
    have HR5 := Lib.hid hr5
    obtain rfl : n5 = 256 := by rw [← hl5, S.put_len]
    clear hb5 hl5 hc5 hm5 hr5 E4 HX4 HZ4 Hr4
    go_wp2_with fail
    refine (same_any _ _ _ S.put HL5.out _ _ _ L Hn.out (by unfold maxLen; omega) (by unfold maxLen; omega) _ HR5.out Hr5.out).mono ?_; rintro e w6 ⟨rfl, k6, rfl⟩
    have e6 := bdrew w5 k6
    obtain ⟨w6, hw6⟩ : ∃ x, w5.drewN k6 = x := ⟨_, rfl⟩
    rw [hw6] at e6 ⊢
    have E6 := Lib.hid (bt E5.out e6)
    have HX6 := Lib.hid (HX5.out.ext e6)
    have HZ6 := Lib.hid (HZ5.out.ext e6)
    clear e6 hw6 E5 HX5 HZ5 Hr5 HR5 HL5
    obtain ⟨r, Hr⟩ : ∃ r, Hid (decide (S.put = L) = r) := ⟨_, Lib.hid rfl⟩
    rw [Hr.out]
    cases r
    · have HG0 := Lib.hid (HC.out.2.1 Hm.out Hr.out)
      go_wp2_with (refine wpList_store_arr rfl _ _ _ rfl _ zero14.val rfl rfl _ _ HZ6.out Tryz.laySize rfl (val_one _) ?_)
      apply Stop.go; intro w7 Ho7 Hb7
      go_wp2_with ((with_reducible show bodyPost _ _ _ _ _ _); refine bodyPost_struct_tmp rfl _ rfl _ _ Hb7.out _ Tryz.underlying26 rfl Tryz.laySize rfl _ rfl ?_)
      apply Stop.go
      rw [got14, HG0.out]
      exact ⟨⟨rfl, rfl⟩, bonly E6.out Ho7.out (Nat.le_refl _)⟩
    · have HG1 := Lib.hid (HC.out.2.2 Hm.out Hr.out)
      go_wp2_with (first | refine wpList_load_blk rfl _ _ rfl _ rfl _ _ HX6.out _ Tryz.underlying26 rfl Tryz.laySize ?_ | refine wpList_store_arr rfl _ _ _ rfl _ S.val rfl rfl _ _ HZ6.out Tryz.laySize rfl (val_one _) ?_)
      apply Stop.go; intro w7 Ho7 Hb7
      go_wp2_with ((with_reducible show bodyPost _ _ _ _ _ _); refine bodyPost_struct_tmp rfl _ rfl _ _ Hb7.out _ Tryz.underlying26 rfl Tryz.laySize rfl _ rfl ?_)
      apply Stop.go
      rw [got14, HG1.out]
      exact ⟨⟨rfl, rfl⟩, bonly E6.out Ho7.out (Nat.le_refl _)⟩

end Go.Proofs.YtbajicgpjggkfaaGreat

/-
  Contracts of the document's answer 15: Area, Count, Is, Where.
-/
namespace Go.Proofs.YtbajicgpjggkfaaGreat
open Go.RowKit

set_option maxHeartbeats 1600000 in
theorem area_any (l : Lay14) (no : Int) (hno : no < 9223372036854775808) (w : World) :
    Calls Tryz.prog 77 #[.agg l.val, .int .i64 no] w fun e w' => e = .returned (.int .i64 (l.area no)) ∧ Below w.heap.size w w' := by
  go_enter Tryz.func77, Tryz.ntmps77
  go_wp2_with (refine wpList_box_row rfl _ _ rfl _ rfl ?_)
  apply Stop.go; intro w1 Hg1 Hb1
  go_wp2_with (refine wpList_load_blk rfl _ _ rfl _ rfl _ _ Hb1.out _ Tryz.underlying26 rfl Tryz.laySize ?_)
  refine (rmay_any l _).mono ?_; rintro e w2 ⟨rfl, hb2⟩
  have Hbel := Lib.hid (bt Hg1.out.1 hb2)
  have Hb2 := Lib.hid (Hb1.out.ext hb2)
  clear hb2
  have c0 := Hb2.out.lay0
  have c1 := Hb2.out.lay1
  obtain ⟨b, Hm⟩ : ∃ b, Hid (l.may = b) := ⟨_, Lib.hid rfl⟩
  rw [Hm.out]
  cases b
  · go_wp2_with fail
    go_ret
    rw [Lay14.area_off Hm.out]
    exact ⟨rfl, Hbel.out⟩
  · have h := Lay14.on Hm.out
    have h1 : 16 ≤ l.blocks := by omega
    have h2 : l.blocks ≤ 512 := by omega
    have HI := Lib.hid (show l.inodes = 8 * l.tn ∧ l.data = 2 + l.tn from ⟨h.2.2.1, h.2.2.2.2.2.1⟩)
    clear h
    by_cases t0 : no < 0
    · go_wp2_with fail
      go_ret
      rw [Lay14.area_out no (Or.inl t0)]
      exact ⟨rfl, Hbel.out⟩
    by_cases t1 : l.blocks ≤ no
    · go_wp2_with fail
      go_ret
      rw [Lay14.area_out no (Or.inr t1)]
      exact ⟨rfl, Hbel.out⟩
    by_cases t2 : no < 2
    · go_wp2_with fail
      go_ret
      rw [Lay14.area_low Hm.out no (by omega) t2]
      exact ⟨rfl, Hbel.out⟩
    have t3 : 2 ≤ no := by omega
    have t4 : no ≤ 512 := by omega
    by_cases t5 : (no - 2) * 8 < l.inodes
    · go_wp2_with fail
      go_ret
      rw [Lay14.area_ino Hm.out no t3 (by have := HI.out; omega)]
      exact ⟨rfl, Hbel.out⟩
    · go_wp2_with fail
      go_ret
      rw [Lay14.area_data Hm.out no (by have := HI.out; omega) (by omega)]
      exact ⟨rfl, Hbel.out⟩




end Go.Proofs.YtbajicgpjggkfaaGreat
