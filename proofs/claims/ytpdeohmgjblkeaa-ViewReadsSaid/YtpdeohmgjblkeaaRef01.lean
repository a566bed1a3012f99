import Derived.Test.YtpdeohmgjblkeaaGrA
import Derived.Test.YtpdeohmgjblkeaaSame
import Derived.BigQuiet
import Derived.Deep.QuietTactic
namespace Go.Proofs.Ytpdeohmgjblkeaa
open Go.RowKit



theorem leVal_cons_ge (l : List UInt8) (p k q : Nat) (hk : k + 1 ≤ q) (hp : p + q ≤ l.length) :
    leVal ((l.drop (p + k)).take (q - k)) = leVal ((l.drop (p + (k + 1))).take (q - (k + 1))) * 256 + (l[p + k]'(by omega)).toNat := by
  rw [List.drop_eq_getElem_cons (by omega), show q - k = (q - (k + 1)) + 1 from by omega, List.take_succ_cons, leVal, ← Nat.add_assoc]
  omega
set_option maxHeartbeats 800000 in
theorem rget_any (A : Option Addr) (n cap : Nat) (l : List UInt8) (hn : l.length = n) (hm : n ≤ maxLen) (a wd : Int) (w : World) (hr : RB w A l) :
    Calls Try.prog 44 #[.slice A n cap, .int .i64 a, .int .i64 wd] w fun e w' => e = .returned (.tuple #[.int .u64 (getN l a wd 8 : Nat), .bool (fitsB n a wd 8)]) ∧ w = w' := by
  unfold maxLen at hm
  have Hn := Lib.hid hn
  by_cases hf : fitsB n a wd 8 = true
  · have Hg := Lib.hid (show getN l a wd 8 = leVal ((l.drop a.toNat).take wd.toNat) by unfold getN; rw [hn, hf]; rfl)
    have h := hf
    simp only [fitsB, decide_eq_true_eq] at h
    obtain ⟨h1, h2, h3, h4⟩ := h
    obtain ⟨p, rfl⟩ := Int.eq_ofNat_of_zero_le h3
    obtain ⟨q, rfl⟩ := Int.eq_ofNat_of_zero_le (show 0 ≤ wd by omega)
    have Hf := Lib.hid hf
    have d1 : decide ((q : Int) < 1) = false := by simp; omega
    have d2 : decide ((8 : Int) < q) = false := by simp; omega
    have d3 : decide ((p : Int) < 0) = false := by simp
    have d4 : decide ((n : Int) - q < p) = false := by simp; omega
    clear hn hf
    go_enter Try.func44, Try.ntmps44
    go_wp2_with fail
    go_loop [8, 9] (fun v i => ∃ k : Nat, k ≤ q ∧ i = .int .i64 ((k : Int) - 1) ∧ v = .int .u64 (leVal ((l.drop (p + k)).take (q - k)) : Nat)) (fun _ i => (intOf i + 1).toNat)
    case atStart => exact ⟨q, Nat.le_refl _, rfl, by simp [leVal]⟩
    case round =>
      obtain ⟨k, hk, hi, rfl⟩ := hrel
      rcases k with _ | j
      · have hi : u9 = .int .i64 (-1) := by simpa using hi
        subst hi
        go_wp2_with fail
        go_ret2
        exact ⟨by rw [Hg.out, Hf.out]; rfl, rfl⟩
      · have hi : u9 = .int .i64 (j : Int) := by rw [hi]; congr 1; omega
        subst hi
        obtain ⟨ad, rfl, hc⟩ := hr (p + j) (by rw [Hn.out]; omega)
        have hb := (l[p + j]'(by rw [Hn.out]; omega)).toNat_lt
        have Hs := Lib.hid (leVal_cons_ge l p j q hk (by rw [Hn.out]; omega))
        have hl := leVal_lt ((l.drop (p + (j + 1))).take (q - (j + 1)))
        have hp : 2 ^ (8 * ((l.drop (p + (j + 1))).take (q - (j + 1))).length) ≤ 2 ^ 56 := Nat.pow_le_pow_right (by omega) (by simp; omega)
        generalize hV : leVal ((l.drop (p + (j + 1))).take (q - (j + 1))) = V at *
        have hl : V < 72057594037927936 := by omega
        have HV := Lib.hid hV
        clear hV hp
        go_wp2_with fail
        exact ⟨⟨j, by omega, rfl, by rw [Hs.out, Int.natCast_add, Int.natCast_mul]; rfl⟩, by simp [intOf]⟩
  · have hf' : fitsB n a wd 8 = false := by simpa using hf
    have Hg := Lib.hid (show getN l a wd 8 = 0 by unfold getN; rw [hn, hf']; rfl)
    have Hf := Lib.hid hf'
    clear hn hf
    by_cases h1 : 1 ≤ wd
    · by_cases h2 : wd ≤ 8
      · by_cases h3 : 0 ≤ a
        · have h4 : (n : Int) - wd < a := by
            simp only [fitsB, decide_eq_false_iff_not] at hf'
            omega
          clear hf'
          have d1 : decide (wd < 1) = false := by simp; omega
          have d2 : decide ((8 : Int) < wd) = false := by simp; omega
          have d3 : decide (a < 0) = false := by simp; omega
          have d4 : decide ((n : Int) - wd < a) = true := by simp; omega
          go_enter Try.func44, Try.ntmps44
          go_wp2_with fail
          go_ret2
          exact ⟨by rw [Hg.out, Hf.out]; rfl, rfl⟩
        · clear hf'
          have d1 : decide (wd < 1) = false := by simp; omega
          have d2 : decide ((8 : Int) < wd) = false := by simp; omega
          have d3 : decide (a < 0) = true := by simp; omega
          go_enter Try.func44, Try.ntmps44
          go_wp2_with fail
          go_ret2
          exact ⟨by rw [Hg.out, Hf.out]; rfl, rfl⟩
      · clear hf'
        have d1 : decide (wd < 1) = false := by simp; omega
        have d2 : decide ((8 : Int) < wd) = true := by simp; omega
        go_enter Try.func44, Try.ntmps44
        go_wp2_with fail
        go_ret2
        exact ⟨by rw [Hg.out, Hf.out]; rfl, rfl⟩
    · clear hf'
      have d1 : decide (wd < 1) = true := by simp; omega
      go_enter Try.func44, Try.ntmps44
      go_wp2_with fail
      go_ret2
      exact ⟨by rw [Hg.out, Hf.out]; rfl, rfl⟩

set_option maxHeartbeats 800000 in
theorem bytesO_any (n v : Nat) (hn : n ≤ 64) (hv : v < 18446744073709551616) (w : World) :
    Calls Try.prog 71 #[.int .i64 n, .int .u64 v] w fun e w' => ∃ u, e = .returned u ∧ OwnB w' w.heap.size 5 u (leBytes n v) ∧ Below w.heap.size w w' := by
  go_enter Try.func71, Try.ntmps71
  go_wp2_with fail
  go_loopw [1, 5, 6] (fun t o i wr => ∃ k : Nat, k ≤ n ∧ i = .int .i64 k ∧ t = .int .u64 (v / 2 ^ (8 * k) : Nat) ∧ OwnB wr w.heap.size 5 o (leBytes k v) ∧ Below w.heap.size w wr) (fun _ _ i _ => n - (intOf i).toNat)
  case atStart => exact ⟨0, Nat.zero_le _, rfl, by simp, OwnB.nil_ _ _ _, Below.refl _ _⟩
  case round =>
    obtain ⟨k, hk, rfl, rfl, how, hbw⟩ := hrel
    have How := Lib.hid how
    have Hbw := Lib.hid hbw
    clear how hbw
    have hlt2 : v / 2 ^ (8 * k) < 18446744073709551616 := Nat.lt_of_le_of_lt (Nat.div_le_self _ _) hv
    generalize hV : v / 2 ^ (8 * k) = V at *
    have HV := Lib.hid hV
    clear hV
    by_cases hlt : k < n
    · go_wp2_with (at_builtin; refine wpList_append_byte rfl _ _ _ _ rfl Try.underlying61 Try.byteInfo w.heap.size _ _ rfl How.out _ (UInt8.ofNat V) ?_ rfl Hbw.out.size (by rw [leBytes_len]; omega) ?_)
      · simp
      apply Stop.go; intro v1 w1 How1 Hb1
      go_wp2_with fail
      go_roundw
      case rel =>
        refine ⟨k + 1, by omega, by go_num, ?_, ?_, Hbw.out.trans Hb1.out⟩
        · rw [← HV.out, show 8 * (k + 1) = 8 * k + 8 from by omega, Nat.pow_add, ← Nat.div_div_eq_div_mul]; rfl
        · rw [leBytes_succ, HV.out]; exact How1.out
      case measure => simp [intOf]; omega
    · obtain rfl : k = n := by omega
      go_wp2_with fail
      go_ret
      exact ⟨_, rfl, How.out, Hbw.out⟩
theorem bytes_any (n v : Nat) (hn : n ≤ 64) (hv : v < 18446744073709551616) (w : World) :
    Calls Try.prog 71 #[.int .i64 n, .int .u64 v] w (RetB w (leBytes n v)) := (bytesO_any n v hn hv w).mono fun _ _ ⟨_, he, ho, hb⟩ => by
  obtain ⟨A, c, hv, h1, h2, h3⟩ := ho.read
  exact ⟨A, _, c, by rw [he, hv], rfl, h1, h2, h3, hb⟩



theorem getN_4 (l : List UInt8) (a wd : Int) (h : wd ≤ 4) : getN l a wd 8 = getN l a wd 4 := by
  unfold getN fitsB
  have : (1 ≤ wd ∧ wd ≤ 8 ∧ 0 ≤ a ∧ a ≤ (l.length : Int) - wd) ↔ (1 ≤ wd ∧ wd ≤ 4 ∧ 0 ≤ a ∧ a ≤ (l.length : Int) - wd) := by omega
  simp only [this]
theorem getN_lt (l : List UInt8) (a wd : Int) : getN l a wd 4 < 4294967296 := by
  unfold getN fitsB
  split
  · rename_i h
    simp only [decide_eq_true_eq] at h
    refine Nat.lt_of_lt_of_le (leVal_lt _) ?_
    have : 8 * ((l.drop a.toNat).take wd.toNat).length ≤ 32 := by simp; omega
    exact Nat.pow_le_pow_right (by omega) this
  · omega
theorem getN_big (l : List UInt8) (a wd : Int) (h : 4 < wd) : getN l a wd 4 = 0 := by
  unfold getN fitsB
  rw [if_neg (by simp; omega)]
set_option maxHeartbeats 800000 in
theorem nrat_any (A : Option Addr) (n cap : Nat) (l : List UInt8) (hn : l.length = n) (hm : n ≤ maxLen) (a wd : Int) (w : World) (hr : RB w A l) :
    Calls Try.prog 45 #[.slice A n cap, .int .i64 a, .int .i64 wd] w fun e w' => e = .returned (.int .i64 (getN l a wd 4 : Nat)) ∧ w = w' := by
  have Hn := Lib.hid hn
  clear hn
  by_cases h : wd ≤ 4
  · have d1 : decide ((4 : Int) < wd) = false := by simp; omega
    have hlt := getN_lt l a wd
    have H4 := Lib.hid (getN_4 l a wd h)
    go_enter Try.func45, Try.ntmps45
    go_wp2_with fail
    refine (rget_any _ _ _ l Hn.out hm _ _ _ hr).mono ?_; rintro e w' ⟨rfl, rfl⟩
    rw [H4.out]
    generalize hV : getN l a wd 4 = V at *
    have HV := Lib.hid hV
    clear hV
    go_wp2_with fail
    go_ret
    exact ⟨by rw [HV.out]; rfl, rfl⟩
  · have d1 : decide ((4 : Int) < wd) = true := by simp; omega
    have Hg := Lib.hid (getN_big l a wd (by omega))
    go_enter Try.func45, Try.ntmps45
    go_wp2_with fail
    go_ret
    exact ⟨by rw [Hg.out]; rfl, rfl⟩


theorem rcutL_cut (l : List UInt8) (h : l.length = 256) (a m : Int) : rcutL l a m = ncutL l a m := by
  unfold rcutL ncutL isPlaceB
  by_cases h1 : 0 ≤ a
  · by_cases h2 : a < 256
    · by_cases h3 : 1 ≤ m
      · rw [if_pos (by simpa using h1), if_pos (by simp; omega)]
      · rw [if_pos (by simpa using h1), if_neg (by simp; omega), show m.toNat = 0 from by omega]; simp
    · rw [if_pos (by simpa using h1), if_neg (by simp; omega), List.drop_of_length_le (by omega)]; simp
  · rw [if_neg (by simpa using h1), if_neg (by simp; omega)]

end Go.Proofs.Ytpdeohmgjblkeaa
