import Derived.Test.YtpegdcgpohdhnaaNum2
import Derived.BigQuiet
import Derived.Deep.QuietTactic
namespace Go.Proofs.Ytpegdcgpohdhnaa
open Go.RowKit

/-- The same bytes, and the world as it was, but for what was drawn. -/
def RetQ (v : Value) (w : World) (e : Ending) (w' : World) : Prop := e = .returned v ∧ ∃ k, w' = w.drewN k

set_option maxHeartbeats 400000 in
theorem same_any (A : Option Addr) (n cap : Nat) (l : List UInt8) (hn : l.length = n) (A' : Option Addr) (n' cap' : Nat) (l' : List UInt8) (hn' : l'.length = n') (hm : n ≤ maxLen) (hm' : n' ≤ maxLen) (w : World) (hr : RB w A l) (hr' : RB w A' l') :
    Calls Try.prog 12 #[.slice A n cap, .slice A' n' cap'] w (RetQ (.bool (decide (l = l'))) w) := by
  unfold maxLen at hm hm'
  have Hn := Lib.hid hn
  have Hn' := Lib.hid hn'
  by_cases hne : n = n'
  · subst hne
    clear hn hn'
    have hb : ((n : Int) != (n : Int)) = false := by simp
    go_enter Try.func12, Try.ntmps12
    go_wp2_with fail
    go_loopw [4, 5] (fun r i wr => ∃ k : Nat, k ≤ n ∧ i = .int .i64 k ∧ r = .bool false ∧ l.take k = l'.take k ∧ ∃ m, wr = w.drewN m) (fun _ i _ => n - (intOf i).toNat)
    case atStart => exact ⟨0, Nat.zero_le _, rfl, rfl, rfl, 0, rfl⟩
    case round =>
      obtain ⟨k, hk, rfl, rfl, heq, m, rfl⟩ := hrel
      have Heq := Lib.hid heq
      clear heq
      by_cases hlt : k < n
      · obtain ⟨ad, rfl, hc⟩ := hr k (by rw [Hn.out]; omega)
        obtain ⟨ad', rfl, hc'⟩ := hr' k (by rw [Hn'.out]; omega)
        have hb1 := (l[k]'(by rw [Hn.out]; omega)).toNat_lt
        have hb1' := (l'[k]'(by rw [Hn'.out]; omega)).toNat_lt
        by_cases hx : (l[k]'(by rw [Hn.out]; omega)) = (l'[k]'(by rw [Hn'.out]; omega))
        · have hxb : (((l[k]'(by rw [Hn.out]; omega)).toNat : Int) != ((l'[k]'(by rw [Hn'.out]; omega)).toNat : Int)) = false := by rw [hx]; simp
          have Hx := Lib.hid hx
          clear hx
          go_wp2_with fail
          go_quiet (fail)
          go_wp2_with fail
          go_roundw
          case rel =>
            refine ⟨k + 1, by omega, by go_num, rfl, ?_, m + nq, ?_⟩
            · rw [List.take_succ_eq_append_getElem (by rw [Hn.out]; omega), List.take_succ_eq_append_getElem (by rw [Hn'.out]; omega), Heq.out, Hx.out]
            · simp only [World.drewN_drewN]
          case measure => simp [intOf]; omega
        · have hxb : (((l[k]'(by rw [Hn.out]; omega)).toNat : Int) != ((l'[k]'(by rw [Hn'.out]; omega)).toNat : Int)) = true := by
            simp; intro h; exact hx (UInt8.toNat_inj.1 (by omega))
          have Hx := Lib.hid hx
          clear hx
          go_wp2_with fail
          go_quiet (fail)
          go_wp2_with fail
          go_ret
          refine ⟨?_, m + nq, ?_⟩
          · rw [decide_eq_false (fun h => Hx.out (by subst h; rfl))]; rfl
          · simp only [World.drewN_drewN]
      · go_wp2_with fail
        go_ret
        refine ⟨?_, m, rfl⟩
        have : l = l' := by
          have h := Heq.out
          rwa [List.take_of_length_le (by rw [Hn.out]; omega), List.take_of_length_le (by rw [Hn'.out]; omega)] at h
        rw [decide_eq_true this]; rfl
  · have hb : ((n : Int) != (n' : Int)) = true := by simp; omega
    clear hn hn'
    go_enter Try.func12, Try.ntmps12
    go_wp2_with fail
    go_ret
    refine ⟨?_, 0, rfl⟩
    rw [decide_eq_false (fun h => hne (by rw [← Hn.out, ← Hn'.out, h]))]; rfl

theorem leVal_cons_ge (l : List UInt8) (p k q : Nat) (hk : k + 1 ≤ q) (hp : p + q ≤ l.length) :
    leVal ((l.drop (p + k)).take (q - k)) = leVal ((l.drop (p + (k + 1))).take (q - (k + 1))) * 256 + (l[p + k]'(by omega)).toNat := by
  rw [List.drop_eq_getElem_cons (by omega), show q - k = (q - (k + 1)) + 1 from by omega, List.take_succ_cons, leVal, ← Nat.add_assoc]
  omega
set_option maxHeartbeats 800000 in
theorem rget_any (A : Option Addr) (n cap : Nat) (l : List UInt8) (hn : l.length = n) (hm : n ≤ maxLen) (a wd : Int) (w : World) (hr : RB w A l) :
    Calls Try.prog 9 #[.slice A n cap, .int .i64 a, .int .i64 wd] w fun e w' => e = .returned (.tuple #[.int .u64 (getN l a wd 8 : Nat), .bool (fitsB n a wd 8)]) ∧ w = w' := by
  unfold maxLen at hm
  have Hn := Lib.hid hn
  by_cases hf : fitsB n a wd 8 = true
  · have Hg := Lib.hid (show getN l a wd 8 = leVal ((l.drop a.toNat).take wd.toNat) by unfold getN; rw [hn, hf]; rfl)
    have h := hf
    simp only [fitsB, decide_eq_true_eq] at h
    obtain ⟨h1, h2, h3, h4⟩ := h
    obtain ⟨p, rfl⟩ := Int.eq_ofNat_of_zero_le h3
    obtain ⟨q, rfl⟩ := Int.eq_ofNat_of_zero_le (show 0 ≤ wd by omega)
    have Hf := Lib.hid hf
    have d1 : decide ((q : Int) < 1) = false := by simp; omega
    have d2 : decide ((8 : Int) < q) = false := by simp; omega
    have d3 : decide ((p : Int) < 0) = false := by simp
    have d4 : decide ((n : Int) - q < p) = false := by simp; omega
    clear hn hf
    go_enter Try.func9, Try.ntmps9
    go_wp2_with fail
    go_loop [8, 9] (fun v i => ∃ k : Nat, k ≤ q ∧ i = .int .i64 ((k : Int) - 1) ∧ v = .int .u64 (leVal ((l.drop (p + k)).take (q - k)) : Nat)) (fun _ i => (intOf i + 1).toNat)
    case atStart => exact ⟨q, Nat.le_refl _, rfl, by simp [leVal]⟩
    case round =>
      obtain ⟨k, hk, hi, rfl⟩ := hrel
      rcases k with _ | j
      · have hi : u9 = .int .i64 (-1) := by simpa using hi
        subst hi
        go_wp2_with fail
        go_ret2
        exact ⟨by rw [Hg.out, Hf.out]; rfl, rfl⟩
      · have hi : u9 = .int .i64 (j : Int) := by rw [hi]; congr 1; omega
        subst hi
        obtain ⟨ad, rfl, hc⟩ := hr (p + j) (by rw [Hn.out]; omega)
        have hb := (l[p + j]'(by rw [Hn.out]; omega)).toNat_lt
        have Hs := Lib.hid (leVal_cons_ge l p j q hk (by rw [Hn.out]; omega))
        have hl := leVal_lt ((l.drop (p + (j + 1))).take (q - (j + 1)))
        have hp : 2 ^ (8 * ((l.drop (p + (j + 1))).take (q - (j + 1))).length) ≤ 2 ^ 56 := Nat.pow_le_pow_right (by omega) (by simp; omega)
        generalize hV : leVal ((l.drop (p + (j + 1))).take (q - (j + 1))) = V at *
        have hl : V < 72057594037927936 := by omega
        have HV := Lib.hid hV
        clear hV hp
        go_wp2_with fail
        exact ⟨⟨j, by omega, rfl, by rw [Hs.out, Int.natCast_add, Int.natCast_mul]; rfl⟩, by simp [intOf]⟩
  · have hf' : fitsB n a wd 8 = false := by simpa using hf
    have Hg := Lib.hid (show getN l a wd 8 = 0 by unfold getN; rw [hn, hf']; rfl)
    have Hf := Lib.hid hf'
    clear hn hf
    by_cases h1 : 1 ≤ wd
    · by_cases h2 : wd ≤ 8
      · by_cases h3 : 0 ≤ a
        · have h4 : (n : Int) - wd < a := by
            simp only [fitsB, decide_eq_false_iff_not] at hf'
            omega
          clear hf'
          have d1 : decide (wd < 1) = false := by simp; omega
          have d2 : decide ((8 : Int) < wd) = false := by simp; omega
          have d3 : decide (a < 0) = false := by simp; omega
          have d4 : decide ((n : Int) - wd < a) = true := by simp; omega
          go_enter Try.func9, Try.ntmps9
          go_wp2_with fail
          go_ret2
          exact ⟨by rw [Hg.out, Hf.out]; rfl, rfl⟩
        · clear hf'
          have d1 : decide (wd < 1) = false := by simp; omega
          have d2 : decide ((8 : Int) < wd) = false := by simp; omega
          have d3 : decide (a < 0) = true := by simp; omega
          go_enter Try.func9, Try.ntmps9
          go_wp2_with fail
          go_ret2
          exact ⟨by rw [Hg.out, Hf.out]; rfl, rfl⟩
      · clear hf'
        have d1 : decide (wd < 1) = false := by simp; omega
        have d2 : decide ((8 : Int) < wd) = true := by simp; omega
        go_enter Try.func9, Try.ntmps9
        go_wp2_with fail
        go_ret2
        exact ⟨by rw [Hg.out, Hf.out]; rfl, rfl⟩
    · clear hf'
      have d1 : decide (wd < 1) = true := by simp; omega
      go_enter Try.func9, Try.ntmps9
      go_wp2_with fail
      go_ret2
      exact ⟨by rw [Hg.out, Hf.out]; rfl, rfl⟩

set_option maxHeartbeats 800000 in
theorem bytes_any (n v : Nat) (hn : n ≤ 64) (hv : v < 18446744073709551616) (w : World) :
    Calls Try.prog 25 #[.int .i64 n, .int .u64 v] w (RetB w (leBytes n v)) := by
  go_enter Try.func25, Try.ntmps25
  go_wp2_with fail
  go_loopw [1, 5, 6] (fun t o i wr => ∃ k : Nat, k ≤ n ∧ i = .int .i64 k ∧ t = .int .u64 (v / 2 ^ (8 * k) : Nat) ∧ OwnB wr w.heap.size 5 o (leBytes k v) ∧ Below w.heap.size w wr) (fun _ _ i _ => n - (intOf i).toNat)
  case atStart => exact ⟨0, Nat.zero_le _, rfl, by simp, OwnB.nil_ _ _ _, Below.refl _ _⟩
  case round =>
    obtain ⟨k, hk, rfl, rfl, how, hbw⟩ := hrel
    have How := Lib.hid how
    have Hbw := Lib.hid hbw
    clear how hbw
    have hlt2 : v / 2 ^ (8 * k) < 18446744073709551616 := Nat.lt_of_le_of_lt (Nat.div_le_self _ _) hv
    generalize hV : v / 2 ^ (8 * k) = V at *
    have HV := Lib.hid hV
    clear hV
    by_cases hlt : k < n
    · go_wp2_with (at_builtin; refine wpList_append_byte rfl _ _ _ _ rfl Try.underlying22 Try.byteInfo w.heap.size _ _ rfl How.out _ (UInt8.ofNat V) ?_ rfl Hbw.out.size (by rw [leBytes_len]; omega) ?_)
      · simp
      apply Stop.go; intro v1 w1 How1 Hb1
      go_wp2_with fail
      go_roundw
      case rel =>
        refine ⟨k + 1, by omega, by go_num, ?_, ?_, Hbw.out.trans Hb1.out⟩
        · rw [← HV.out, show 8 * (k + 1) = 8 * k + 8 from by omega, Nat.pow_add, ← Nat.div_div_eq_div_mul]; rfl
        · rw [leBytes_succ, HV.out]; exact How1.out
      case measure => simp [intOf]; omega
    · obtain rfl : k = n := by omega
      go_wp2_with fail
      go_ret
      obtain ⟨A, c, hv, h1, h2, h3⟩ := How.out.read
      exact ⟨A, _, c, congrArg Ending.returned hv, rfl, h1, h2, h3, Hbw.out⟩

/-- A list with other bytes from a place on, as far as it goes. -/
def rlayL (L : List UInt8) (a : Int) (d : List UInt8) : List UInt8 := if decide (0 ≤ a) && decide (a ≤ L.length) then splice L a.toNat (d.take (L.length - a.toNat)) else L
theorem rlayL_len (L : List UInt8) (a : Int) (d : List UInt8) : (rlayL L a d).length = L.length := by
  unfold rlayL
  split
  · rename_i h
    simp at h
    exact splice_len _ _ _ (by simp; omega)
  · rfl
theorem rlayL_get (L : List UInt8) (a : Int) (d : List UInt8) (k : Nat) (hk : k < L.length) :
    (rlayL L a d)[k]? = if 0 ≤ a ∧ a ≤ k ∧ (k : Int) - a < d.length then d[((k : Int) - a).toNat]? else some L[k] := by
  unfold rlayL
  by_cases h : decide (0 ≤ a) && decide (a ≤ L.length)
  · rw [if_pos h]
    simp at h
    obtain ⟨p, rfl⟩ := Int.eq_ofNat_of_zero_le h.1
    have hp : p ≤ L.length := by omega
    rw [Int.toNat_natCast, splice_get _ _ _ (by simp; omega)]
    by_cases hc : p ≤ k ∧ k - p < d.length
    · rw [if_pos (by simp; omega), if_pos (by omega), List.getElem?_take_of_lt (by omega)]
      congr 1; omega
    · rw [if_neg (by simp; omega), if_neg (by omega), List.getElem?_eq_getElem hk]
  · rw [if_neg h]
    simp at h
    rw [if_neg (by omega), List.getElem?_eq_getElem hk]
theorem take_succ_get (l : List UInt8) (k : Nat) (x : UInt8) (h : l[k]? = some x) : l.take (k + 1) = l.take k ++ [x] := by
  obtain ⟨hk, rfl⟩ := List.getElem?_eq_some_iff.1 h
  rw [List.take_succ_eq_append_getElem hk]
set_option maxHeartbeats 1000000 in
theorem rlay_any (A : Option Addr) (n cap : Nat) (l : List UInt8) (hn : l.length = n) (hm : n ≤ 70368744177664) (a : Int) (A' : Option Addr) (n' cap' : Nat) (l' : List UInt8) (hn' : l'.length = n') (w : World) (hr : RB w A l) (hr' : RB w A' l') :
    Calls Try.prog 21 #[.slice A n cap, .int .i64 a, .slice A' n' cap'] w (RetB w (rlayL l a l')) := by
  have Hn := Lib.hid hn
  have Hn' := Lib.hid hn'
  clear hn hn'
  go_enter Try.func21, Try.ntmps21
  go_wp2_with fail
  go_loopw [7, 8] (fun o i wr => ∃ k : Nat, k ≤ n ∧ i = .int .i64 k ∧ OwnB wr w.heap.size 5 o ((rlayL l a l').take k) ∧ Below w.heap.size w wr) (fun _ i _ => n - (intOf i).toNat)
  case atStart => exact ⟨0, Nat.zero_le _, rfl, OwnB.nil_ _ _ _, Below.refl _ _⟩
  case round =>
    obtain ⟨k, hk, rfl, how, hbw⟩ := hrel
    have How := Lib.hid how
    have Hbw := Lib.hid hbw
    clear how hbw
    by_cases hlt : k < n
    · have hkl : k < l.length := by rw [Hn.out]; omega
      obtain ⟨ad, rfl, hc0⟩ := hr k hkl
      have hc := ((hr.below Hbw.out) k hkl)
      obtain ⟨ad1, e1, hc⟩ := hc
      injection e1 with e1
      subst e1
      clear hc0
      have hb := (l[k]).toNat_lt
      have hlen1 : ((rlayL l a l').take k).length + 1 ≤ 140737488355328 := by simp; omega
      by_cases hin : 0 ≤ a ∧ a ≤ k ∧ (k : Int) - a < n'
      · obtain ⟨i1, i2, i3⟩ := hin
        obtain ⟨p, rfl⟩ := Int.eq_ofNat_of_zero_le i1
        have hml : k - p < l'.length := by rw [Hn'.out]; omega
        obtain ⟨ad', rfl, hc0'⟩ := hr' (k - p) hml
        obtain ⟨ad1', e1', hc'⟩ := ((hr'.below Hbw.out) (k - p) hml)
        injection e1' with e1'
        subst e1'
        clear hc0'
        have hb' := (l'[k - p]).toNat_lt
        have Hx := Lib.hid (show (rlayL l p l')[k]? = some l'[k - p] by rw [rlayL_get _ _ _ _ hkl, if_pos ⟨i1, i2, by rw [Hn'.out]; exact i3⟩, show ((k : Int) - p).toNat = k - p from by omega, List.getElem?_eq_getElem hml])
        have d1 : decide (0 ≤ (p : Int)) = true := by simp
        have d2 : decide ((p : Int) ≤ (k : Int)) = true := by simpa using i2
        have d3 : decide ((k : Int) - p < n') = true := by simpa using i3
        have d2' : p ≤ k := by omega
        go_wp2_with (at_builtin; refine wpList_append_byte rfl _ _ _ _ rfl Try.underlying22 Try.byteInfo w.heap.size _ _ rfl How.out _ l'[k - p] rfl rfl Hbw.out.size hlen1 ?_)
        apply Stop.go; intro v1 w1 How1 Hb1
        go_wp2_with fail
        go_roundw
        case rel => exact ⟨k + 1, by omega, by go_num, by rw [take_succ_get _ _ _ Hx.out]; exact How1.out, Hbw.out.trans Hb1.out⟩
        case measure => simp [intOf]; omega
      · have Hx := Lib.hid (show (rlayL l a l')[k]? = some l[k] by rw [rlayL_get _ _ _ _ hkl, if_neg (by rw [Hn'.out]; exact hin)])
        by_cases c1 : 0 ≤ a
        · have d1 : decide (0 ≤ a) = true := by simpa using c1
          by_cases c2 : a ≤ k
          · have d2 : decide (a ≤ (k : Int)) = true := by simpa using c2
            have d3 : decide ((k : Int) - a < n') = false := by simp; omega
            go_wp2_with (at_builtin; refine wpList_append_byte rfl _ _ _ _ rfl Try.underlying22 Try.byteInfo w.heap.size _ _ rfl How.out _ l[k] rfl rfl Hbw.out.size hlen1 ?_)
            apply Stop.go; intro v1 w1 How1 Hb1
            go_wp2_with fail
            go_roundw
            case rel => exact ⟨k + 1, by omega, by go_num, by rw [take_succ_get _ _ _ Hx.out]; exact How1.out, Hbw.out.trans Hb1.out⟩
            case measure => simp [intOf]; omega
          · have d2 : decide (a ≤ (k : Int)) = false := by simpa using c2
            go_wp2_with (at_builtin; refine wpList_append_byte rfl _ _ _ _ rfl Try.underlying22 Try.byteInfo w.heap.size _ _ rfl How.out _ l[k] rfl rfl Hbw.out.size hlen1 ?_)
            apply Stop.go; intro v1 w1 How1 Hb1
            go_wp2_with fail
            go_roundw
            case rel => exact ⟨k + 1, by omega, by go_num, by rw [take_succ_get _ _ _ Hx.out]; exact How1.out, Hbw.out.trans Hb1.out⟩
            case measure => simp [intOf]; omega
        · have d1 : decide (0 ≤ a) = false := by simpa using c1
          go_wp2_with (at_builtin; refine wpList_append_byte rfl _ _ _ _ rfl Try.underlying22 Try.byteInfo w.heap.size _ _ rfl How.out _ l[k] rfl rfl Hbw.out.size hlen1 ?_)
          apply Stop.go; intro v1 w1 How1 Hb1
          go_wp2_with fail
          go_roundw
          case rel => exact ⟨k + 1, by omega, by go_num, by rw [take_succ_get _ _ _ Hx.out]; exact How1.out, Hbw.out.trans Hb1.out⟩
          case measure => simp [intOf]; omega
    · obtain rfl : k = n := by omega
      have e1 : (rlayL l a l').take k = rlayL l a l' := List.take_of_length_le (by rw [rlayL_len, Hn.out]; omega)
      have how := How.out
      rw [e1] at how
      have How2 := Lib.hid how
      clear how e1
      go_wp2_with fail
      go_ret
      obtain ⟨A, c, hv, h1, h2, h3⟩ := How2.out.read
      exact ⟨A, _, c, congrArg Ending.returned hv, rfl, h1, h2, h3, Hbw.out⟩

theorem rlayL_put (l : List UInt8) (p q v : Nat) (h : p + q ≤ l.length) : rlayL l p (leBytes q v) = splice l p (leBytes q v) := by
  unfold rlayL
  rw [if_pos (by simp; omega), Int.toNat_natCast, List.take_of_length_le (by rw [leBytes_len]; omega)]
set_option maxHeartbeats 800000 in
theorem rput_any (A : Option Addr) (n cap : Nat) (l : List UInt8) (hn : l.length = n) (hm : n ≤ 70368744177664) (a wd : Int) (v : Nat) (hv : v < 18446744073709551616) (w : World) (hr : RB w A l) :
    Calls Try.prog 11 #[.slice A n cap, .int .i64 a, .int .i64 wd, .int .u64 v] w (RetBB w (putL l a wd v) (fitsB n a wd 8)) := by
  have Hn := Lib.hid hn
  by_cases hf : fitsB n a wd 8 = true
  · have Hg := Lib.hid (show putL l a wd v = splice l a.toNat (leBytes wd.toNat v) by unfold putL; rw [hn, hf]; rfl)
    have h := hf
    simp only [fitsB, decide_eq_true_eq] at h
    obtain ⟨h1, h2, h3, h4⟩ := h
    obtain ⟨p, rfl⟩ := Int.eq_ofNat_of_zero_le h3
    obtain ⟨q, rfl⟩ := Int.eq_ofNat_of_zero_le (show 0 ≤ wd by omega)
    have Hf := Lib.hid hf
    have Hl := Lib.hid (rlayL_put l p q v (by rw [hn]; omega))
    have d1 : decide ((q : Int) < 1) = false := by simp; omega
    have d2 : decide ((8 : Int) < q) = false := by simp; omega
    have d3 : decide ((p : Int) < 0) = false := by simp
    have d4 : decide ((n : Int) - q < p) = false := by simp; omega
    clear hn hf
    go_enter Try.func11, Try.ntmps11
    go_wp2_with fail
    refine (bytes_any q v (by omega) hv _).mono ?_; rintro e w' ⟨A1, n1, c1, rfl, hl1, hc1, hm1, hr1, hb1⟩
    have Hl1 := Lib.hid hl1
    have Hr1 := Lib.hid hr1
    have Hb1 := Lib.hid hb1
    clear hl1 hr1 hb1
    go_wp2_with fail
    refine (rlay_any _ _ _ l Hn.out hm _ _ _ _ _ Hl1.out _ (hr.below Hb1.out) Hr1.out).mono ?_; rintro e w' ⟨A2, n2, c2, rfl, hl2, hc2, hm2, hr2, hb2⟩
    have Hl2 := Lib.hid hl2
    have Hr2 := Lib.hid hr2
    have Hb2 := Lib.hid hb2
    clear hl2 hr2 hb2
    go_wp2_with fail
    go_ret2
    rw [Hg.out, Hf.out]
    have e := Hl.out
    have h2l := Hl2.out
    have h2r := Hr2.out
    rw [e] at h2l h2r
    exact ⟨A2, n2, c2, rfl, h2l, hc2, hm2, h2r, Hb1.out.trans (Hb2.out.mono Hb1.out.size)⟩
  · have hf' : fitsB n a wd 8 = false := by simpa using hf
    have Hg := Lib.hid (show putL l a wd v = [] by unfold putL; rw [hn, hf']; rfl)
    have Hf := Lib.hid hf'
    have fin : ∀ e, e = Ending.returned (.tuple #[.slice none 0 0, .bool false]) → RetBB w (putL l a wd v) (fitsB n a wd 8) e w := by
      intro e he
      rw [Hg.out, Hf.out]
      exact ⟨none, 0, 0, he, rfl, by omega, by unfold maxLen; omega, RB.nil_ _ _, Below.refl _ _⟩
    have Fin := Lib.hid fin
    clear hn hf fin
    by_cases h1 : 1 ≤ wd
    · by_cases h2 : wd ≤ 8
      · by_cases h3 : 0 ≤ a
        · have h4 : (n : Int) - wd < a := by
            simp only [fitsB, decide_eq_false_iff_not] at hf'
            omega
          clear hf'
          have d1 : decide (wd < 1) = false := by simp; omega
          have d2 : decide ((8 : Int) < wd) = false := by simp; omega
          have d3 : decide (a < 0) = false := by simp; omega
          have d4 : decide ((n : Int) - wd < a) = true := by simp; omega
          go_enter Try.func11, Try.ntmps11
          go_wp2_with fail
          go_ret2
          exact Fin.out _ rfl
        · clear hf'
          have d1 : decide (wd < 1) = false := by simp; omega
          have d2 : decide ((8 : Int) < wd) = false := by simp; omega
          have d3 : decide (a < 0) = true := by simp; omega
          go_enter Try.func11, Try.ntmps11
          go_wp2_with fail
          go_ret2
          exact Fin.out _ rfl
      · clear hf'
        have d1 : decide (wd < 1) = false := by simp; omega
        have d2 : decide ((8 : Int) < wd) = true := by simp; omega
        go_enter Try.func11, Try.ntmps11
        go_wp2_with fail
        go_ret2
        exact Fin.out _ rfl
    · clear hf'
      have d1 : decide (wd < 1) = true := by simp; omega
      go_enter Try.func11, Try.ntmps11
      go_wp2_with fail
      go_ret2
      exact Fin.out _ rfl

theorem getN_4 (l : List UInt8) (a wd : Int) (h : wd ≤ 4) : getN l a wd 8 = getN l a wd 4 := by
  unfold getN fitsB
  have : (1 ≤ wd ∧ wd ≤ 8 ∧ 0 ≤ a ∧ a ≤ (l.length : Int) - wd) ↔ (1 ≤ wd ∧ wd ≤ 4 ∧ 0 ≤ a ∧ a ≤ (l.length : Int) - wd) := by omega
  simp only [this]
theorem getN_lt (l : List UInt8) (a wd : Int) : getN l a wd 4 < 4294967296 := by
  unfold getN fitsB
  split
  · rename_i h
    simp only [decide_eq_true_eq] at h
    refine Nat.lt_of_lt_of_le (leVal_lt _) ?_
    have : 8 * ((l.drop a.toNat).take wd.toNat).length ≤ 32 := by simp; omega
    exact Nat.pow_le_pow_right (by omega) this
  · omega
theorem getN_big (l : List UInt8) (a wd : Int) (h : 4 < wd) : getN l a wd 4 = 0 := by
  unfold getN fitsB
  rw [if_neg (by simp; omega)]
set_option maxHeartbeats 800000 in
theorem rat_any (A : Option Addr) (n cap : Nat) (l : List UInt8) (hn : l.length = n) (hm : n ≤ maxLen) (a wd : Int) (w : World) (hr : RB w A l) :
    Calls Try.prog 17 #[.slice A n cap, .int .i64 a, .int .i64 wd] w fun e w' => e = .returned (.int .i64 (getN l a wd 4 : Nat)) ∧ w = w' := by
  have Hn := Lib.hid hn
  clear hn
  by_cases h : wd ≤ 4
  · have d1 : decide ((4 : Int) < wd) = false := by simp; omega
    have hlt := getN_lt l a wd
    have H4 := Lib.hid (getN_4 l a wd h)
    go_enter Try.func17, Try.ntmps17
    go_wp2_with fail
    refine (rget_any _ _ _ l Hn.out hm _ _ _ hr).mono ?_; rintro e w' ⟨rfl, rfl⟩
    rw [H4.out]
    generalize hV : getN l a wd 4 = V at *
    have HV := Lib.hid hV
    clear hV
    go_wp2_with fail
    go_ret
    exact ⟨by rw [HV.out]; rfl, rfl⟩
  · have d1 : decide ((4 : Int) < wd) = true := by simp; omega
    have Hg := Lib.hid (getN_big l a wd (by omega))
    go_enter Try.func17, Try.ntmps17
    go_wp2_with fail
    go_ret
    exact ⟨by rw [Hg.out]; rfl, rfl⟩

theorem withL_put (l : List UInt8) (a wd : Int) (v : Nat) (h : wd ≤ 4) : withL l a wd v = if fitsB l.length a wd 8 then putL l a wd v else l := by
  unfold withL putL fitsB
  have : (1 ≤ wd ∧ wd ≤ 8 ∧ 0 ≤ a ∧ a ≤ (l.length : Int) - wd) ↔ (1 ≤ wd ∧ wd ≤ 4 ∧ 0 ≤ a ∧ a ≤ (l.length : Int) - wd) := by omega
  simp only [this]
  split <;> rfl
set_option maxHeartbeats 800000 in
theorem rwith_any (A : Option Addr) (n cap : Nat) (l : List UInt8) (hn : l.length = n) (hc : n ≤ cap) (hcm : cap ≤ maxLen) (hm : n ≤ 70368744177664) (a wd v : Int) (V : Nat) (hv : IntKind.u64.wrap v = V) (hV : V < 18446744073709551616) (w : World) (hr : RB w A l) :
    Calls Try.prog 18 #[.slice A n cap, .int .i64 a, .int .i64 wd, .int .i64 v] w (RetB w (withL l a wd V)) := by
  have Hn := Lib.hid hn
  have HV := Lib.hid hv
  have Hcm := Lib.hid hcm
  clear hv hcm
  by_cases h : wd ≤ 4
  · have d1 : decide ((4 : Int) < wd) = false := by simp; omega
    have Hw := Lib.hid (withL_put l a wd V h)
    by_cases hf : fitsB n a wd 8 = true
    · clear hn
      go_enter Try.func18, Try.ntmps18
      go_wp2_with fail
      rw [HV.out]
      refine (rput_any _ _ _ l Hn.out hm _ _ V hV _ hr).mono ?_; rintro e w' ⟨A1, n1, c1, rfl, hl1, hc1, hm1, hr1, hb1⟩
      have Hl1 := Lib.hid hl1
      have Hr1 := Lib.hid hr1
      have Hb1 := Lib.hid hb1
      have Hm1 := Lib.hid hm1
      clear hl1 hr1 hb1 hm1
      go_wp2_with fail
      go_ret
      rw [Hw.out, Hn.out, hf]
      exact ⟨A1, n1, c1, rfl, Hl1.out, hc1, Hm1.out, Hr1.out, Hb1.out⟩
    · have hf' : fitsB n a wd 8 = false := by simpa using hf
      clear hf hn
      go_enter Try.func18, Try.ntmps18
      go_wp2_with fail
      rw [HV.out]
      refine (rput_any _ _ _ l Hn.out hm _ _ V hV _ hr).mono ?_; rintro e w' ⟨A1, n1, c1, rfl, hl1, hc1, hm1, hr1, hb1⟩
      have Hl1 := Lib.hid hl1
      have Hr1 := Lib.hid hr1
      have Hb1 := Lib.hid hb1
      have Hm1 := Lib.hid hm1
      clear hl1 hr1 hb1 hm1
      go_wp2_with fail
      go_ret
      rw [Hw.out, Hn.out, hf']
      exact ⟨A, n, cap, rfl, Hn.out, hc, Hcm.out, hr.below Hb1.out, Hb1.out⟩
  · have d1 : decide ((4 : Int) < wd) = true := by simp; omega
    have Hg := Lib.hid (show withL l a wd V = l by unfold withL fitsB; rw [if_neg (by simp; omega)])
    clear hn
    go_enter Try.func18, Try.ntmps18
    go_wp2_with fail
    go_ret
    rw [Hg.out]
    exact ⟨A, n, cap, rfl, Hn.out, hc, Hcm.out, hr, Below.refl _ _⟩

/-- The bytes from a on, at most m. -/
def rcutL (l : List UInt8) (a m : Int) : List UInt8 := if decide (0 ≤ a) then (l.drop a.toNat).take m.toNat else []
theorem rcutL_cut (l : List UInt8) (h : l.length = 256) (a m : Int) : rcutL l a m = cutL l a m := by
  unfold rcutL cutL isPlaceB
  by_cases h1 : 0 ≤ a
  · by_cases h2 : a < 256
    · by_cases h3 : 1 ≤ m
      · rw [if_pos (by simpa using h1), if_pos (by simp; omega)]
      · rw [if_pos (by simpa using h1), if_neg (by simp; omega), show m.toNat = 0 from by omega]; simp
    · rw [if_pos (by simpa using h1), if_neg (by simp; omega), List.drop_of_length_le (by omega)]; simp
  · rw [if_neg (by simpa using h1), if_neg (by simp; omega)]
set_option maxHeartbeats 1000000 in
theorem rcut_any (A : Option Addr) (n cap : Nat) (l : List UInt8) (hn : l.length = n) (hm : n ≤ 70368744177664) (a m : Int) (w : World) (hr : RB w A l) :
    Calls Try.prog 20 #[.slice A n cap, .int .i64 a, .int .i64 m] w (RetB w (rcutL l a m)) := by
  have Hn := Lib.hid hn
  clear hn
  by_cases h1 : 0 ≤ a
  · obtain ⟨p, rfl⟩ := Int.eq_ofNat_of_zero_le h1
    have Hg := Lib.hid (show rcutL l p m = (l.drop p).take m.toNat by unfold rcutL; simp)
    have d1 : decide (0 ≤ (p : Int)) = true := by simp
    go_enter Try.func20, Try.ntmps20
    go_wp2_with fail
    go_loopw [7, 8] (fun o i wr => ∃ k : Nat, i = .int .i64 ((p : Int) + k) ∧ (k = 0 ∨ (p + k ≤ n ∧ (k : Int) ≤ m)) ∧ OwnB wr w.heap.size 5 o ((l.drop p).take k) ∧ Below w.heap.size w wr) (fun _ i _ => n - (intOf i).toNat)
    case atStart => exact ⟨0, by simp, Or.inl rfl, OwnB.nil_ _ _ _, Below.refl _ _⟩
    case round =>
      obtain ⟨k, rfl, hk, how, hbw⟩ := hrel
      have How := Lib.hid how
      have Hbw := Lib.hid hbw
      clear how hbw
      have Hk := Lib.hid hk
      clear hk
      by_cases c1 : p + k < n
      · have d2 : decide ((p : Int) + k < n) = true := by simp; omega
        by_cases c2 : (k : Int) < m
        · have d3 : decide ((p : Int) + k - p < m) = true := by simp; omega
          have hkl : p + k < l.length := by rw [Hn.out]; omega
          obtain ⟨ad, rfl, hc0⟩ := hr (p + k) hkl
          obtain ⟨ad1, e1, hc⟩ := ((hr.below Hbw.out) (p + k) hkl)
          injection e1 with e1
          subst e1
          clear hc0
          have hb := (l[p + k]).toNat_lt
          have hlen1 : ((l.drop p).take k).length + 1 ≤ 140737488355328 := by simp; omega
          have Hx := Lib.hid (show (l.drop p)[k]? = some l[p + k] by rw [List.getElem?_drop, List.getElem?_eq_getElem hkl])
          go_wp2_with (at_builtin; refine wpList_append_byte rfl _ _ _ _ rfl Try.underlying22 Try.byteInfo w.heap.size _ _ rfl How.out _ l[p + k] rfl rfl Hbw.out.size hlen1 ?_)
          apply Stop.go; intro v1 w1 How1 Hb1
          go_wp2_with fail
          go_roundw
          case rel => exact ⟨k + 1, by go_num, Or.inr ⟨by omega, by omega⟩, by rw [take_succ_get _ _ _ Hx.out]; exact How1.out, Hbw.out.trans Hb1.out⟩
          case measure => simp [intOf]; omega
        · have d3 : decide ((p : Int) + k - p < m) = false := by simp; omega
          have e1 : (l.drop p).take k = (l.drop p).take m.toNat := by
            rcases Hk.out with h | ⟨_, h⟩
            · rw [h, show m.toNat = 0 from by omega]
            · rw [show m.toNat = k from by omega]
          have how := How.out
          rw [e1] at how
          have How2 := Lib.hid how
          clear how e1
          go_wp2_with fail
          go_ret
          obtain ⟨A, c, hv, h1, h2, h3⟩ := How2.out.read
          rw [Hg.out]
          exact ⟨A, _, c, congrArg Ending.returned hv, rfl, h1, h2, h3, Hbw.out⟩
      · have d2 : decide ((p : Int) + k < n) = false := by simp; omega
        have e1 : (l.drop p).take k = (l.drop p).take m.toNat := by
          rcases Hk.out with h | ⟨h1, h2⟩
          · rw [List.drop_of_length_le (by rw [Hn.out]; omega)]; simp
          · rw [List.take_of_length_le (by rw [List.length_drop, Hn.out]; omega), List.take_of_length_le (by rw [List.length_drop, Hn.out]; omega)]
        have how := How.out
        rw [e1] at how
        have How2 := Lib.hid how
        clear how e1
        go_wp2_with fail
        go_ret
        obtain ⟨A, c, hv, h1, h2, h3⟩ := How2.out.read
        rw [Hg.out]
        exact ⟨A, _, c, congrArg Ending.returned hv, rfl, h1, h2, h3, Hbw.out⟩
  · have d1 : decide (0 ≤ a) = false := by simpa using h1
    have Hg := Lib.hid (show rcutL l a m = [] by unfold rcutL; rw [if_neg (by simpa using h1)])
    go_enter Try.func20, Try.ntmps20
    go_wp2_with fail
    go_loopw [7, 8] (fun o i wr => i = .int .i64 a ∧ o = .slice none 0 0 ∧ wr = w) (fun _ i _ => 0)
    case atStart => exact ⟨rfl, rfl, rfl⟩
    case round =>
      obtain ⟨rfl, rfl, rfl⟩ := hrel
      go_wp2_with fail
      go_ret
      rw [Hg.out]
      exact ⟨none, 0, 0, rfl, rfl, by omega, by unfold maxLen; omega, RB.nil_ _ _, Below.refl _ _⟩

end Go.Proofs.Ytpegdcgpohdhnaa
