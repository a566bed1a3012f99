/-
  The walk of DiskFrom.
-/
import Derived.Test.YtefienjcdchebaaLaw08s
import Derived.BigQuiet
import Derived.Deep.QuietTactic
import Derived.Great.BuildSlice
import Derived.Great.FillDense
namespace Go.Proofs.Ytefienjcdchebaa
open Go.RowKit

section
variable {P : Program} {ops : Array Oper} {rest : List Oper} {o : Oper} {a : Act} {w : World} {Q : Exit → Act → World → Prop}
theorem exec_eql_arr {o : Oper} (t t' : TypeId) (x y : Operand) (ho : o.op = .binOp .eql t x y t') (hm : P.eqGuardType P.depth t = false) (n e : Nat) (ht : P.underlying t = some (.array n e)) (he : P.underlying e = some (.int .u8)) (hs : (P.info? e).map (·.size) = some 1)
    (xs ys : List UInt8) (hx : a.eval x = .agg (bcells xs)) (hy : a.eval y = .agg (bcells ys)) (hxl : xs.length = n) (hyl : ys.length = n) (r : Bool) (hr : (xs == ys) = r) : (execOp a.eval o).run P w = .ok (.value (.bool r)) w := by
  have hrun : (binOp .eql t (.agg (bcells xs)) (.agg (bcells ys))).run P w = .ok (.bool (xs == ys)) w := run_eql_bytes w t e n ht he (sizeOf_of hs) xs ys hxl hyl
  rw [hr] at hrun
  unfold execOp
  simp only [ho, hx, hy, Sem.run_bind, run_eqGuard_agg w .eql t x y (bcells xs) (bcells ys) hm, Result.andThen_ok, hrun]
  rfl
/-- A slice of one block. -/
theorem wpList_build_bk (hgd : Region.wanted o (yielded ops a.tmps) = true) (t e : TypeId) (x : Operand) (ho : o.op = .buildSlice t 1 #[(0, x)]) (ht : P.underlying t = some (.slice e)) (hi : (P.info? e).map (fun i => (i.zero, i.size, i.bytes)) = some (some (.agg (bcells (zeros 256))), 256, 256))
    (d : List UInt8) (hd : d.length = 256) (hx : a.eval x = .agg (bcells d))
    (h : Stop (∀ w', Hid (Grew w w') → Hid (Blk w' w.heap.size e (bcells d)) → wpList P ops Q rest (a.put o.dst (.slice (some ⟨w.heap.size, 0, none⟩) 1 1)) w')) : wpList P ops Q (o :: rest) a w := by
  refine wpList_wanted hgd fun K hK => ?_
  obtain ⟨i, h1, h2, h3, h4⟩ := info_parts hi
  have hsz : ((Array.range 256).map ((Value.agg (bcells (zeros 256))).cells[· % (Value.agg (bcells (zeros 256))).cells.size]!)).size = 256 := by rw [Array.size_map, Array.size_range]
  have hf : Instr.fill (fun j => some (j * 256, 256)) ((Array.range 256).map ((Value.agg (bcells (zeros 256))).cells[· % (Value.agg (bcells (zeros 256))).cells.size]!)) [(0, .agg (bcells d))] = some (bcells d) := by
    generalize (Array.range 256).map ((Value.agg (bcells (zeros 256))).cells[· % (Value.agg (bcells (zeros 256))).cells.size]!) = cs at hsz
    have hw := Go.Great.fill_whole (s := 256) (by decide) [.agg (bcells d)] cs (fun v hv => by
      rw [List.mem_singleton] at hv
      subst hv
      exact (bcells_size d).trans hd) (by rw [hsz, List.length_singleton, Nat.one_mul])
    have e1 : (([.agg (bcells d)] : List Value).flatMap fun v => v.cells.toList).toArray = bcells d := by
      rw [List.flatMap_cons, List.flatMap_nil, List.append_nil]
      exact Array.toArray_toList
    rw [e1] at hw
    exact hw
  have hr := run_buildSlice (P := P) w t e 1 #[(0, .agg (bcells d))] (bcells d) i (.agg (bcells (zeros 256))) ht h1 h2 (by omega) (by omega) (by rw [h3]; exact hf)
  unfold Oper.wp execOp
  simp only [ho, hx, Sem.run_bind, List.map_toArray, List.map_cons, List.map_nil, hr, Result.andThen_ok]
  exact hK _ _ (h _ (Grew.alloc w _) (Blk.new w e _))
end

set_option maxHeartbeats 4000000 in
set_option maxRecDepth 100000 in
theorem diskFrom_any (A : Option Addr) (m c : Nat) (l : List UInt8) (no : Int) (hl : l.length = m) (hm : m ≤ maxLen) (w : World) (hr : RB w A l) :
    Calls Try.prog 4 #[.slice A m c, .int .i64 no] w fun e w' => e = .returned (.bool true) ∧ Below w.heap.size w w' := by
  unfold maxLen at hm
  have Hl := Lib.hid hl
  have HR := Lib.hid hr
  clear hl hr
  by_cases h60 : 600 < m
  · have d0 : decide ((600 : Int) < m) = true := decide_eq_true (by omega)
    have d0' : decide (600 < m) = true := decide_eq_true h60
    go_enter Try.func4, Try.ntmps4
    go_wp2_with fail
    refine (works_any _).mono ?_; rintro e w9 ⟨rfl, hb9⟩
    go_wp2_with fail
    go_ret
    exact ⟨rfl, hb9⟩
  have d0 : decide ((600 : Int) < m) = false := decide_eq_false (by omega)
  have d0' : decide (600 < m) = false := decide_eq_false h60
  have Hm := Lib.hid (show m ≤ 600 by omega)
  clear h60 hm
  go_enter Try.func4, Try.ntmps4
  go_wp2_with fail
  go_loopw [5, 6] (fun v i wr => ∃ k : Nat, k ≤ m ∧ i = .int .i64 k ∧ OwnK wr w.heap.size 35 v ((l.map full).take k) ∧ Below w.heap.size w wr) (fun _ i _ => m - (intOf i).toNat)
  case atStart => exact ⟨0, Nat.zero_le _, rfl, OwnK.nil_ _ _ _, Below.refl _ _⟩
  case round =>
    obtain ⟨k, hk, rfl, how, hbw⟩ := hrel
    have HO := Lib.hid how
    have HW := Lib.hid hbw
    clear how hbw
    have HK := Lib.hid (show k ≤ 600 by have := Hm.out; omega)
    have hwk : IntKind.i64.wrap ((k : Int) + 1) = (k : Int) + 1 := IntWalk.i64_in _ (by have := HK.out; omega)
    by_cases hlt : k < m
    · have hkl : k < l.length := by have := Hl.out; omega
      have d1 : decide (k < m) = true := decide_eq_true hlt
      have z1 : (k : Int) < m := by omega
      obtain ⟨ad0, rfl, hcell⟩ := (HR.out.below HW.out) k hkl
      have HV := Lib.hid (show (l.map full).take (k + 1) = (l.map full).take k ++ [full l[k]] by rw [List.take_succ_eq_append_getElem (by rw [List.length_map]; exact hkl), List.getElem_map])
      have hvb := (l[k]).toNat_lt
      generalize l[k] = v at *
      have HFu := fun w' => full_any v w'
      have Hlt := Lib.hid hlt
      clear hlt hk hkl
      go_wp2_with (first | (go_at_call 12; refine (HFu _).mono ?_; rintro _ w5 ⟨rfl, hb5⟩; have H5 := Lib.hid hb5; clear hb5) | refine wpList_build_bk rfl _ _ _ rfl Try.underlying40 Try.blockInfo (full v) (full_len v) rfl ?_)
      apply Stop.go; intro w6 Hg6 Hb6
      have HB6 := Lib.hid (bt H5.out Hg6.out.1)
      have HO6 := Lib.hid (HO.out.ext HB6.out)
      have HR6 : Hid (RK w6 (some ⟨w5.heap.size, 0, none⟩) [full v]) := Lib.hid (by
        have hb := Hb6.out
        have e : ([full v] : List (List UInt8)).flatten = full v := by simp
        rw [← e] at hb
        exact RK.of_blk (fun x hx => by rw [List.mem_singleton] at hx; subst hx; exact full_len v) hb)
      have HW6 := Lib.hid (bt HW.out HB6.out)
      go_wp2_with (at_builtin; refine wpList_append_bk rfl _ _ _ _ rfl Try.underlying40 _ Try.blockInfo ((bcells_size _).trans (zeros_len 256)) w.heap.size _ ((l.map full).take k) HO6.out ⟨w5.heap.size, 0, none⟩ 1 1 [full v] (fun x hx => by rw [List.mem_singleton] at hx; subst hx; exact full_len v) rfl HR6.out rfl rfl HW6.out.size (by rw [List.length_take]; have := HK.out; omega) ?_)
      apply Stop.go; intro v7 w7 HO7 HB7
      rw [← HV.out] at HO7
      have HW7 := Lib.hid (HW6.out.trans HB7.out)
      clear HFu HO6 HB6 HR6 HW6 Hb6 Hg6 H5 HO HW HB7
      go_wp2_with fail
      go_roundw
      case rel => exact ⟨k + 1, by have := Hlt.out; omega, by first | go_num | rfl, HO7.out, HW7.out⟩
      case measure =>
        have hk40 := HK.out
        have := Hlt.out
        simp [intOf]
        omega
    · have d1 : decide (k < m) = false := decide_eq_false hlt
      obtain rfl : k = m := by omega
      have e1 : (l.map full).take k = l.map full := List.take_of_length_le (by rw [List.length_map, Hl.out]; exact Nat.le_refl _)
      rw [e1] at HO
      have hbk : Bks (l.map full) := HO.out.1
      have HLm := Lib.hid (show (l.map full).length = k by rw [List.length_map]; exact Hl.out)
      obtain ⟨A', c', rfl, q1, q2, hrk⟩ := HO.out.read
      rw [HLm.out] at q1
      have HRK := Lib.hid hrk
      have Hq := Lib.hid (And.intro q1 q2)
      obtain ⟨wL, hwL⟩ : ∃ x, x = wr := ⟨_, rfl⟩
      subst hwL
      rw [HLm.out] at HO ⊢
      clear hlt hk e1 hrk q1 q2 hwk
      by_cases hnot : k < 16 ∨ 512 < k
      · have HF := from_not A' k c' hnot wL
        have Hn := Lib.hid hnot
        clear hnot
        go_wp2_with (go_at_call 18; refine HF.mono ?_; rintro _ wL ⟨rfl, rfl⟩; clear HF)
        go_wp2_with (first | (go_at_call 19; refine (read_nil no _).mono ?_; rintro _ wA ⟨rfl, hnA⟩; have HA := Lib.hid hnA; clear hnA) | refine wpList_alloc_row rfl _ rfl _ Try.blockZero ?_); apply Stop.go; intro wB HgB HbB; go_wp2_with (refine wpList_store_arr rfl _ _ _ rfl _ _ rfl rfl _ _ HbB.out (Try.blockFits (zeros_len 256)) rfl (oneCell_bcells _) ?_); apply Stop.go; intro wC HoC HbC; have HC := Lib.hid (bonly (bt HA.out HgB.out.1) HoC.out HA.out.size); clear HA HgB HbB HoC HbC
        have ND := down_nil
        have NS := size_nil
        have hn := Hn.out
        by_cases h16 : k < 16
        focus (
          have d2 : decide (k < 16) = true := decide_eq_true h16
          have d2' : decide ((k : Int) < 16) = true := decide_eq_true (by omega)
          clear h16 hn
          go_wp2_with (first | (go_at_call 7; refine (works_any _).mono ?_; rintro _ w9 ⟨rfl, hb9⟩) | first | (go_at_call 20; refine (fuse_nil no _).mono ?_; rintro _ wC ⟨rfl, rfl⟩) | (go_at_call 21; refine (up_nil _).mono ?_; rintro _ wC ⟨rfl, rfl⟩) | refine wpList_build_zero rfl _ rfl _ Try.blockZero _ _ Try.underlying35 Try.byteSize ?_ | (go_at_call 22; refine (write_nil no (zeros 256) _).mono ?_; rintro _ wD ⟨rfl, hnD⟩; have HD := Lib.hid (bt HC.out hnD); clear hnD) | (go_at_call 13; refine (ND _).mono ?_; rintro _ wD ⟨rfl, rfl⟩; clear ND) | (go_at_call 16; refine (NS _).mono ?_; rintro _ wD ⟨rfl, rfl⟩; clear NS) | (go_at_call 14; refine (writes_nil _).mono ?_; rintro _ wD ⟨rfl, rfl⟩) | (go_at_call 15; refine (reads_nil _).mono ?_; rintro _ wD ⟨rfl, rfl⟩) | (go_at_call 17; refine (image_nil _).mono ?_; rintro _ wD ⟨rfl, rfl⟩)))
        rotate_left
        focus (
          have d2 : decide (k < 16) = false := decide_eq_false h16
          have d2' : decide ((k : Int) < 16) = false := decide_eq_false (by omega)
          have d3 : decide (512 < k) = true := decide_eq_true (by omega)
          have d3' : decide ((512 : Int) < k) = true := decide_eq_true (by omega)
          clear h16 hn
          go_wp2_with (first | (go_at_call 7; refine (works_any _).mono ?_; rintro _ w9 ⟨rfl, hb9⟩) | first | (go_at_call 20; refine (fuse_nil no _).mono ?_; rintro _ wC ⟨rfl, rfl⟩) | (go_at_call 21; refine (up_nil _).mono ?_; rintro _ wC ⟨rfl, rfl⟩) | refine wpList_build_zero rfl _ rfl _ Try.blockZero _ _ Try.underlying35 Try.byteSize ?_ | (go_at_call 22; refine (write_nil no (zeros 256) _).mono ?_; rintro _ wD ⟨rfl, hnD⟩; have HD := Lib.hid (bt HC.out hnD); clear hnD) | (go_at_call 13; refine (ND _).mono ?_; rintro _ wD ⟨rfl, rfl⟩; clear ND) | (go_at_call 16; refine (NS _).mono ?_; rintro _ wD ⟨rfl, rfl⟩; clear NS) | (go_at_call 14; refine (writes_nil _).mono ?_; rintro _ wD ⟨rfl, rfl⟩) | (go_at_call 15; refine (reads_nil _).mono ?_; rintro _ wD ⟨rfl, rfl⟩) | (go_at_call 17; refine (image_nil _).mono ?_; rintro _ wD ⟨rfl, rfl⟩)))
        rotate_left
        all_goals
          go_ret
          exact ⟨rfl, bt HW.out (bt HD.out hb9)⟩
      · have h16 : 16 ≤ k := by omega
        have h512 : k ≤ 512 := by omega
        have d2 : decide (k < 16) = false := decide_eq_false (by omega)
        have d2' : decide ((k : Int) < 16) = false := decide_eq_false (by omega)
        have d3 : decide (512 < k) = false := decide_eq_false (by omega)
        have d3' : decide ((512 : Int) < k) = false := decide_eq_false (by omega)
        have H16 := Lib.hid (And.intro h16 h512)
        obtain ⟨A1, eA⟩ : ∃ A1, A' = some A1 := by
          obtain ⟨A1, _, eA, _, _⟩ := HRK.out 0 (by rw [HLm.out]; omega) 0 (by omega)
          exact ⟨A1, eA⟩
        subst eA
        have HF := from_any A1 k c' (l.map full) hbk HLm.out h16 h512 wL HRK.out
        clear hnot h16 h512
        go_wp2_with (go_at_call 18; refine HF.mono ?_; rintro _ w5 ⟨b, A2, c2, rfl, hq5⟩; have Hq5 := Lib.hid hq5; clear hq5 HF)
        obtain ⟨dv, Hdv⟩ : ∃ dv : Dev, Hid (⟨l.map full, -1, false, 0, 0⟩ = dv) := ⟨_, Lib.hid rfl⟩
        have Hbl : Hid (dv.bl = l.map full) := Lib.hid (by rw [← Hdv.out])
        have Hof : Hid (dv.off = false ∧ dv.rd = 0) := Lib.hid (by rw [← Hdv.out]; exact ⟨rfl, rfl⟩)
        rw [Hdv.out, HLm.out] at Hq5
        have hbl := Hbl.out
        have hlm := HLm.out
        have HSz : ∀ w', Below w5.heap.size w5 w' → Calls Try.prog 16 #[.pointer (some ⟨b, 0, none⟩)] w' fun e w'' => e = .returned (.int .i64 (k : Int)) ∧ w'' = w' := fun w' h => size_any b _ _ _ _ w' (Hq5.out.2.1.ext h)
        have HDn : ∀ w', Below w5.heap.size w5 w' → Calls Try.prog 13 #[.pointer (some ⟨b, 0, none⟩)] w' fun e w'' => e = .returned (.bool false) ∧ w'' = w' := fun w' h => by
          have hh := down_any b _ _ w' (Hq5.out.2.1.ext h)
          rw [Hof.out.1] at hh
          exact hh
        have HRd : ∀ w', Below w5.heap.size w5 w' → Calls Try.prog 19 #[.pointer (some ⟨b, 0, none⟩), .int .i64 no] w' fun e w'' => e = .returned (.tuple #[.agg (bcells (dv.readB no)), .int .i64 (dv.readE no)]) ∧ Turn w' w'' b b := fun w' h => by
          have hq := Hq5.out
          have hr : RK w' (some A2) dv.bl := by rw [hbl]; exact hq.2.2.1.below h
          refine (read_any b A2 c2 no dv w' (by rw [hbl, hlm]; exact hq.2.1.ext h) (by rw [hbl]; exact hbk) hr (by rw [hbl, hlm]; exact hq.2.2.2.1) hq.2.2.2.2.1 hq.2.2.2.2.2.1 (by have := hq.2.2.2.2.2.2.1; have := h.size; omega) (by rw [Hof.out.2]; decide)).mono ?_
          rintro e w6 ⟨rfl, ht, _⟩
          exact ⟨rfl, ht⟩
        have HBL := Lib.hid (show (dv.readB no).length = 256 from Dev.readB_len (by rw [hbl]; exact hbk) no)
        have hways := dv.read_ways no
        rw [hbl, Hof.out.1] at hways
        have HWays := Lib.hid hways
        have HLow := Lib.hid (show w.heap.size ≤ b from Nat.le_trans HW.out.size Hq5.out.1)
        have H5 := Lib.hid (show Below w.heap.size w w5 from bt HW.out Hq5.out.2.2.2.2.2.2.2)
        have HO5 := Lib.hid (HRK.out.below Hq5.out.2.2.2.2.2.2.2)
        clear hbl hlm hways Hdv
        go_wp2_with (first | (go_at_call 19; refine (read_nil no _).mono ?_; rintro _ wA ⟨rfl, hnA⟩; have HA := Lib.hid hnA; clear hnA) | refine wpList_alloc_row rfl _ rfl _ Try.blockZero ?_); apply Stop.go; intro wB HgB HbB; go_wp2_with (refine wpList_store_arr rfl _ _ _ rfl _ _ rfl rfl _ _ HbB.out (Try.blockFits (zeros_len 256)) rfl (oneCell_bcells _) ?_); apply Stop.go; intro wC HoC HbC; have HC := Lib.hid (bonly (bt HA.out HgB.out.1) HoC.out HA.out.size); clear HA HgB HbB HoC HbC
        have ND := down_nil
        have NS := size_nil
        go_wp2_with (first | (go_at_call 19; refine (HRd _ HD.out).mono ?_; rintro _ w6 ⟨rfl, ht6⟩; have T6 := Lib.hid ht6; clear ht6) | first | (go_at_call 20; refine (fuse_nil no _).mono ?_; rintro _ wC ⟨rfl, rfl⟩) | (go_at_call 21; refine (up_nil _).mono ?_; rintro _ wC ⟨rfl, rfl⟩) | refine wpList_build_zero rfl _ rfl _ Try.blockZero _ _ Try.underlying35 Try.byteSize ?_ | (go_at_call 22; refine (write_nil no (zeros 256) _).mono ?_; rintro _ wD ⟨rfl, hnD⟩; have HD := Lib.hid (bt HC.out hnD); clear hnD) | (go_at_call 13; refine (ND _).mono ?_; rintro _ wD ⟨rfl, rfl⟩; clear ND) | (go_at_call 16; refine (NS _).mono ?_; rintro _ wD ⟨rfl, rfl⟩; clear NS) | (go_at_call 14; refine (writes_nil _).mono ?_; rintro _ wD ⟨rfl, rfl⟩) | (go_at_call 15; refine (reads_nil _).mono ?_; rintro _ wD ⟨rfl, rfl⟩) | (go_at_call 17; refine (image_nil _).mono ?_; rintro _ wD ⟨rfl, rfl⟩) | (go_at_call 16; refine (HSz _ HD.out).mono ?_; rintro _ wD ⟨rfl, rfl⟩) | (go_at_call 13; refine (HDn _ HD.out).mono ?_; rintro _ wD ⟨rfl, rfl⟩) | refine wpList_alloc_row rfl _ rfl _ Try.blockZero ?_)
        apply Stop.go; intro w7 Hg7 Hb7
        go_wp2_with (refine wpList_store_arr rfl _ _ _ rfl _ _ rfl rfl _ _ Hb7.out (Try.blockFits HBL.out) (by rw [bcells_size, bcells_size, HBL.out, zeros_len]) (oneCell_bcells _) ?_)
        apply Stop.go; intro w8 Ho8 Hb8
        have HT8 := Lib.hid ((T6.out.bel Hg7.out.1).new Ho8.out (by have := T6.out.size; omega))
        have HW8 := Lib.hid ((H5.out.trans (HD.out.mono H5.out.size)).trans (HT8.out.low (by have := H5.out.size; have := HD.out.size; omega) HLow.out HLow.out))
        have HB8 := Lib.hid (show Below wL.heap.size w5 w8 from by
          have h5 := Hq5.out.1
          have h6 := Hq5.out.2.2.2.2.2.2.2.size
          exact (HD.out.mono h6).trans (HT8.out.low (by have := HD.out.size; omega) h5 h5))
        have HO8 : Hid (RK w8 (some A1) (l.map full)) := Lib.hid (by
          have hb := Hq5.out.2.2.2.2.2.2.2.trans HB8.out
          exact HRK.out.below hb)
        obtain ⟨u, Hu⟩ : ∃ u, Hid (w6.heap.size = u) := ⟨_, Lib.hid rfl⟩
        rw [Hu.out] at Hb8
        rw [Hu.out]
        clear HT8 Ho8 Hb7 Hg7 T6 HRd HSz HDn HB8
        rcases HWays.out with ⟨hout, -, hB, hE⟩ | ⟨-, i, hi, rfl, -, hB, hE⟩
        · have hE2 : dv.readE no = 2 := by
            rcases hE with ⟨h, _⟩ | ⟨_, _, h⟩ | ⟨_, _, _, h⟩
            · exact absurd h (by decide)
            · exact h
            · exact h
          rw [hB] at Hb8
          rw [hE2]
          have hno : no < 0 ∨ (0 ≤ no ∧ (k : Int) ≤ no) := by
            rw [HLm.out] at hout
            rcases hout with h | h | h
            · exact absurd h (by decide)
            · exact Or.inl h
            · by_cases h0 : no < 0
              · exact Or.inl h0
              · exact Or.inr ⟨by omega, h⟩
          clear hout hB hE hE2 HWays
          rcases hno with h | ⟨h0, h1⟩
          focus (
            have d4 : decide (no < 0) = true := decide_eq_true h
            clear h
            go_wp2_with (first | refine wpList_load_arr rfl _ _ rfl _ rfl _ _ Hb8.out _ _ Try.underlying35 (Try.blockFits (zeros_len 256)) ?_ | refine wpList_build_zero rfl _ rfl _ Try.blockZero _ _ Try.underlying35 Try.byteSize ?_ | refine wpList_eql_arr rfl _ _ _ _ rfl (by kernel_rfl) _ _ Try.underlying35 Try.underlying5 Try.byteSize (zeros 256) (zeros 256) rfl rfl (zeros_len 256) (zeros_len 256) true (by simp) ?_ | (go_at_call 7; refine (works_any _).mono ?_; rintro _ w9 ⟨rfl, hb9⟩)))
          rotate_left
          focus (
            have d4 : decide (no < 0) = false := decide_eq_false (by omega)
            have d5 : decide ((k : Int) ≤ no) = true := decide_eq_true h1
            clear h0 h1
            go_wp2_with (first | refine wpList_load_arr rfl _ _ rfl _ rfl _ _ Hb8.out _ _ Try.underlying35 (Try.blockFits (zeros_len 256)) ?_ | refine wpList_build_zero rfl _ rfl _ Try.blockZero _ _ Try.underlying35 Try.byteSize ?_ | refine wpList_eql_arr rfl _ _ _ _ rfl (by kernel_rfl) _ _ Try.underlying35 Try.underlying5 Try.byteSize (zeros 256) (zeros 256) rfl rfl (zeros_len 256) (zeros_len 256) true (by simp) ?_ | (go_at_call 7; refine (works_any _).mono ?_; rintro _ w9 ⟨rfl, hb9⟩)))
          rotate_left
          all_goals
            go_ret
            exact ⟨rfl, bt HW8.out hb9⟩
        · rw [hB] at Hb8 HBL
          rw [hE, hB]
          have hik : i < k := by have := HLm.out; omega
          have d4 : decide ((i : Int) < 0) = false := decide_eq_false (by omega)
          have d5 : decide ((k : Int) ≤ (i : Int)) = false := decide_eq_false (by omega)
          have d5' : decide (k ≤ i) = false := decide_eq_false (by omega)
          have z2 : (i : Int) < k := by omega
          clear HWays hB hE
          have HZb := Lib.hid (hbk.get hi)
          obtain ⟨z, HZ⟩ : ∃ z, Hid ((l.map full)[i] = z) := ⟨_, Lib.hid rfl⟩
          rw [HZ.out] at Hb8 HBL ⊢
          have Hwk := fun w' => works_any w'
          go_wp2_with fail
          refine WH.start (S := fun w' : World => Below w8.heap.size w8 w') (List.replicate 14 false) 14 rfl rfl (by kernel_rfl) (bdrew w8 1) (fun hSn => ?_)
          simp only [List.replicate]
          obtain ⟨wS, hwS⟩ : ∃ x, w8.drew = x := ⟨_, rfl⟩
          rw [hwS] at hSn ⊢
          clear hwS
          refine WH.take 0 _ ?_ rfl (by kernel_rfl) (fun _ _ _ h => h) rfl (by assumption) ?_ ?_; rotate_left; (focus (intro w hSw; (try dsimp only at hSw); (first | (go_simp; done) | (go_simp; with_reducible rfl)))); simp only [Act.put, List.setIfInBounds_toArray, List.set_cons_zero, List.set_cons_succ]
          refine WH.take 1 _ ?_ rfl (by kernel_rfl) (fun _ _ _ h => h) rfl (by assumption) ?_ ?_; rotate_left; (focus (intro w hSw; (try dsimp only at hSw); (first | (go_simp; done) | (go_simp; with_reducible rfl)))); simp only [Act.put, List.setIfInBounds_toArray, List.set_cons_zero, List.set_cons_succ]
          refine WH.take 2 _ ?_ rfl (by kernel_rfl) (fun _ _ _ h => h) rfl (by assumption) ?_ ?_; rotate_left; (focus (intro w hSw; (try dsimp only at hSw); (first | (go_simp; done) | (go_simp; with_reducible rfl)))); simp only [Act.put, List.setIfInBounds_toArray, List.set_cons_zero, List.set_cons_succ]
          refine WH.take 3 _ _ rfl (by kernel_rfl) (fun _ _ _ h => h) rfl (by assumption) (fun w' hSw => exec_load_blk _ _ rfl _ rfl _ _ (Hb8.out.ext hSw) _ (Try.underlying35) rfl (Try.blockFits HBL.out)) ?_; simp only [Act.put, List.setIfInBounds_toArray, List.set_cons_zero, List.set_cons_succ]
          refine WH.take 4 _ ?_ rfl (by kernel_rfl) (fun _ _ _ h => h) rfl (by assumption) ?_ ?_; rotate_left; (focus (intro w hSw; (try dsimp only at hSw); (first | (go_simp; done) | (go_simp; with_reducible rfl)))); simp only [Act.put, List.setIfInBounds_toArray, List.set_cons_zero, List.set_cons_succ]
          refine WH.take 5 _ ?_ rfl (by kernel_rfl) (fun _ _ _ h => h) rfl (by assumption) ?_ ?_; rotate_left; (focus (intro w hSw; (try dsimp only at hSw); (first | (go_simp; done) | (go_simp; with_reducible rfl)))); simp only [Act.put, List.setIfInBounds_toArray, List.set_cons_zero, List.set_cons_succ]
          refine WH.take 6 _ ?_ rfl (by kernel_rfl) (fun _ _ _ h => h) rfl (by assumption) ?_ ?_; rotate_left; (focus (intro w hSw; (try dsimp only at hSw); (first | (go_simp; done) | (go_simp; with_reducible rfl)))); simp only [Act.put, List.setIfInBounds_toArray, List.set_cons_zero, List.set_cons_succ]
          refine WH.take 7 _ _ rfl (by kernel_rfl) (fun _ _ _ h => h) rfl (by assumption) (fun w' hSw => exec_load_bk _ _ rfl A1 i rfl (l.map full) hbk hi (HO8.out.below hSw) _ Try.underlying35 rfl Try.blockSize) ?_; simp only [Act.put, List.setIfInBounds_toArray, List.set_cons_zero, List.set_cons_succ]
          refine WH.take 8 _ _ rfl (by kernel_rfl) (fun _ _ _ h => h) rfl (by assumption) (fun w' hSw => exec_eql_arr _ _ _ _ rfl (by kernel_rfl) _ _ Try.underlying35 Try.underlying5 Try.byteSize z ((l.map full)[i]) rfl rfl HBL.out HZb.out true (by rw [HZ.out]; simp)) ?_; simp only [Act.put, List.setIfInBounds_toArray, List.set_cons_zero, List.set_cons_succ]
          refine WH.take 9 _ ?_ rfl (by kernel_rfl) (fun _ _ _ h => h) rfl (by assumption) ?_ ?_; rotate_left; (focus (intro w hSw; (try dsimp only at hSw); (first | (go_simp; done) | (go_simp; with_reducible rfl)))); simp only [Act.put, List.setIfInBounds_toArray, List.set_cons_zero, List.set_cons_succ]
          refine WH.take 10 _ ?_ rfl (by kernel_rfl) (fun _ _ _ h => h) rfl (by assumption) ?_ ?_; rotate_left; (focus (intro w hSw; (try dsimp only at hSw); (first | (go_simp; done) | (go_simp; with_reducible rfl)))); simp only [Act.put, List.setIfInBounds_toArray, List.set_cons_zero, List.set_cons_succ]
          refine WH.only 11 _ rfl (by kernel_rfl) rfl (fun K hK => ?_)
          go_simp; refine (Hwk _).mono ?_; rintro e wF ⟨rfl, hbF⟩; go_simp
          have hSn := bt hSn hbF; refine hK _ _ hSn ?_; clear hK; clear K; simp only [List.set_cons_zero, List.set_cons_succ]
          refine WH.take 12 _ ?_ rfl (by kernel_rfl) (fun _ _ _ h => h) rfl (by assumption) ?_ ?_; rotate_left; (focus (intro w hSw; (try dsimp only at hSw); (first | (go_simp; done) | (go_simp; with_reducible rfl)))); simp only [Act.put, List.setIfInBounds_toArray, List.set_cons_zero, List.set_cons_succ]
          refine WH.take 13 _ ?_ rfl (by kernel_rfl) (fun _ _ _ h => h) rfl (by assumption) ?_ ?_; rotate_left; (focus (intro w hSw; (try dsimp only at hSw); (first | (go_simp; done) | (go_simp; with_reducible rfl)))); simp only [Act.put, List.setIfInBounds_toArray, List.set_cons_zero, List.set_cons_succ]
          refine WH.done (by kernel_rfl) ?_
          have HS := Lib.hid hSn
          clear hSn hbF
          go_wp2_with fail
          go_ret
          exact ⟨rfl, bt HW8.out HS.out⟩

end Go.Proofs.Ytefienjcdchebaa
