/-
  Contracts of package chart: Make, Patch.
-/
import Derived.Test.YtcoefbgidfgblaaChart1
namespace Go.Proofs.Ytcoefbgidfgblaa
open Go.RowKit

set_option maxHeartbeats 1600000 in
theorem make_any (A : Option Addr) (n cap : Nat) (l : List Int) (hn : l.length = n) (hm : n ≤ maxLen) (w : World) (hr : RC w A (ivals l)) :
    Calls Try.prog 21 #[.slice A n cap] w fun e w' => e = .returned (.agg (bcells (blockL 256 (makeF l)))) ∧ Below w.heap.size w w' := by
  unfold maxLen at hm
  have Hn := Lib.hid hn
  have Hr := Lib.hid hr
  clear hn hr
  go_enter Try.func21, Try.ntmps21
  go_wp2_with (refine wpList_alloc_row rfl _ rfl _ Try.blockZero ?_)
  apply Stop.go; intro w1 Hg1 Hb1
  go_wp2_with (refine wpList_alloc_row rfl _ rfl _ Try.blockZero ?_)
  apply Stop.go; intro w2 Hg2 Hb2
  have Z1 := Lib.hid Hg1.out.2
  have Z2 := Lib.hid Hg2.out.2
  have Hw2 := Lib.hid (bt Hg1.out.1 Hg2.out.1)
  have Hb1' := Lib.hid (Hb1.out.ext Hg2.out.1)
  go_wp2_with fail
  go_loopw [8] (fun i wr => ∃ k : Nat, k ≤ n ∧ i = .int .i64 k ∧ Blk wr w1.heap.size 23 (bcells (blockL 256 (makeF (l.take k)))) ∧ Blk wr w.heap.size 23 (bcells (zeros 256)) ∧ Below w.heap.size w wr) (fun i _ => n - (intOf i).toNat)
  case atStart => exact ⟨0, Nat.zero_le _, rfl, by rw [List.take_zero, make_start]; exact Hb2.out, Hb1'.out, Hw2.out⟩
  case round =>
    obtain ⟨k, hk, rfl, hbk, hbz, hbw⟩ := hrel
    have Hbk := Lib.hid hbk
    have Hbz := Lib.hid hbz
    have Hbw := Lib.hid hbw
    clear hbk hbz hbw
    by_cases hlt : k < n
    · have hkl : k < l.length := by rw [Hn.out]; exact hlt
      have d0 : decide ((k : Int) < n) = true := by simpa using hlt
      obtain ⟨ad, rfl, hc⟩ := (Hr.out.below Hbw.out).int k hkl
      have HL := Lib.hid (blockL_len 256 (makeF (l.take k)))
      have HN := Lib.hid (make_next 256 (l.take k) l[k])
      rw [← List.take_succ_eq_append_getElem hkl] at HN
      have HL3 := Lib.hid (blockL_len 256 (makeF (l.take (k + 1))))
      generalize l[k] = z at *
      go_wp2_with (refine wpList_load_arr rfl _ _ rfl _ rfl _ _ Hbk.out _ _ Try.underlying23 (Try.blockFits HL.out) ?_)
      refine (cwith_any _ HL.out z true _).mono ?_; rintro e w4 ⟨rfl, hb4⟩
      rw [HN.out]
      have Hb4 := Lib.hid hb4
      clear hb4
      go_wp2_with (refine wpList_store_arr rfl _ _ _ rfl _ _ rfl rfl _ _ (Hbk.out.ext Hb4.out) (Try.blockFits HL3.out) (by rw [bcells_size, bcells_size, HL3.out, HL.out]) (oneCell_bcells _) ?_)
      apply Stop.go; intro w5 Ho5 Hb5
      go_wp2_with fail
      go_roundw
      case rel => exact ⟨k + 1, by omega, by go_num, Hb5.out, (Hbz.out.ext Hb4.out).only Ho5.out (by rw [Z1.out]; omega), bonly (bt Hbw.out Hb4.out) Ho5.out (by rw [Z1.out]; omega)⟩
      case measure => simp [intOf]; omega
    · have d0 : decide ((k : Int) < n) = false := by simpa using hlt
      have Hl := Lib.hid (show l.take k = l from List.take_of_length_le (by rw [Hn.out]; omega))
      have HL := Lib.hid (blockL_len 256 (makeF l))
      rw [Hl.out] at Hbk
      go_wp2_with (first | refine wpList_load_arr rfl _ _ rfl _ rfl _ _ Hbk.out _ _ Try.underlying23 (Try.blockFits HL.out) ?_ | refine wpList_store_arr rfl _ _ _ rfl _ _ rfl rfl _ _ Hbz.out (Try.blockFits HL.out) (by rw [bcells_size, bcells_size, HL.out, zeros_len]) (oneCell_bcells _) ?_)
      apply Stop.go; intro w6 Ho6 Hb6
      go_wp2_with ((with_reducible show bodyPost _ _ _ _ _ _); refine bodyPost_cell rfl _ rfl _ _ Hb6.out _ _ Try.underlying23 (Try.blockFits HL.out) rfl ?_)
      apply Stop.go
      exact bonly Hbw.out Ho6.out (Nat.le_refl _)

/-- Where a patch begins, and its bytes. -/
def patchAt (i : Int) : Int := if isBitB i then ((i.toNat / 8 : Nat) : Int) else 0
def patchL (L : List UInt8) (i : Int) (on : Bool) : List UInt8 := if isBitB i then [(withL L i on).getD (i.toNat / 8) 0] else []
theorem Try.patchSize : (Try.prog.info? 28).map (·.size) = some 2 := by kernel_rfl
set_option maxHeartbeats 1600000 in
theorem patch_any (L : List UInt8) (hL : L.length = 256) (i : Int) (on : Bool) (w : World) :
    Calls Try.prog 10 #[.agg (bcells L), .int .i64 i, .bool on] w fun e w' => ∃ A c, e = .returned (.agg #[.int .i64 (patchAt i), .slice A (patchL L i on).length c]) ∧ RB w' A (patchL L i on) ∧ Below w.heap.size w w' := by
  have HL := Lib.hid hL
  cases hf : isBitB i
  · have Hf := Lib.hid hf
    have hpa : patchAt i = 0 := by unfold patchAt; rw [hf]; rfl
    have hpl : patchL L i on = [] := by unfold patchL; rw [hf]; rfl
    rw [hpa, hpl]
    clear hf hL hpa hpl
    go_enter Try.func10, Try.ntmps10
    go_wp2_with (refine wpList_box_row rfl _ _ rfl _ rfl ?_)
    apply Stop.go; intro w1 Hg1 Hb1
    go_wp2_with fail
    refine (isBit_any i _).mono ?_; rintro e w' ⟨rfl, rfl⟩
    rw [Hf.out]
    go_wp2_with ((with_reducible show bodyPost _ _ _ _ _ _); refine bodyPost_struct rfl _ rfl _ _ (Blk.new _ _ _) _ Try.underlying28 rfl Try.patchSize rfl ?_)
    apply Stop.go
    exact ⟨none, 0, rfl, RB.nil_ _ _, bt Hg1.out.1 (Grew.alloc _ _).1⟩
  · have Hf := Lib.hid hf
    have h := hf
    simp only [isBitB, decide_eq_true_eq] at h
    obtain ⟨h1, h2⟩ := h
    obtain ⟨p, rfl⟩ := Int.eq_ofNat_of_zero_le h1
    have hp : p < 2048 := by omega
    have hml : (withL L p on).length = 256 := by rw [withL_len, hL]
    obtain ⟨x, hx, -, hxd⟩ := byte_of_bit hml hp
    obtain ⟨q, hq⟩ : ∃ q, p / 8 = q := ⟨_, rfl⟩
    have hpa : patchAt p = q := by unfold patchAt; rw [hf, ← hq]; rfl
    have hpl : patchL L p on = [x] := by unfold patchL; rw [hf, ← hxd]; rfl
    rw [hpa, hpl]
    have hqw : IntKind.i64.wrap (q : Int) = q := IntWalk.i64_in _ (by omega)
    have hqq : (p : Int) / 8 = q := by omega
    have hqn : q < 256 := by omega
    have hql : (q : Int) < 256 := by omega
    rw [hq] at hx
    have Hx := Lib.hid hx
    clear hf hL hpa hpl hq hxd hml hx
    go_enter Try.func10, Try.ntmps10
    go_wp2_with (refine wpList_box_row rfl _ _ rfl _ rfl ?_)
    apply Stop.go; intro w1 Hg1 Hb1
    go_wp2_with fail
    refine (isBit_any p _).mono ?_; rintro e w' ⟨rfl, rfl⟩
    rw [Hf.out]
    go_wp2_with (refine wpList_load_arr rfl _ _ rfl _ rfl _ _ (Hb1.out.ext (Grew.alloc _ _).1) _ _ Try.underlying23 (Try.blockFits HL.out) ?_)
    refine (cwith_any L HL.out p on _).mono ?_; rintro e w4 ⟨rfl, hb4⟩
    have Hb4 := Lib.hid hb4
    have Hp4 := Lib.hid ((Blk.new w1 28 #[.int .i64 0, .slice none 0 0]).ext hb4)
    have Hw4 := Lib.hid (bt (bt Hg1.out.1 (Grew.alloc w1 _).1) hb4)
    have HZ1 := Lib.hid Hg1.out.1.size
    clear hb4
    go_wp2_with (first | refine wpList_index_byte rfl _ _ _ rfl _ _ Try.underlying23 Try.underlying5 Try.byteSize _ rfl _ _ rfl q rfl hqn x Hx.out ?_ | refine wpList_store_arr rfl _ _ _ rfl _ #[.int .i64 q, .slice (some ⟨w4.heap.size, 0, none⟩) 1 1] rfl rfl _ _ (Hp4.out.alloc _) Try.patchSize rfl (by simp [Value.oneCell']) ?_)
    apply Stop.go; intro w5 Ho5 Hb5
    go_wp2_with ((with_reducible show bodyPost _ _ _ _ _ _); refine bodyPost_struct rfl _ rfl _ _ Hb5.out _ Try.underlying28 rfl Try.patchSize rfl ?_)
    apply Stop.go
    refine ⟨_, _, rfl, ?_, ?_⟩
    · refine RB.of_blk (((Blk.new w4 5 #[.int .u8 x.toNat])).only Ho5.out (Ne.symm (Nat.ne_of_lt Hp4.out.lt))) 0 fun k hk => ?_
      obtain rfl : k = 0 := by simp at hk; omega
      rfl
    · exact bonly (bt Hw4.out (Grew.alloc w4 _).1) Ho5.out HZ1.out

end Go.Proofs.Ytcoefbgidfgblaa
