/-
  Contracts of package bucket: Room, List.
-/
import Derived.Test.YtmojappbgghpbaaBck2
namespace Go.Proofs.Ytmojappbgghpbaa
open Go.RowKit

def roomV (b : List UInt8) : Nat := (roomS b).getD 0
set_option maxRecDepth 4000 in
set_option maxHeartbeats 1600000 in
theorem broom_any (b : List UInt8) (hb : b.length = 256) (w : World) :
    Calls Try.prog 18 #[.agg (bcells b)] w fun e w' => e = .returned (.tuple #[.int .i64 (roomV b : Nat), .bool (roomS b).isSome]) ∧ Below w.heap.size w w' := by
  have HbL := Lib.hid hb
  have HzL : Hid ((zeros 32).length = 32) := Lib.hid (zeros_len _)
  go_enter Try.func18, Try.ntmps18
  go_wp2_with (refine wpList_box_row rfl _ _ rfl _ rfl ?_)
  apply Stop.go; intro w1 Hg1 Hb1
  clear hb
  go_wp2_with fail
  go_loopw [5] (fun i wr => ∃ k : Nat, k ≤ 7 ∧ i = .int .i64 k ∧ (∀ j, j < k → emptyS b j = false) ∧ Blk wr w.heap.size 26 (bcells b) ∧ Below w.heap.size w wr) (fun i _ => 7 - (intOf i).toNat)
  case atStart => exact ⟨0, Nat.zero_le _, rfl, fun j hj => absurd hj (by omega), Hb1.out, Hg1.out.1⟩
  case round =>
    obtain ⟨k, hk, rfl, hno, hbk, hek⟩ := hrel
    have HN := Lib.hid hno
    have HBk := Lib.hid hbk
    have HEk := Lib.hid hek
    clear hno hbk hek
    by_cases hlt : k < 7
    · have d0 : decide ((k : Int) < 7) = true := by simp; omega
      have HRL := Lib.hid (rawS_len HbL.out hlt)
      go_wp2_with (refine wpList_load_arr rfl _ _ rfl _ rfl _ _ HBk.out _ _ Try.underlying26 (Try.blockFits HbL.out) ?_)
      refine (braw_any b HbL.out k hlt _).mono ?_; rintro e w3 ⟨rfl, hb3⟩
      have HB3 := Lib.hid (HBk.out.ext hb3)
      have E3 := Lib.hid (bt HEk.out hb3)
      clear hb3 HBk HEk
      obtain ⟨r, Hr⟩ : ∃ r, Hid (emptyS b k = r) := ⟨_, Lib.hid rfl⟩
      have Hr2 : Hid ((rawS b k == zeros 32) = r) := Hr
      cases r
      · go_wp2_with (first | refine wpList_build_zero rfl _ rfl _ Try.b32Zero _ _ Try.underlying69 Try.byteSize ?_ | refine wpList_eql_arr rfl _ _ _ _ rfl (by kernel_rfl) _ _ Try.underlying69 Try.underlying5 Try.byteSize _ _ rfl rfl HRL.out HzL.out false Hr2.out ?_)
        go_roundw
        case rel =>
          refine ⟨k + 1, by omega, by go_num, fun j hj => ?_, HB3.out, E3.out⟩
          rcases Nat.lt_or_ge j k with h | h
          · exact HN.out j h
          · rw [show j = k from by omega]; exact Hr.out
        case measure => simp [intOf]; omega
      · have HF : Hid (roomS b = some k) := Lib.hid (fstB_some.2 ⟨hlt, Hr.out, HN.out⟩)
        have HV : Hid (roomV b = k) := Lib.hid (by unfold roomV; rw [HF.out]; rfl)
        go_wp2_with (first | refine wpList_build_zero rfl _ rfl _ Try.b32Zero _ _ Try.underlying69 Try.byteSize ?_ | refine wpList_eql_arr rfl _ _ _ _ rfl (by kernel_rfl) _ _ Try.underlying69 Try.underlying5 Try.byteSize _ _ rfl rfl HRL.out HzL.out true Hr2.out ?_)
        go_ret2
        rw [HV.out, HF.out]
        exact ⟨rfl, E3.out⟩
    · obtain rfl : k = 7 := by omega
      have d0 : decide (((7 : Nat) : Int) < 7) = false := by simp
      have HF : Hid (roomS b = none) := Lib.hid (fstB_none.2 HN.out)
      have HV : Hid (roomV b = 0) := Lib.hid (by unfold roomV; rw [HF.out]; rfl)
      go_wp2_with fail
      go_ret2
      rw [HV.out, HF.out]
      exact ⟨rfl, HEk.out⟩

/-- The rows of a list of slots. -/
def srow (q : Nat × En) : List Value := [.int .i64 (q.1 : Int), .string q.2.name, .int .i64 q.2.ino]
def srows (l : List (Nat × En)) : List (List Value) := l.map srow
theorem srows_len (l : List (Nat × En)) : (srows l).length = l.length := by simp [srows]
/-- A result that is a list of the call's own. -/
def RetN (w : World) (e : TypeId) (N : Nat) (L : List (List Value)) (x : Ending) (w' : World) : Prop := ∃ v, x = .returned v ∧ OwnN w' w.heap.size e N v L ∧ Below w.heap.size w w'
set_option maxRecDepth 4000 in
set_option maxHeartbeats 1600000 in
theorem blist_any (b : List UInt8) (hb : b.length = 256) (w : World) :
    Calls Try.prog 14 #[.agg (bcells b)] w (RetN w 43 3 (srows (listS b 7))) := by
  have HbL := Lib.hid hb
  go_enter Try.func14, Try.ntmps14
  go_wp2_with (refine wpList_box_row rfl _ _ rfl _ rfl ?_)
  apply Stop.go; intro w1 Hg1 Hb1
  clear hb
  go_wp2_with fail
  go_loopw [3, 7] (fun o i wr => ∃ k : Nat, k ≤ 7 ∧ i = .int .i64 k ∧ OwnN wr w.heap.size 43 3 o (srows (listS b k)) ∧ Blk wr w.heap.size 26 (bcells b) ∧ Below w.heap.size w wr ∧ o.ownBlock ≠ some w.heap.size) (fun _ i _ => 7 - (intOf i).toNat)
  case atStart => exact ⟨0, Nat.zero_le _, rfl, OwnN.nil_ _ _ _ _, Hb1.out, Hg1.out.1, by simp [Value.ownBlock]⟩
  case round =>
    obtain ⟨k, hk, rfl, hok, hbk, hek, hap⟩ := hrel
    have HO := Lib.hid hok
    have HBk := Lib.hid hbk
    have HEk := Lib.hid hek
    have HAp := Lib.hid hap
    clear hok hbk hek hap
    by_cases hlt : k < 7
    · have d0 : decide ((k : Int) < 7) = true := by simp; omega
      go_wp2_with (refine wpList_load_arr rfl _ _ rfl _ rfl _ _ HBk.out _ _ Try.underlying26 (Try.blockFits HbL.out) ?_)
      refine (braw_any b HbL.out k hlt _).mono ?_; rintro e w3 ⟨rfl, hb3⟩
      have HB3 := Lib.hid (HBk.out.ext hb3)
      have HO3 := Lib.hid (HO.out.ext hb3)
      have E3 := Lib.hid (bt HEk.out hb3)
      clear hb3 HBk HO HEk
      go_wp2_with fail
      refine (entry_any (rawS b k) (rawS_len HbL.out hlt) _).mono ?_; rintro e w4 ⟨rfl, hb4⟩
      have HB4 := Lib.hid (HB3.out.ext hb4)
      have HO4 := Lib.hid (HO3.out.ext hb4)
      have E4 := Lib.hid (bt E3.out hb4)
      have z4 := Lib.hid (show w.heap.size < w4.heap.size from HB4.out.lt)
      clear hb4 HB3 HO3 E3
      have HEs : Hid (entS b k = readE (rawS b k)) := Lib.hid rfl
      obtain ⟨o, ho⟩ : ∃ o, readE (rawS b k) = o := ⟨_, rfl⟩
      rw [ho] at HEs ⊢
      clear ho
      go_wp2_with (refine wpList_alloc_row rfl _ rfl _ Try.entZero ?_)
      apply Stop.go; intro w5 Hg5 Hb5
      go_wp2_with (refine wpList_store_arr rfl _ _ _ rfl _ (ecells (entV o)) rfl rfl _ _ Hb5.out Try.entSize rfl (by simp [ecells, Value.oneCell']) ?_)
      apply Stop.go; intro w6 Ho6 Hb6
      have hd : Below w4.heap.size w4 w6 := bonly Hg5.out.1 Ho6.out (Nat.le_refl _)
      have HB6 := Lib.hid (HB4.out.ext hd)
      have HO6 := Lib.hid (HO4.out.ext hd)
      have E6 := Lib.hid (bt E4.out hd)
      generalize w4.heap.size = g4 at *
      clear Hg5 Hb5 Ho6 HB4 HO4 E4 hd
      cases o with
      | none =>
        have HLs := Lib.hid (listS_none HEs.out)
        rw [show (none : Option En).isSome = false from rfl]
        go_wp2_with fail
        go_roundw
        case rel => exact ⟨k + 1, by omega, by go_num, by rw [HLs.out]; exact HO6.out, HB6.out, E6.out, HAp.out⟩
        case measure => simp [intOf]; omega
      | some e =>
        have HLs := Lib.hid (show srows (listS b (k + 1)) = srows (listS b k) ++ [srow (k, e)] by unfold srows; rw [listS_some HEs.out, List.map_append]; rfl)
        have HLl := Lib.hid (show (srows (listS b k)).length ≤ 7 by rw [srows_len]; have := listS_len b k; omega)
        have Hb6 : Hid (Blk w6 g4 39 #[.string e.name, .int .i64 e.ino]) := Hb6
        rw [show (some e).isSome = true from rfl]
        go_wp2_with (first | refine wpList_load_blk rfl _ _ rfl _ rfl _ _ Hb6.out _ Try.underlying39 rfl Try.entSize ?_ | refine wpList_build_row rfl _ _ _ rfl Try.underlying36 3 _ _ Try.slotInfo (by decide) (by decide) #[.int .i64 (k : Int), .string e.name, .int .i64 e.ino] rfl rfl ?_)
        apply Stop.go; intro w7 Hg7 Hb7
        have HO7 := Lib.hid (HO6.out.ext Hg7.out.1)
        have z7 := Lib.hid (show w.heap.size ≤ w7.heap.size by have := HB6.out.lt; have := Hg7.out.1.size; omega)
        go_wp2_with (refine wpList_append_row1 rfl _ _ _ _ rfl Try.underlying36 3 _ _ Try.slotInfo rfl (by decide) _ _ _ rfl HO7.out _ #[.int .i64 (k : Int), .string e.name, .int .i64 e.ino] rfl Hb7.out rfl (by simp [Value.oneCell']) z7.out (by have := HLl.out; omega) (by have := HLl.out; omega) ?_)
        apply Stop.go; intro gn cap w8 HO8 HB8 HG8 HL8
        have hB8 : Blk w8 w.heap.size 26 (bcells b) := by
          have h1 : Blk w7 w.heap.size 26 (bcells b) := HB6.out.ext Hg7.out.1
          exact (HG8.out.block _ h1.lt (fun h => HAp.out h.symm)).trans h1
        have hA8 : (Value.slice (some ⟨gn, 0, none⟩) ((srows (listS b k)).length + 1) cap).ownBlock ≠ some w.heap.size := by
          intro h
          have h : gn = w.heap.size := by simpa [Value.ownBlock] using h
          rcases HL8.out.1 with h' | h'
          · exact HAp.out (by rw [h', h])
          · have := HB6.out.lt
            have := Hg7.out.1.size
            omega
        have HO9 := Lib.hid HO8.out
        have HB9 := Lib.hid hB8
        have HA9 := Lib.hid hA8
        have E9 := Lib.hid ((E6.out.trans (Hg7.out.1.mono (Nat.le_of_lt HB6.out.lt))).trans HB8.out)
        clear hB8 hA8 HO8 HB8 HG8 HL8 HO7 z7 Hg7 Hb7 HO6 HB6 E6 Hb6
        go_wp2_with fail
        go_roundw
        case rel => exact ⟨k + 1, by omega, by go_num, by rw [HLs.out]; exact HO9.out, HB9.out, E9.out, HA9.out⟩
        case measure => simp [intOf]; omega
    · obtain rfl : k = 7 := by omega
      have d0 : decide (((7 : Nat) : Int) < 7) = false := by simp
      go_wp2_with fail
      go_ret
      exact ⟨_, rfl, HO.out, HEk.out⟩

end Go.Proofs.Ytmojappbgghpbaa
