/-
  Contracts of package mix's Split, and of the function that it makes for it.
-/
import Derived.Test.YtojddfebhopkgaaDoorMix
import Derived.Test.YtojddfebhopkgaaDoorStr
namespace Go.Proofs.YtojddfebhopkgaaDoor
open Go.RowKit

set_option maxHeartbeats 400000 in
theorem has_any (s : ByteArray) (hs : s.size ≤ maxLen) (g : Nat) (b : Int) (w : World) (hg : w.cell? ⟨g, 0, none⟩ = some (.int .i64 b)) :
    Calls Tryd.prog 25 #[.string s, .pointer (some ⟨g, 0, none⟩)] w fun e w' => e = .returned (.bool (bitN (hashN s) b)) ∧ ∃ m, w' = w.drewN m := by
  go_enter Tryd.func25, Tryd.ntmps25
  go_wp2_with fail
  go_quiet (first | (go_at_call 9; exact Calls.quiet_of_same ((of_any s hs _).mono fun _ _ h => ⟨h.1, h.2.symm⟩)) | (go_at_call 15; exact Calls.quiet_of_same ((bit_any _ (hashN_lt s) b _).mono fun _ _ h => ⟨h.1, h.2.symm⟩)))
  go_wp2_with fail
  go_ret
  exact ⟨rfl, _, rfl⟩

set_option maxHeartbeats 400000 in
theorem hashHas_any (b : Int) (w : World) :
    Calls Tryd.prog 24 #[.int .i64 b] w fun e w' => e = .returned (.func (.func 25) #[] #[.pointer (some ⟨w.heap.size, 0, none⟩)]) ∧ Grew w w' ∧ Blk w' w.heap.size 3 #[.int .i64 b] := by
  go_enter Tryd.func24, Tryd.ntmps24
  go_wp2_with fail
  go_ret
  exact ⟨rfl, Grew.alloc w _, Blk.new w _ _⟩

set_option maxHeartbeats 1000000 in
theorem split_any (A : Option Addr) (n cap : Nat) (l : List ByteArray) (hn : l.length = n) (hm : n < 8796093022208) (hs : ∀ s ∈ l, s.size ≤ maxLen) (b : Int) (w : World) (hr : RC w A (svals l)) :
    Calls Tryd.prog 20 #[.slice A n cap, .int .i64 b] w fun e w' => ∃ u v, e = .returned (.tuple #[u, v]) ∧
      OwnC w' w.heap.size 9 u (svals (stayL b l)) ∧ OwnC w' w.heap.size 9 v (svals (goL b l)) ∧ Below w.heap.size w w' := by
  have Hn := Lib.hid hn
  have Hs := Lib.hid hs
  clear hn hs
  go_enter Tryd.func20, Tryd.ntmps20
  go_wp2_with fail
  refine (hashHas_any b _).mono ?_; rintro e w1 ⟨rfl, hg1, hb1⟩
  have Hg1 := Lib.hid hg1
  have Hb1 := Lib.hid hb1
  have Hr1 := Lib.hid (hr.below hg1.1)
  have hB : w1.heap.size = w.heap.size + 1 := hg1.2
  have HB := Lib.hid hB
  clear hg1 hb1 hr hB
  go_wp2_with fail
  go_loopw [7, 8, 15] (fun u v i wr => ∃ k : Nat, k ≤ n ∧ i = .int .i64 k ∧ OwnC wr w1.heap.size 9 u (svals (stayL b (l.take k))) ∧ OwnC wr w1.heap.size 9 v (svals (goL b (l.take k))) ∧ Apart u v ∧ Below w1.heap.size w1 wr) (fun _ _ i _ => n - (intOf i).toNat)
  case atStart => exact ⟨0, Nat.zero_le _, rfl, OwnC.nil_ _ _ _, OwnC.nil_ _ _ _, Apart.nil_ _, Below.refl _ _⟩
  case round =>
    obtain ⟨k, hk, rfl, hu, hv, hap, hbw⟩ := hrel
    have Hu := Lib.hid hu
    have Hv := Lib.hid hv
    have Hap := Lib.hid hap
    have Hbw := Lib.hid hbw
    clear hu hv hap hbw
    by_cases hlt : k < n
    · have hkl : k < l.length := by rw [Hn.out]; exact hlt
      obtain ⟨ad, rfl, hc⟩ := (Hr1.out.below Hbw.out).str k hkl
      have hcell := (Hb1.out.below Hbw.out (by rw [HB.out]; omega)).cell 0
      have hcell : wr.cell? ⟨w.heap.size, 0, none⟩ = some (.int .i64 b) := hcell
      have Hsz := Lib.hid (Hs.out l[k] (List.getElem_mem hkl))
      have Hns := Lib.hid (stayL_next b l k hkl)
      have Hng := Lib.hid (goL_next b l k hkl)
      have Hl1 := Lib.hid (stayL_len b (l.take k))
      have Hl2 := Lib.hid (goL_len b (l.take k))
      generalize l[k] = s at *
      go_wp2_with fail
      refine (has_any s Hsz.out _ b _ hcell).mono ?_; rintro e wx ⟨rfl, m, rfl⟩
      have HE : Hid (bitN (hashN s) b = hasB b s) := rfl
      rw [HE.out]
      have D := Lib.hid (bdrew wr m)
      have Hu := Lib.hid (Hu.out.ext D.out)
      have Hv := Lib.hid (Hv.out.ext D.out)
      have Hbw := Lib.hid (bt Hbw.out D.out)
      have hlk : (l.take k).length = k := by rw [List.length_take]; omega
      generalize wr.drewN m = w2 at *
      clear HE D hc hcell
      cases hb : hasB b s
      · have Hns := Lib.hid (show stayL b (l.take (k + 1)) = stayL b (l.take k) ++ [s] by rw [Hns.out, hb]; rfl)
        have Hng := Lib.hid (show goL b (l.take (k + 1)) = goL b (l.take k) by rw [Hng.out, hb]; rfl)
        have hl1 : (svals (stayL b (l.take k))).length + 1 ≤ maxLen := by have := Hl1.out; rw [svals_len]; unfold maxLen; omega
        have hl2 : ((svals (stayL b (l.take k))).length + 1) * 16 ≤ 140737488355328 := by have := Hl1.out; rw [svals_len]; omega
        clear hb
        go_wp2_with (at_builtin; refine wpList_append_one rfl _ _ _ _ rfl Tryd.underlying37 (.string ⟨#[]⟩) 16 Tryd.stringInfo rfl w1.heap.size _ _ rfl Hu.out (.string s) rfl rfl Hbw.out.size hl1 hl2 ?_)
        apply Stop.go; intro v1 w3 Ho1 Ha1
        go_wp2_with fail
        go_roundw
        case rel =>
          obtain ⟨k1, k2⟩ := Ha1.out.keep _ _ _ _ Hv.out Hap.out.symm
          refine ⟨k + 1, by omega, by go_num, ?_, ?_, k2.symm, Hbw.out.trans Ha1.out.below⟩
          · rw [Hns.out, ← svals_snoc]; exact Ho1.out
          · rw [Hng.out]; exact k1
        case measure => simp [intOf]; omega
      · have Hns := Lib.hid (show stayL b (l.take (k + 1)) = stayL b (l.take k) by rw [Hns.out, hb]; rfl)
        have Hng := Lib.hid (show goL b (l.take (k + 1)) = goL b (l.take k) ++ [s] by rw [Hng.out, hb]; rfl)
        have hl1 : (svals (goL b (l.take k))).length + 1 ≤ maxLen := by have := Hl2.out; rw [svals_len]; unfold maxLen; omega
        have hl2 : ((svals (goL b (l.take k))).length + 1) * 16 ≤ 140737488355328 := by have := Hl2.out; rw [svals_len]; omega
        clear hb
        go_wp2_with (at_builtin; refine wpList_append_one rfl _ _ _ _ rfl Tryd.underlying37 (.string ⟨#[]⟩) 16 Tryd.stringInfo rfl w1.heap.size _ _ rfl Hv.out (.string s) rfl rfl Hbw.out.size hl1 hl2 ?_)
        apply Stop.go; intro v1 w3 Ho1 Ha1
        go_wp2_with fail
        go_roundw
        case rel =>
          obtain ⟨k1, k2⟩ := Ha1.out.keep _ _ _ _ Hu.out Hap.out
          refine ⟨k + 1, by omega, by go_num, ?_, ?_, k2, Hbw.out.trans Ha1.out.below⟩
          · rw [Hns.out]; exact k1
          · rw [Hng.out, ← svals_snoc]; exact Ho1.out
        case measure => simp [intOf]; omega
    · obtain rfl : k = n := by omega
      have hlk : l.take k = l := List.take_of_length_le (by rw [Hn.out]; omega)
      rw [hlk] at Hu Hv
      go_wp2_with fail
      go_ret2
      have hle : w.heap.size ≤ w1.heap.size := by rw [HB.out]; omega
      exact ⟨_, _, rfl, Hu.out.low hle, Hv.out.low hle, Hg1.out.1.trans (Hbw.out.mono hle)⟩

end Go.Proofs.YtojddfebhopkgaaDoor
