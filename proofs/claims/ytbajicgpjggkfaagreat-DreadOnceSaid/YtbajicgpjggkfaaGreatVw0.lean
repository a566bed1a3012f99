/-
  Contracts of the law's own functions of layer 21: To, Same, small.
-/
import Derived.Test.YtbajicgpjggkfaaGreatGrD
import Derived.Test.YtbajicgpjggkfaaGreatGrE
import Derived.Test.YtbajicgpjggkfaaGreatGrU
import Derived.Test.YtbajicgpjggkfaaGreatGrM
import Derived.Test.YtbajicgpjggkfaaGreatGrV
namespace Go.Proofs.YtbajicgpjggkfaaGreat
open Go.RowKit
set_option maxRecDepth 10000

theorem OwnK.of_blk {w : World} {B g : Nat} {e : TypeId} {L : List (List UInt8)} (hL : Bks L) (hg : Blk w g e (bcells L.flatten)) (hb : B ≤ g) (hm : L.length ≤ maxLen) : OwnK w B e (.slice (some ⟨g, 0, none⟩) L.length L.length) L :=
  ⟨hL, by rw [List.length_map, flat_len hL], Or.inr ⟨g, L.length, bcells L.flatten, rfl, hb, hg, Nat.le_refl _, hm, by rw [bcells_size, flat_len hL], by unfold bcells; rw [List.toList_toArray, List.take_of_length_le (by rw [List.length_map, flat_len hL]; omega)]⟩⟩
/-- A result that is a list of blocks of the call's own. -/
def RetK (w : World) (L : List (List UInt8)) (e : Ending) (w' : World) : Prop := ∃ v, e = .returned v ∧ OwnK w' w.heap.size 77 v L ∧ Below w.heap.size w w'

theorem one_flat (d : List UInt8) : ([d] : List (List UInt8)).flatten = d := by simp
theorem one_bks {d : List UInt8} (h : d.length = 256) : Bks [d] := fun x hx => by rw [List.mem_singleton] at hx; subst hx; exact h
set_option maxHeartbeats 1600000 in
theorem to21_any (A : Option Addr) (n cap : Nat) (L : List (List UInt8)) (hn : L.length = n) (hL : Bks L) (hm : n ≤ 1099511627) (w : World) (hr : RK w A L) :
    Calls Tryz.prog 8 #[.slice A n cap] w (RetK w L) := by
  have Hn := Lib.hid hn
  have Hr := Lib.hid hr
  have HL := Lib.hid hL
  clear hn hr hL
  go_enter Tryz.func8, Tryz.ntmps8
  go_wp2_with fail
  go_loopw [3, 4] (fun v i wr => ∃ k : Nat, k ≤ n ∧ i = .int .i64 k ∧ Hid (OwnK wr w.heap.size 77 v (L.take k)) ∧ Hid (Below w.heap.size w wr)) (fun _ i _ => n - (intOf i).toNat)
  case atStart => exact ⟨0, Nat.zero_le _, rfl, Lib.hid (OwnK.nil_ _ _ _), Lib.hid (Below.refl _ _)⟩
  case round =>
    obtain ⟨k, hk, rfl, HO, E⟩ := hrel
    by_cases hlt : k < n
    · have hkl : k < L.length := by rw [Hn.out]; exact hlt
      obtain ⟨ad, rfl⟩ := Hr.out.addr (by omega)
      have HR := Lib.hid (Hr.out.below E.out)
      have HT := Lib.hid (List.take_succ_eq_append_getElem hkl)
      have HX := Lib.hid (HL.out.get hkl)
      have HTl := Lib.hid (show (L.take k).length = k by rw [List.length_take]; omega)
      have p0 : (0 : Int) ≤ (k : Int) := by omega
      go_wp2_with (first | refine wpList_load_bk rfl _ _ rfl ad k rfl L HL.out hkl HR.out _ Tryz.underlying76 rfl Tryz.arr256Size ?_ | refine wpList_build_bk rfl _ _ _ rfl Tryz.underlying33 Tryz.blockInfo (L[k]'hkl) HX.out rfl ?_)
      apply Stop.go; intro w2 Hg2 Hb2
      have HO2 := Lib.hid (HO.out.ext Hg2.out.1)
      have E2 := Lib.hid (bt E.out Hg2.out.1)
      have Hb2 := Lib.hid (show RK w2 (some ⟨wr.heap.size, 0, none⟩) [L[k]'hkl] from RK.of_blk (one_bks HX.out) (by rw [one_flat]; exact Hb2.out))
      clear Hg2 HO E HR
      go_wp2_with (at_builtin; refine wpList_append_bk rfl _ _ _ _ rfl Tryz.underlying33 _ Tryz.blockInfo ((bcells_size _).trans (zeros_len 256)) w.heap.size _ (L.take k) HO2.out ⟨wr.heap.size, 0, none⟩ 1 1 [L[k]'hkl] (one_bks HX.out) rfl Hb2.out rfl rfl E2.out.size (by rw [HTl.out]; omega) ?_)
      apply Stop.go; intro v3 w3 HO3 HB3
      have HO3 := Lib.hid (show OwnK w3 w.heap.size 77 v3 (L.take (k + 1)) by first | exact HO3.out | (rw [HT.out]; exact HO3.out))
      have E3 := Lib.hid (E2.out.trans HB3.out)
      clear HB3 HO2 E2 Hb2
      go_wp2_with fail
      go_roundw
      case rel => exact ⟨k + 1, by omega, by go_num, HO3, E3⟩
      case measure => simp [intOf]; omega
    · obtain rfl : k = n := by omega
      rw [List.take_of_length_le (by rw [Hn.out]; omega)] at HO
      go_wp2_with fail
      go_ret
      exact ⟨_, rfl, HO.out, E.out⟩



end Go.Proofs.YtbajicgpjggkfaaGreat
