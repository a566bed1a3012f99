/-
  Texts of this claim joined: Fm1, Fm2, Fm3.
-/
import Derived.Test.YtbajicgpjggkfaaGreatFmpC
import Derived.Test.YtbajicgpjggkfaaGreatGrD
import Derived.Test.YtbajicgpjggkfaaGreatVwC
import Derived.Test.YtbajicgpjggkfaaGreatGrEE
import Derived.Test.YtbajicgpjggkfaaGreatGrX
import Derived.Test.YtbajicgpjggkfaaGreatGrBB
import Derived.Test.YtbajicgpjggkfaaGreatArrI
import Derived.Test.YtbajicgpjggkfaaGreatGrS

/-
  Contracts of package fmap: ifData, pointers, keepData, At.
-/
namespace Go.Proofs.YtbajicgpjggkfaaGreat
open Go.RowKit
set_option maxRecDepth 10000



set_option maxHeartbeats 1600000 in
theorem fkeep_any (l : Lay14) (f : Value) (A : Option Addr) (n cap : Nat) (t : List Int) (hn : t.length = n) (hm : n ≤ 134) (w : World) (hr : RC w A (ivals t)) :
    Calls Tryz.prog 143 #[.agg (vval l f), .slice A n cap] w (RetL w (dataF l t)) := by
  have Hn := Lib.hid hn
  have Hr := Lib.hid hr
  clear hn hr
  go_enter Tryz.func143, Tryz.ntmps143
  go_wp2_with (refine wpList_box_row rfl _ _ rfl _ rfl ?_)
  apply Stop.go; intro w1 Hg1 Hb1
  have HR1 := Lib.hid (Hr.out.below Hg1.out.1)
  have E1 := Lib.hid Hg1.out.1
  clear Hg1 Hr
  go_wp2_with fail
  go_loopw [5, 10] (fun u z wr => ∃ k : Nat, k ≤ n ∧ z = .int .i64 k ∧ Hid (Below w1.heap.size w1 wr) ∧ Hid (OwnC wr w1.heap.size 3 u (ivals (dataF l (t.take k))))) (fun _ z _ => n - (intOf z).toNat)
  case atStart => exact ⟨0, Nat.zero_le _, rfl, Lib.hid (Below.refl _ _), Lib.hid (OwnC.nil_ _ _ _)⟩
  case round =>
    obtain ⟨k, hk, rfl, E, HO⟩ := hrel
    by_cases hlt : k < n
    · have hkl : k < t.length := by rw [Hn.out]; exact hlt
      have d1 : decide ((k : Int) < (n : Int)) = true := by simp; omega
      have p0 : (0 : Int) ≤ (k : Int) := by omega
      have p1 : (k : Int) < (n : Int) := by omega
      have HV := Lib.hid (Hb1.out.ext E.out)
      have HRn := Lib.hid (HR1.out.below E.out)
      obtain ⟨ad, rfl, hcad⟩ := HRn.out.int k hkl
      have hfk : t[k] = fld t k := by
        have := fld_get t k hkl
        rw [List.getElem?_eq_getElem hkl] at this
        exact Option.some.inj this
      rw [hfk] at hcad
      have HNx := Lib.hid (dataF_next (l := l) hkl)
      have HLn := Lib.hid (show (dataF l (t.take k)).length ≤ k from Nat.le_trans (dataF_len _ _) (by rw [List.length_take]; omega))
      generalize fld t k = x at *
      clear hfk hkl
      go_wp2_with (refine wpList_load_cells rfl _ _ rfl ⟨w.heap.size, 0, none⟩ rfl _ Tryz.underlying26 (Lay14.val l).toList Tryz.laySize (vval_cells HV.out) ?_)
      refine (isdata_any l x _).mono ?_; rintro e wa ⟨rfl, hba⟩
      have HOa := Lib.hid (HO.out.ext hba)
      have Ea := Lib.hid (bt E.out hba)
      have Za := Lib.hid Ea.out.size
      clear hba HV HO E HRn hcad
      cases hdx : l.isD x
      · have HN := Lib.hid (show dataF l (t.take (k + 1)) = dataF l (t.take k) by rw [HNx.out, hdx]; rfl)
        clear hdx HNx
        go_wp2_with fail
        go_roundw
        case rel => exact ⟨k + 1, by omega, by go_num, Ea, Lib.hid (by rw [HN.out]; exact HOa.out)⟩
        case measure => simp [intOf]; omega
      · have HN := Lib.hid (show dataF l (t.take (k + 1)) = dataF l (t.take k) ++ [x] by rw [HNx.out, hdx]; rfl)
        have hl1 : (ivals (dataF l (t.take k))).length + 1 ≤ maxLen := by rw [ivals_len]; unfold maxLen; have := HLn.out; omega
        have hl2 : ((ivals (dataF l (t.take k))).length + 1) * 8 ≤ 140737488355328 := by rw [ivals_len]; have := HLn.out; omega
        clear hdx HNx
        go_wp2_with (at_builtin; refine wpList_append_one rfl _ _ _ _ rfl Tryz.underlying63 (.int .i64 0) 8 Tryz.intInfo rfl w1.heap.size _ _ rfl HOa.out (.int .i64 x) rfl rfl Za.out hl1 hl2 ?_)
        apply Stop.go
        intro v' wb Hv' Ha'
        have HO3 := Lib.hid (show OwnC wb w1.heap.size 3 v' (ivals (dataF l (t.take (k + 1)))) by rw [HN.out, ← ivals_snoc]; exact Hv'.out)
        have E3 := Lib.hid (Ea.out.trans Ha'.out.below)
        clear Hv' Ha' HOa Ea hl1 hl2 HLn Za
        go_wp2_with fail
        go_roundw
        case rel => exact ⟨k + 1, by omega, by go_num, E3, HO3⟩
        case measure => simp [intOf]; omega
    · obtain rfl : k = n := by omega
      have d1 : decide ((k : Int) < (k : Int)) = false := by simp
      rw [List.take_of_length_le (by rw [Hn.out]; omega)] at HO
      go_wp2_with fail
      go_ret
      exact ⟨_, rfl, HO.out.low E1.out.size, bt E1.out E.out⟩


end Go.Proofs.YtbajicgpjggkfaaGreat

/-
  Contract of package fmap: blocks, all 134 of a file by value.
-/
namespace Go.Proofs.YtbajicgpjggkfaaGreat
open Go.RowKit
set_option maxRecDepth 10000

/-- 134 noughts. -/
def zeroF : List Int := List.replicate 134 0
theorem zeroF_len : zeroF.length = 134 := List.length_replicate
theorem sameF {t u : List Int} (h : t.length = 134) (h' : u.length = 134) : (icells t).size = (icells u).size := by rw [icells_size, icells_size, h, h']


end Go.Proofs.YtbajicgpjggkfaaGreat

/-
  Contracts of package fmap: Blocks, Beyond.
-/
namespace Go.Proofs.YtbajicgpjggkfaaGreat
open Go.RowKit
set_option maxRecDepth 10000



end Go.Proofs.YtbajicgpjggkfaaGreat
