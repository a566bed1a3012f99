/-
  Layer 24: the law's own device, and what is there. Plain; no program is named here.
-/
import Derived.Test.YtbajicgpjggkfaaGreatGrP
import Derived.Test.YtbajicgpjggkfaaGreatGrR
import Derived.Test.YtbajicgpjggkfaaGreatGrM
import Derived.Test.YtbajicgpjggkfaaGreatGrU
import Derived.Test.YtbajicgpjggkfaaGreatVw2
namespace Go.Proofs.YtbajicgpjggkfaaGreat
open Go.RowKit
set_option maxRecDepth 10000

def lay24 : Lay14 := ⟨16, 8, 0⟩
def ino24 : List Int := [2, 1, 0, 1, 5, 0, 0, 0, 0, 0, 0]
def non24 : List Int := [2, 0, 0, 0, 0, 0, 0, 0, 0, 0, 0]
def idx24 : List Int := (zeroT.set 0 6).set 1 7
def ent24a : List En := [⟨⟨#[97]⟩, 2⟩, ⟨⟨#[98]⟩, 3⟩]
def ent24b : List En := [⟨⟨#[98]⟩, 4⟩]
def got24 : List En := [⟨⟨#[97]⟩, 2⟩, ⟨⟨#[98]⟩, 4⟩]
def exL24 : List (List UInt8) := (((((List.replicate 16 (zeros 256)).set 0 lay24.blk).set 2 (withT (zeros 256) 0 ino24)).set 5 (outX 1 idx24)).set 6 (newB ent24a)).set 7 (newB ent24b)
theorem idx24_len : idx24.length = 32 := rfl
theorem exL24_len : exL24.length = 16 := rfl
theorem ent24a_len : (newB ent24a).length = 256 := newB_len _
theorem ent24b_len : (newB ent24b).length = 256 := newB_len _
theorem exL24_bks : Bks exL24 := (((((Bks.same 16 (zeros_len 256)).set 0 (Lay14.blk_len _)).set 2 (withT_len (zeros_len 256) 0 ino24)).set 5 (outX_len idx24_len 1)).set 6 ent24a_len).set 7 ent24b_len
theorem ex_lay24 : layW exL24 = some lay24 := by
  have h1 : get14 (bkV exL24 0) = some lay24 := by
    have e : bkV exL24 0 = lay24.blk := rfl
    rw [e]
    unfold Lay14.blk
    rw [if_pos (by decide)]
    exact get_put14 (by decide) (by decide)
  exact layW_some (by rw [exL24_len]; omega) h1 (by rw [exL24_len]; rfl)
theorem ex_ino24 : vIno lay24 (bkV exL24) 1 = ino24 := by decide +kernel
theorem ex_lk24 : lkD lay24 (bkV exL24) ino24 ⟨#[98]⟩ = some [7, 0, 4] := by decide +kernel
theorem ex_lis24 : lisD lay24 (bkV exL24) ino24 = got24 := by kernel_rfl
theorem ex_str24 : strD lay24 (bkV exL24) ino24 = [[6, 1, 3]] := by decide +kernel
theorem ex_emp24 : lisD lay24 (bkV exL24) non24 = [] := by kernel_rfl
theorem ex_srt24 : srtE (lisD lay24 (bkV exL24) ino24) = got24 := by
  have h := srtE_of (L := lisD lay24 (bkV exL24) ino24) lisD_apart (List.Perm.refl _) (by
    rw [ex_lis24]
    unfold got24
    refine List.Pairwise.cons (fun b hb => ?_) (List.pairwise_singleton _ _)
    rw [List.mem_singleton] at hb
    subst hb
    decide +kernel)
  rw [← h, ex_lis24]
theorem ex_non24 : (srtE (lisD lay24 (bkV exL24) non24)).length = 0 := by
  have h := srtE_of (L := lisD lay24 (bkV exL24) non24) lisD_apart (List.Perm.refl _) (by
    rw [ex_emp24]
    exact List.Pairwise.nil)
  rw [← h, ex_emp24]
  rfl
theorem ent24a_size : ∀ e ∈ ent24a, e.name.size ≤ maxLen := by
  intro e he
  have : e.name.size = 1 := by
    unfold ent24a at he
    simp at he
    rcases he with rfl | rfl <;> rfl
  rw [this]
  unfold maxLen
  omega
theorem ent24b_size : ∀ e ∈ ent24b, e.name.size ≤ maxLen := by
  intro e he
  have : e.name.size = 1 := by
    unfold ent24b at he
    simp at he
    rcases he with rfl
    rfl
  rw [this]
  unfold maxLen
  omega

end Go.Proofs.YtbajicgpjggkfaaGreat
