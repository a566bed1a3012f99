/-
  Texts of this claim joined: Law24e, Law25e.
-/
import Derived.Test.YtkakihbfhmiabaaGreatGrAE
import Derived.Test.YtkakihbfhmiabaaGreatGrAG
import Derived.Test.YtkakihbfhmiabaaGreatGrAI
import Derived.Test.YtkakihbfhmiabaaGreatGrAL
import Derived.Test.YtkakihbfhmiabaaGreatVw2
import Derived.Test.YtkakihbfhmiabaaGreatTreB

/-
  Layer 24: the law's own device, and what is there. Plain; no program is named here.
-/
namespace Go.Proofs.YtkakihbfhmiabaaGreat
open Go.RowKit
set_option maxRecDepth 10000

def lay24 : Lay14 := ⟨16, 8, 0⟩
def ino24 : List Int := [2, 1, 0, 1, 5, 0, 0, 0, 0, 0, 0]
def non24 : List Int := [2, 0, 0, 0, 0, 0, 0, 0, 0, 0, 0]
def idx24 : List Int := (zeroT.set 0 6).set 1 7
def ent24a : List En := [⟨⟨#[97]⟩, 2⟩, ⟨⟨#[98]⟩, 3⟩]
def ent24b : List En := [⟨⟨#[98]⟩, 4⟩]
def got24 : List En := [⟨⟨#[97]⟩, 2⟩, ⟨⟨#[98]⟩, 4⟩]
def exL24 : List (List UInt8) := (((((List.replicate 16 (zeros 256)).set 0 lay24.blk).set 2 (withT (zeros 256) 0 ino24)).set 5 (outX 1 idx24)).set 6 (newB ent24a)).set 7 (newB ent24b)
theorem idx24_len : idx24.length = 32 := rfl
theorem exL24_len : exL24.length = 16 := rfl
theorem ent24a_len : (newB ent24a).length = 256 := newB_len _
theorem ent24b_len : (newB ent24b).length = 256 := newB_len _
theorem exL24_bks : Bks exL24 := (((((Bks.same 16 (zeros_len 256)).set 0 (Lay14.blk_len _)).set 2 (withT_len (zeros_len 256) 0 ino24)).set 5 (outX_len idx24_len 1)).set 6 ent24a_len).set 7 ent24b_len
theorem ex_lay24 : layW exL24 = some lay24 := by
  have h1 : get14 (bkV exL24 0) = some lay24 := by
    have e : bkV exL24 0 = lay24.blk := rfl
    rw [e]
    unfold Lay14.blk
    rw [if_pos (by decide)]
    exact get_put14 (by decide) (by decide)
  exact layW_some (by rw [exL24_len]; omega) h1 (by rw [exL24_len]; rfl)
theorem ex_ino24 : vIno lay24 (bkV exL24) 1 = ino24 := by decide +kernel
theorem ex_lk24 : lkD lay24 (bkV exL24) ino24 ⟨#[98]⟩ = some [7, 0, 4] := by decide +kernel
theorem ex_lis24 : lisD lay24 (bkV exL24) ino24 = got24 := by kernel_rfl
theorem ex_str24 : strD lay24 (bkV exL24) ino24 = [[6, 1, 3]] := by decide +kernel
theorem ex_emp24 : lisD lay24 (bkV exL24) non24 = [] := by kernel_rfl
theorem ex_srt24 : srtE (lisD lay24 (bkV exL24) ino24) = got24 := by
  have h := srtE_of (L := lisD lay24 (bkV exL24) ino24) lisD_apart (List.Perm.refl _) (by
    rw [ex_lis24]
    unfold got24
    refine List.Pairwise.cons (fun b hb => ?_) (List.pairwise_singleton _ _)
    rw [List.mem_singleton] at hb
    subst hb
    decide +kernel)
  rw [← h, ex_lis24]
theorem ex_non24 : (srtE (lisD lay24 (bkV exL24) non24)).length = 0 := by
  have h := srtE_of (L := lisD lay24 (bkV exL24) non24) lisD_apart (List.Perm.refl _) (by
    rw [ex_emp24]
    exact List.Pairwise.nil)
  rw [← h, ex_emp24]
  rfl
theorem ent24a_size : ∀ e ∈ ent24a, e.name.size ≤ maxLen := by
  intro e he
  have : e.name.size = 1 := by
    unfold ent24a at he
    simp at he
    rcases he with rfl | rfl <;> rfl
  rw [this]
  unfold maxLen
  omega
theorem ent24b_size : ∀ e ∈ ent24b, e.name.size ≤ maxLen := by
  intro e he
  have : e.name.size = 1 := by
    unfold ent24b at he
    simp at he
    rcases he with rfl
    rfl
  rw [this]
  unfold maxLen
  omega

end Go.Proofs.YtkakihbfhmiabaaGreat

/-
  Layer 25: the law's own device, and its tree. Plain; no program is named here.
-/
namespace Go.Proofs.YtkakihbfhmiabaaGreat
open Go.RowKit
set_option maxRecDepth 10000

def fil25 : List Int := [1, 1, 2, 0, 0, 0, 0, 0, 0, 0, 0]
def idx25 : List Int := zeroT.set 0 6
def exL25 : List (List UInt8) := ((((List.replicate 16 (zeros 256)).set 0 lay24.blk).set 2 (withT (withT (zeros 256) 0 ino24) 1 fil25)).set 5 (outX 0 idx25)).set 6 (newB ent24a)
theorem idx25_len : idx25.length = 32 := rfl
theorem exL25_len : exL25.length = 16 := rfl
theorem exL25_bks : Bks exL25 := ((((Bks.same 16 (zeros_len 256)).set 0 (Lay14.blk_len _)).set 2 (withT_len (withT_len (zeros_len 256) 0 ino24) 1 fil25)).set 5 (outX_len idx25_len 0)).set 6 ent24a_len
theorem ex_lay25 : layW exL25 = some lay24 := by
  have h1 : get14 (bkV exL25 0) = some lay24 := by
    have e : bkV exL25 0 = lay24.blk := rfl
    rw [e]
    unfold Lay14.blk
    rw [if_pos (by decide)]
    exact get_put14 (by decide) (by decide)
  exact layW_some (by rw [exL25_len]; omega) h1 (by rw [exL25_len]; rfl)
theorem ex_ino25 : vIno lay24 (bkV exL25) 1 = ino24 := by decide +kernel
theorem ex_fil25 : vIno lay24 (bkV exL25) 2 = fil25 := by decide +kernel
theorem ex_non25 : fld (vIno lay24 (bkV exL25) 3) 0 = 0 := by decide +kernel
theorem ex_lis25 : lisD lay24 (bkV exL25) ino24 = ent24a := by kernel_rfl
theorem ex_lif25 : lisD lay24 (bkV exL25) fil25 = [] := by kernel_rfl
theorem ex_srt25 : srtE (lisD lay24 (bkV exL25) ino24) = ent24a := by
  have h := srtE_of (L := lisD lay24 (bkV exL25) ino24) lisD_apart (List.Perm.refl _) (by
    rw [ex_lis25]
    unfold ent24a
    refine List.Pairwise.cons (fun b hb => ?_) (List.pairwise_singleton _ _)
    rw [List.mem_singleton] at hb
    subst hb
    decide +kernel)
  rw [← h, ex_lis25]
theorem ex_srf25 : srtE (lisD lay24 (bkV exL25) fil25) = [] := by
  have h := srtE_of (L := lisD lay24 (bkV exL25) fil25) lisD_apart (List.Perm.refl _) (by
    rw [ex_lif25]
    exact List.Pairwise.nil)
  rw [← h, ex_lif25]
def nod25a : Nd := ⟨1, 2, 1, 1, 0, [], [⟨⟨#[97]⟩, 2⟩]⟩
def nod25b : Nd := ⟨2, 1, 1, 0, 2, [0, 0], []⟩
theorem ex_nam25 : namP lay24 (bkV exL25) ino24 = [⟨⟨#[97]⟩, 2⟩] := by
  unfold namP
  rw [ex_srt25]
  have e1 : isKd (fld (vIno lay24 (bkV exL25) 2) 0) = true := by rw [ex_fil25]; rfl
  have e2 : isKd (fld (vIno lay24 (bkV exL25) 3) 0) = false := by rw [ex_non25]; rfl
  unfold ent24a
  rw [List.filter_cons_of_pos (by simpa using e1), List.filter_cons_of_neg (by simpa using e2), List.filter_nil]
theorem ex_naf25 : namP lay24 (bkV exL25) fil25 = [] := by unfold namP; rw [ex_srf25]; rfl
theorem ex_noda : nodP lay24 (bkV exL25) 1 = nod25a := by
  unfold nodP nodX
  rw [ex_ino25, ex_nam25]
  rfl
theorem ex_nodb : nodP lay24 (bkV exL25) 2 = nod25b := by
  unfold nodP nodX
  rw [ex_fil25, ex_naf25]
  have e : segR lay24 (bkV exL25) fil25 0 (sizeR fil25) = [0, 0] := by decide +kernel
  rw [e]
  rfl
theorem ex_tree25 : treeP lay24 (bkV exL25) = [nod25a, nod25b] := by
  have h1 : treeW (nodP lay24 (bkV exL25)) 1 = [nod25a, nod25b] := by
    show stepP (nodP lay24 (bkV exL25)) [nodP lay24 (bkV exL25) 1] 0 = _
    rw [ex_noda, stepP_some (n := nod25a) rfl]
    show addP (nodP lay24 (bkV exL25)) [nod25a] ⟨⟨#[97]⟩, 2⟩ = _
    unfold addP
    rw [if_neg (by decide)]
    show [nod25a] ++ [nodP lay24 (bkV exL25) 2] = _
    rw [ex_nodb]
    rfl
  have h2 : treeW (nodP lay24 (bkV exL25)) 2 = [nod25a, nod25b] := by
    show stepP (nodP lay24 (bkV exL25)) (treeW (nodP lay24 (bkV exL25)) 1) 1 = _
    rw [h1, stepP_some (n := nod25b) rfl]
    rfl
  have h3 := treeW_end (N := nodP lay24 (bkV exL25)) (k := 2) nodP_ino nodP_low (by rw [h2]; rfl)
  unfold treeP
  rw [ex_ino25, if_pos (by decide), h3, h2]
  rfl
theorem ex_at25 : atP [nod25a, nod25b] (fstI [nod25a, nod25b] 1) [⟨#[97]⟩] = some 1 := by decide +kernel
theorem ex_cnt25 : cntT [nod25a, nod25b] 2 = 1 := by decide
theorem ex_out25 : outP [nod25a, nod25b] = [⟨#[47, 97]⟩] := by decide +kernel
theorem ex_path25 : pathP [nod25a, nod25b] = [⟨#[47, 97]⟩] := by
  unfold pathP
  rw [ex_out25]
  refine RiseS.uniq (sortS_rises _) (List.pairwise_singleton _ _) fun x => ?_
  rw [sortS_mem]

end Go.Proofs.YtkakihbfhmiabaaGreat
