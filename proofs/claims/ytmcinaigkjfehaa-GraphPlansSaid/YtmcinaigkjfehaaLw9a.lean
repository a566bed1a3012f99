/-
  The contract of the law's To.
-/
import Derived.Test.YtmcinaigkjfehaaR09a
import Derived.Test.YtmcinaigkjfehaaChgO
import Derived.Test.YtmcinaigkjfehaaCg5
namespace Go.Proofs.Ytmcinaigkjfehaa
open Go.RowKit

theorem Try.intSize9 : (Try.prog.info? 3).map (·.size) = some 1 := by kernel_rfl
theorem OwnL.lt {α : Type} {D : Rds α} {w : World} {B : Nat} {e : TypeId} {N : Nat} {v : Value} {l : List α} (h : OwnL D w B e N v l) : ∀ k, v.ownBlock = some k → B ≤ k ∧ k < w.heap.size := by
  obtain ⟨rows, h1, _⟩ := h
  exact h1.lt
/-- The blocks of a change's row. -/
theorem far5 {i b a : Int} {A A' : Option Addr} {n c n' c' g : Nat} (hg : g ∈ blocksOf (#[Value.int .i64 i, .int .i64 b, .int .i64 a, .slice A n c, .slice A' n' c'] : Array Value).toList) (h1 : (A.map (·.block)) ≠ some g) (h2 : (A'.map (·.block)) ≠ some g) : False := by
  obtain ⟨x, hx, hlx⟩ := mem_blocksOf.1 hg
  simp only [List.mem_cons, List.mem_nil_iff, or_false] at hx
  rcases hx with rfl | rfl | rfl | rfl | rfl
  · cases hlx
  · cases hlx
  · cases hlx
  · cases A with
    | none => cases hlx
    | some ad =>
      rw [leads_slice] at hlx
      split at hlx
      · cases hlx
      · exact h1 hlx
  · cases A' with
    | none => cases hlx
    | some ad =>
      rw [leads_slice] at hlx
      split at hlx
      · cases hlx
      · exact h2 hlx

set_option maxRecDepth 100000 in
set_option maxHeartbeats 8000000 in
theorem to9_any (A : Option Addr) (n cap : Nat) (l : List Cg) (hn : l.length = n) (hm : n ≤ 4096) (hD : ∀ c ∈ l, c.p.data.length ≤ 300 ∧ c.needs.length ≤ 60) (w : World) (hr : RdL RdC w A 5 l) :
    Calls Try.prog 10 #[.slice A n cap] w (RetC w l) := by
  have Hn := Lib.hid hn
  have Hr := Lib.hid hr
  have HDD := Lib.hid hD
  clear hn hr hD
  go_enter Try.func10, Try.ntmps10
  go_wp2_with fail
  go_loopw [3, 4] (fun o i wr => ∃ k : Nat, k ≤ n ∧ i = .int .i64 k ∧ OwnL RdC wr w.heap.size 50 5 o (l.take k) ∧ Below w.heap.size w wr) (fun _ i _ => n - (intOf i).toNat)
  case atStart => exact ⟨0, Nat.zero_le _, rfl, OwnL.nil_ _ _ _ _ _, Below.refl _ _⟩
  case round =>
    obtain ⟨k, hk, rfl, hu, hbw⟩ := hrel
    have Hu := Lib.hid hu
    have Hbw := Lib.hid hbw
    clear hu hbw
    by_cases hlt : k < n
    · have d0 : decide ((k : Int) < n) = true := by simpa using hlt
      have hkl : k < l.length := by rw [Hn.out]; exact hlt
      have z1 : (k : Int) < n := by omega
      obtain ⟨ad, Ad, nd, cd, An, nn, cn, rfl, hcv, h0, h1, h2, h3, h4⟩ := Hr.out.cg hkl
      have Ht := Lib.hid (show l.take (k + 1) = l.take k ++ [l[k]] from List.take_succ_eq_append_getElem hkl)
      have HD := Lib.hid (show nd ≤ 300 ∧ nn ≤ 60 by have := HDD.out l[k] (List.getElem_mem hkl); rw [hcv.p.len, hcv.len] at this; exact this)
      have Hlk := Lib.hid (show (l.take k).length = k by rw [List.length_take, Hn.out]; omega)
      have C0 := Lib.hid h0
      have F1 := Lib.hid (cell_fld h0 h1)
      have F2 := Lib.hid (cell_fld h0 h2)
      have F3 := Lib.hid (cell_fld1 (i := 2) h0 h3)
      have F4 := Lib.hid (cell_fld h0 h4)
      have Hcv := Lib.hid hcv
      clear h0 h1 h2 h3 h4 hcv
      generalize l[k] = c at *
      go_wp2_with fail
      refine WH.start (S := fun w' : World => Below w.heap.size w w') (List.replicate 28 false) 28 rfl rfl (by kernel_rfl) (bt Hbw.out (bdrew wr 1)) (fun hSn => ?_)
      simp only [List.replicate]
      focus (
          have Hex := Lib.hid (bdrew wr 1)
          obtain ⟨wS, hwS⟩ : ∃ x, wr.drew = x := ⟨_, rfl⟩
          rw [show wr.drewN 1 = wS from hwS] at Hex
          rw [hwS] at hSn ⊢
          clear hwS
          refine WH.take 0 _ ?_ rfl (by kernel_rfl) (fun _ _ _ h => h) rfl (by assumption) ?_ ?_; rotate_left; (focus (intro w hSw; (try dsimp only at hSw); (first | (go_simp; done) | (go_simp; with_reducible rfl)))); simp only [Act.put, List.setIfInBounds_toArray, List.set_cons_zero, List.set_cons_succ]
          refine WH.take 1 _ ?_ rfl (by kernel_rfl) (fun _ _ _ h => h) rfl (by assumption) ?_ ?_; rotate_left; (focus (intro w hSw; (try dsimp only at hSw); (first | (go_simp; done) | (go_simp; with_reducible rfl)))); simp only [Act.put, List.setIfInBounds_toArray, List.set_cons_zero, List.set_cons_succ]
          refine WH.take 2 _ ?_ rfl (by kernel_rfl) (fun _ _ _ h => h) rfl (by assumption) ?_ ?_; rotate_left; (focus (intro w hSw; (try dsimp only at hSw); (first | (go_simp; done) | (go_simp; with_reducible rfl)))); simp only [Act.put, List.setIfInBounds_toArray, List.set_cons_zero, List.set_cons_succ]
          refine WH.take 3 _ ?_ rfl (by kernel_rfl) (fun _ _ _ h => h) rfl (by assumption) ?_ ?_; rotate_left; (focus (intro w hSw; (try dsimp only at hSw); (first | (go_simp; done) | (go_simp; with_reducible rfl)))); simp only [Act.put, List.setIfInBounds_toArray, List.set_cons_zero, List.set_cons_succ]
          refine WH.take 4 _ ?_ rfl (by kernel_rfl) (fun _ _ _ h => h) rfl (by assumption) ?_ ?_; rotate_left; (focus (intro w hSw; (try dsimp only at hSw); (first | (go_simp; done) | (go_simp; with_reducible rfl)))); simp only [Act.put, List.setIfInBounds_toArray, List.set_cons_zero, List.set_cons_succ]
          refine WH.take 5 _ _ rfl (by kernel_rfl) (fun _ _ _ h => h) rfl (by assumption) (fun w' hSw => exec_load_cell _ _ rfl (ad.add (k * 5)) rfl (.int .i64 c.id) ((hSw.cell (block_lt_of_cell C0.out)).trans C0.out) _ Try.underlying3 rfl) ?_; simp only [Act.put, List.setIfInBounds_toArray, List.set_cons_zero, List.set_cons_succ]
          refine WH.take 6 _ ?_ rfl (by kernel_rfl) (fun _ _ _ h => h) rfl (by assumption) ?_ ?_; rotate_left; (focus (intro w hSw; (try dsimp only at hSw); (first | (go_simp; done) | (go_simp; with_reducible rfl)))); simp only [Act.put, List.setIfInBounds_toArray, List.set_cons_zero, List.set_cons_succ]
          refine WH.take 7 _ ?_ rfl (by kernel_rfl) (fun _ _ _ h => h) rfl (by assumption) ?_ ?_; rotate_left; (focus (intro w hSw; (try dsimp only at hSw); (first | (go_simp; done) | (go_simp; with_reducible rfl)))); simp only [Act.put, List.setIfInBounds_toArray, List.set_cons_zero, List.set_cons_succ]
          refine WH.take 8 _ ?_ rfl (by kernel_rfl) (fun _ _ _ h => h) rfl (by assumption) ?_ ?_; rotate_left; (focus (intro w hSw; (try dsimp only at hSw); (first | (go_simp; done) | (go_simp; with_reducible rfl)))); simp only [Act.put, List.setIfInBounds_toArray, List.set_cons_zero, List.set_cons_succ]
          refine WH.take 9 _ ?_ rfl (by kernel_rfl) (fun _ _ _ h => h) rfl (by assumption) ?_ ?_; rotate_left; (focus (intro w hSw; (try dsimp only at hSw); (first | (go_simp; done) | (go_simp; with_reducible rfl)))); simp only [Act.put, List.setIfInBounds_toArray, List.set_cons_zero, List.set_cons_succ]
          refine WH.take 10 _ _ rfl (by kernel_rfl) (fun _ _ _ h => h) rfl (by assumption) (fun w' hSw => exec_load_cell _ _ rfl (⟨(ad.add (k * 5)).block, (ad.add (k * 5)).off + 1, none⟩) rfl (.int .i64 c.block) ((hSw.cell (block_lt_of_cell F1.out)).trans F1.out) _ Try.underlying3 rfl) ?_; simp only [Act.put, List.setIfInBounds_toArray, List.set_cons_zero, List.set_cons_succ]
          refine WH.take 11 _ ?_ rfl (by kernel_rfl) (fun _ _ _ h => h) rfl (by assumption) ?_ ?_; rotate_left; (focus (intro w hSw; (try dsimp only at hSw); (first | (go_simp; done) | (go_simp; with_reducible rfl)))); simp only [Act.put, List.setIfInBounds_toArray, List.set_cons_zero, List.set_cons_succ]
          refine WH.take 12 _ ?_ rfl (by kernel_rfl) (fun _ _ _ h => h) rfl (by assumption) ?_ ?_; rotate_left; (focus (intro w hSw; (try dsimp only at hSw); (first | (go_simp; done) | (go_simp; with_reducible rfl)))); simp only [Act.put, List.setIfInBounds_toArray, List.set_cons_zero, List.set_cons_succ]
          refine WH.take 13 _ ?_ rfl (by kernel_rfl) (fun _ _ _ h => h) rfl (by assumption) ?_ ?_; rotate_left; (focus (intro w hSw; (try dsimp only at hSw); (first | (go_simp; done) | (go_simp; with_reducible rfl)))); simp only [Act.put, List.setIfInBounds_toArray, List.set_cons_zero, List.set_cons_succ]
          refine WH.take 14 _ ?_ rfl (by kernel_rfl) (fun _ _ _ h => h) rfl (by assumption) ?_ ?_; rotate_left; (focus (intro w hSw; (try dsimp only at hSw); (first | (go_simp; done) | (go_simp; with_reducible rfl)))); simp only [Act.put, List.setIfInBounds_toArray, List.set_cons_zero, List.set_cons_succ]
          refine WH.take 15 _ _ rfl (by kernel_rfl) (fun _ _ _ h => h) rfl (by assumption) (fun w' hSw => exec_load_pair _ _ rfl ⟨(ad.add (k * 5)).block, (ad.add (k * 5)).off + 2, none⟩ rfl (.int .i64 c.p.at_) (.slice Ad nd cd) ((hSw.cell (block_lt_of_cell F2.out)).trans F2.out) ((hSw.cell (block_lt_of_cell F3.out)).trans F3.out) _ Try.underlying38 Try.rpatchSize) ?_; simp only [Act.put, List.setIfInBounds_toArray, List.set_cons_zero, List.set_cons_succ]
          refine WH.take 18 _ ?_ rfl (by kernel_rfl) (fun _ _ _ h => h) rfl (by assumption) ?_ ?_; rotate_left; (focus (intro w hSw; (try dsimp only at hSw); (first | (go_simp; done) | (go_simp; with_reducible rfl)))); simp only [Act.put, List.setIfInBounds_toArray, List.set_cons_zero, List.set_cons_succ]
          refine WH.take 19 _ ?_ rfl (by kernel_rfl) (fun _ _ _ h => h) rfl (by assumption) ?_ ?_; rotate_left; (focus (intro w hSw; (try dsimp only at hSw); (first | (go_simp; done) | (go_simp; with_reducible rfl)))); simp only [Act.put, List.setIfInBounds_toArray, List.set_cons_zero, List.set_cons_succ]
          refine WH.take 20 _ ?_ rfl (by kernel_rfl) (fun _ _ _ h => h) rfl (by assumption) ?_ ?_; rotate_left; (focus (intro w hSw; (try dsimp only at hSw); (first | (go_simp; done) | (go_simp; with_reducible rfl)))); simp only [Act.put, List.setIfInBounds_toArray, List.set_cons_zero, List.set_cons_succ]
          refine WH.take 21 _ ?_ rfl (by kernel_rfl) (fun _ _ _ h => h) rfl (by assumption) ?_ ?_; rotate_left; (focus (intro w hSw; (try dsimp only at hSw); (first | (go_simp; done) | (go_simp; with_reducible rfl)))); simp only [Act.put, List.setIfInBounds_toArray, List.set_cons_zero, List.set_cons_succ]
          refine WH.take 22 _ _ rfl (by kernel_rfl) (fun _ _ _ h => h) rfl (by assumption) (fun w' hSw => exec_load_cell _ _ rfl (⟨(ad.add (k * 5)).block, (ad.add (k * 5)).off + 4, none⟩) rfl (.slice An nn cn) ((hSw.cell (block_lt_of_cell F4.out)).trans F4.out) _ Try.underlying28 rfl) ?_; simp only [Act.put, List.setIfInBounds_toArray, List.set_cons_zero, List.set_cons_succ]
          refine WH.two 16 17 _ _ rfl rfl (by kernel_rfl) rfl rfl (fun K hK => ?_) (fun K hK => ?_)
          focus (
            go_simp; refine (to_any c.p Ad nd cd _ (Hcv.out.p.below hSn) (by have := HD.out; omega)).mono ?_; rintro e wa ⟨gT, nT, cT, rfl, hpT, hbT, hfT⟩; go_simp
            have HpT := Lib.hid hpT
            have HltT := Lib.hid (fun hl => PV.lt hpT hl)
            have HfT := Lib.hid (Nat.le_trans Hex.out.size hfT)
            have HfT1 := Lib.hid hfT
            have Hex := Lib.hid (bt Hex.out hbT)
            have hSn := bt hSn hbT; refine hK _ _ hSn ?_; clear hK; clear K; simp only [List.set_cons_zero, List.set_cons_succ]
            refine WH.only 17 _ rfl (by kernel_rfl) rfl (fun K hK => ?_)
            refine ow_build0b _ _ rfl Try.underlying28 Try.intSize9 ?_
            apply Stop.go
            intro wb HgE HbE
            have HfE := Lib.hid Hex.out.size
            have HzE := Lib.hid HgE.out.2
            have Hex := Lib.hid (bt Hex.out HgE.out.1)
            have HpT := Lib.hid (HpT.out.below HgE.out.1)
            have hSn := bt hSn HgE.out.1; refine hK _ _ hSn ?_; clear hK; clear K; simp only [Act.put, List.setIfInBounds_toArray, List.set_cons_zero, List.set_cons_succ]
            refine WH.only 23 _ rfl (by kernel_rfl) rfl (fun K hK => ?_)
            refine ow_append_none _ _ _ _ rfl Try.underlying28 _ 8 Try.infoInt rfl (wa.heap.size) rfl HbE.out An nn cn (ivals c.needs) rfl (by rw [ivals_len]; exact Hcv.out.len) (Hcv.out.read.below hSn) (ivals_one _) (by have := HD.out; omega) (by have := HD.out; omega) ?_
            apply Stop.go
            intro gN cN wz HnZ HfN0 HgA HbA
            have HfN := Lib.hid (show nn ≤ cN ∧ cN ≤ maxLen ∧ wr.heap.size ≤ gN from ⟨HfN0.out.1, HfN0.out.2.1, Nat.le_trans HfE.out HfN0.out.2.2⟩)
            have hle := HfE.out
            have Hex := Lib.hid (Hex.out.trans (HbA.out.mono hle))
            have HpT := Lib.hid (HpT.out.grown HgA.out (fun hl => Nat.ne_of_lt (HltT.out hl)))
            have hbw2 := Hbw.out.size
            have hSn := hSn.trans (HbA.out.mono (Nat.le_trans hbw2 hle)); refine hK _ _ hSn ?_; clear hK; clear K; simp only [Act.put, List.setIfInBounds_toArray, List.set_cons_zero, List.set_cons_succ]
            refine WH.take 24 _ ?_ rfl (by kernel_rfl) (fun _ _ _ h => h) rfl (by assumption) ?_ ?_; rotate_left; (focus (intro w hSw; (try dsimp only at hSw); (first | (go_simp; done) | (go_simp; with_reducible rfl)))); simp only [Act.put, List.setIfInBounds_toArray, List.set_cons_zero, List.set_cons_succ]
            refine WH.only 25 _ rfl (by kernel_rfl) rfl (fun K hK => ?_)
            refine ow_build_row _ _ _ rfl Try.underlying25 5 72 _ Try.chgInfo (by decide) (by decide) #[.int .i64 c.id, .int .i64 c.block, .int .i64 c.p.at_, .slice (some ⟨gT, 0, none⟩) nT cT, .slice (some ⟨gN, 0, none⟩) nn cN] rfl rfl ?_
            apply Stop.go
            intro wB HgB HbB
            have HuZ := Lib.hid (Hu.out.ext (bt Hex.out HgB.out.1))
            have HcvZ : Hid (CV wB c (some ⟨gT, 0, none⟩) nT cT (some ⟨gN, 0, none⟩) nn cN) := Lib.hid ⟨Hcv.out.lo0, Hcv.out.hi0, Hcv.out.lo1, Hcv.out.hi1, HpT.out.below HgB.out.1, Hcv.out.len, HfN.out.1, HfN.out.2.1, HnZ.out.below HgB.out.1, Hcv.out.nb⟩
            have hSn := bt hSn HgB.out.1; refine hK _ _ hSn ?_; clear hK; clear K; simp only [Act.put, List.setIfInBounds_toArray, List.set_cons_zero, List.set_cons_succ]
            refine WH.only 26 _ rfl (by kernel_rfl) rfl (fun K hK => ?_)
            refine ow_append_L RdC _ _ _ _ rfl Try.underlying25 5 72 _ Try.chgInfo rfl (by decide) w.heap.size _ (l.take k) rfl HuZ.out _ _ rfl HbB.out rfl (by simp [Value.oneCell']) c HcvZ.out.rd (fun g hg e => far5 hg (fun e2 => by have := HfT.out; have := (Hu.out.lt g e).2; simp at e2; omega) (fun e2 => by have := HfN.out.2.2; have := (Hu.out.lt g e).2; simp at e2; omega)) hSn.size (by rw [Hlk.out]; omega) (by rw [Hlk.out]; omega) ?_
            rw [Hlk.out]
            apply Stop.go
            intro gL capL wL HL HbL HgL HwL
            have HX := Lib.hid (hSn.trans HbL.out)
            have hSn := HX.out; refine hK _ _ hSn ?_; clear hK; clear K; simp only [Act.put, List.setIfInBounds_toArray, List.set_cons_zero, List.set_cons_succ]
            refine WH.take 27 _ ?_ rfl (by kernel_rfl) (fun _ _ _ h => h) rfl (by assumption) ?_ ?_; rotate_left; (focus (intro w hSw; (try dsimp only at hSw); (first | (go_simp; done) | (go_simp; with_reducible rfl)))); simp only [Act.put, List.setIfInBounds_toArray, List.set_cons_zero, List.set_cons_succ]
            refine WH.done (by kernel_rfl) ?_
            clear hSn
            go_wp2_with fail
            go_roundw
            case rel => exact ⟨k + 1, by omega, by go_num, by rw [Ht.out]; exact HL.out, HX.out⟩
            case measure => simp [intOf]; omega)
          focus (
            refine ow_build0b _ _ rfl Try.underlying28 Try.intSize9 ?_
            apply Stop.go
            intro wb HgE HbE
            have HfE := Lib.hid Hex.out.size
            have HzE := Lib.hid HgE.out.2
            have Hex := Lib.hid (bt Hex.out HgE.out.1)
            have hSn := bt hSn HgE.out.1; refine hK _ _ hSn ?_; clear hK; clear K; simp only [Act.put, List.setIfInBounds_toArray, List.set_cons_zero, List.set_cons_succ]
            refine WH.only 16 _ rfl (by kernel_rfl) rfl (fun K hK => ?_); go_simp; refine (to_any c.p Ad nd cd _ (Hcv.out.p.below hSn) (by have := HD.out; omega)).mono ?_; rintro e wc ⟨gT, nT, cT, rfl, hpT, hbT, hfT⟩; go_simp
            have HpT := Lib.hid hpT
            have HfT := Lib.hid (Nat.le_trans Hex.out.size hfT)
            have HfT1 := Lib.hid hfT
            have Hex := Lib.hid (bt Hex.out hbT)
            have HbE := Lib.hid (HbE.out.ext hbT)
            have hSn := bt hSn hbT; refine hK _ _ hSn ?_; clear hK; clear K; simp only [List.set_cons_zero, List.set_cons_succ]
            refine WH.only 23 _ rfl (by kernel_rfl) rfl (fun K hK => ?_)
            refine ow_append_none _ _ _ _ rfl Try.underlying28 _ 8 Try.infoInt rfl (wS.heap.size) rfl HbE.out An nn cn (ivals c.needs) rfl (by rw [ivals_len]; exact Hcv.out.len) (Hcv.out.read.below hSn) (ivals_one _) (by have := HD.out; omega) (by have := HD.out; omega) ?_
            apply Stop.go
            intro gN cN wz HnZ HfN0 HgA HbA
            have HfN := Lib.hid (show nn ≤ cN ∧ cN ≤ maxLen ∧ wr.heap.size ≤ gN from ⟨HfN0.out.1, HfN0.out.2.1, Nat.le_trans HfE.out HfN0.out.2.2⟩)
            have hle := HfE.out
            have Hex := Lib.hid (Hex.out.trans (HbA.out.mono hle))
            have HpT := Lib.hid (HpT.out.grown HgA.out (fun _ => show gT ≠ wS.heap.size from Nat.ne_of_gt (by have := HfT1.out; have := HzE.out; omega)))
            have hbw2 := Hbw.out.size
            have hSn := hSn.trans (HbA.out.mono (Nat.le_trans hbw2 hle)); refine hK _ _ hSn ?_; clear hK; clear K; simp only [Act.put, List.setIfInBounds_toArray, List.set_cons_zero, List.set_cons_succ]
            refine WH.take 24 _ ?_ rfl (by kernel_rfl) (fun _ _ _ h => h) rfl (by assumption) ?_ ?_; rotate_left; (focus (intro w hSw; (try dsimp only at hSw); (first | (go_simp; done) | (go_simp; with_reducible rfl)))); simp only [Act.put, List.setIfInBounds_toArray, List.set_cons_zero, List.set_cons_succ]
            refine WH.only 25 _ rfl (by kernel_rfl) rfl (fun K hK => ?_)
            refine ow_build_row _ _ _ rfl Try.underlying25 5 72 _ Try.chgInfo (by decide) (by decide) #[.int .i64 c.id, .int .i64 c.block, .int .i64 c.p.at_, .slice (some ⟨gT, 0, none⟩) nT cT, .slice (some ⟨gN, 0, none⟩) nn cN] rfl rfl ?_
            apply Stop.go
            intro wB HgB HbB
            have HuZ := Lib.hid (Hu.out.ext (bt Hex.out HgB.out.1))
            have HcvZ : Hid (CV wB c (some ⟨gT, 0, none⟩) nT cT (some ⟨gN, 0, none⟩) nn cN) := Lib.hid ⟨Hcv.out.lo0, Hcv.out.hi0, Hcv.out.lo1, Hcv.out.hi1, HpT.out.below HgB.out.1, Hcv.out.len, HfN.out.1, HfN.out.2.1, HnZ.out.below HgB.out.1, Hcv.out.nb⟩
            have hSn := bt hSn HgB.out.1; refine hK _ _ hSn ?_; clear hK; clear K; simp only [Act.put, List.setIfInBounds_toArray, List.set_cons_zero, List.set_cons_succ]
            refine WH.only 26 _ rfl (by kernel_rfl) rfl (fun K hK => ?_)
            refine ow_append_L RdC _ _ _ _ rfl Try.underlying25 5 72 _ Try.chgInfo rfl (by decide) w.heap.size _ (l.take k) rfl HuZ.out _ _ rfl HbB.out rfl (by simp [Value.oneCell']) c HcvZ.out.rd (fun g hg e => far5 hg (fun e2 => by have := HfT.out; have := (Hu.out.lt g e).2; simp at e2; omega) (fun e2 => by have := HfN.out.2.2; have := (Hu.out.lt g e).2; simp at e2; omega)) hSn.size (by rw [Hlk.out]; omega) (by rw [Hlk.out]; omega) ?_
            rw [Hlk.out]
            apply Stop.go
            intro gL capL wL HL HbL HgL HwL
            have HX := Lib.hid (hSn.trans HbL.out)
            have hSn := HX.out; refine hK _ _ hSn ?_; clear hK; clear K; simp only [Act.put, List.setIfInBounds_toArray, List.set_cons_zero, List.set_cons_succ]
            refine WH.take 27 _ ?_ rfl (by kernel_rfl) (fun _ _ _ h => h) rfl (by assumption) ?_ ?_; rotate_left; (focus (intro w hSw; (try dsimp only at hSw); (first | (go_simp; done) | (go_simp; with_reducible rfl)))); simp only [Act.put, List.setIfInBounds_toArray, List.set_cons_zero, List.set_cons_succ]
            refine WH.done (by kernel_rfl) ?_
            clear hSn
            go_wp2_with fail
            go_roundw
            case rel => exact ⟨k + 1, by omega, by go_num, by rw [Ht.out]; exact HL.out, HX.out⟩
            case measure => simp [intOf]; omega))
    · have d0 : decide ((k : Int) < n) = false := by simpa using hlt
      obtain rfl : k = n := by omega
      have e1 : l.take k = l := List.take_of_length_le (by rw [Hn.out]; omega)
      rw [e1] at Hu
      obtain ⟨A', c', hv, h1, h2, h3⟩ := Hu.out.read
      have Hv := Lib.hid hv
      clear e1 hv
      go_wp2_with fail
      go_ret
      rw [Hn.out] at Hv h1
      exact ⟨A', _, c', congrArg Ending.returned Hv.out, Hn.out, h1, h2, h3, Hbw.out⟩

end Go.Proofs.Ytmcinaigkjfehaa
