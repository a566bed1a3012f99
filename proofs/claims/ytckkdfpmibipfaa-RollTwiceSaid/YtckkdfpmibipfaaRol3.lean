/-
  Contracts of package roll: View, Image, Held, Write, Back.
-/
import Derived.Test.YtckkdfpmibipfaaRol2
import Derived.Test.YtckkdfpmibipfaaPat5
namespace Go.Proofs.Ytckkdfpmibipfaa
open Go.RowKit

section
variable {P : Program} {a : Act} {w : World}
/-- Three results of which the first is an array. -/
theorem bodyPost_cell_tmp2 {R : Ending → World → Prop} {fn : Func} {p q r : Tmp} {t : TypeId} (hf : fn.results = #[ResultVar.cell p t, ResultVar.tmp q, ResultVar.tmp r]) (g : Nat) (hp : a.tmps.getD p undef = .pointer (some ⟨g, 0, none⟩)) (t' : TypeId) (cs : Array Value) (hg : Blk w g t' cs)
    (n : Nat) (e : TypeId) (hu : P.underlying t = some (.array n e)) (hi : (P.info? t).map (·.size) = some cs.size) (hd : a.defers = []) (v : Value) (hq : a.tmps.getD q undef = v) (u : Value) (hr : a.tmps.getD r undef = u) (hR : Stop (R (.returned (.tuple #[.agg cs, v, u])) w)) : bodyPost P fn R .ret a w := by
  refine bodyPost_ret (v := .tuple #[.agg cs, v, u]) ?_ hd hR
  have hp' : a.tmps[p]?.getD undef = .pointer (some ⟨g, 0, none⟩) := by simpa using hp
  have hq' : a.tmps[q]?.getD undef = v := by simpa using hq
  have hr' : a.tmps[r]?.getD undef = u := by simpa using hr
  simp [results, hf, hp', hq', hr', asAddr, run_loadVar_row w g t' t cs (0, 0) _ hg hu rfl hi]
end
/-- A result that is a block, and numbers. -/
def RetAI (w : World) (L : List UInt8) (ids : List Int) (e : Ending) (w' : World) : Prop := ∃ A n c, e = .returned (.tuple #[.agg (bcells L), .slice A n c]) ∧ (ids.length = n ∧ n ≤ c ∧ c ≤ maxLen ∧ RC w' A (ivals ids)) ∧ Below w.heap.size w w'
/-- .. a block, changes (all made by the call), and numbers. -/
def RetACI (w : World) (L : List UInt8) (l : List Cg) (ids : List Int) (e : Ending) (w' : World) : Prop := ∃ A n c A' n' c', e = .returned (.tuple #[.agg (bcells L), .slice A n c, .slice A' n' c']) ∧ (l.length = n ∧ n ≤ c ∧ c ≤ maxLen ∧ RdL (RdHi w.heap.size) w' A 5 l) ∧ (ids.length = n' ∧ n' ≤ c' ∧ c' ≤ maxLen ∧ RC w' A' (ivals ids)) ∧ Below w.heap.size w w'

theorem bcells_mem {M : List UInt8} {v : Value} (h : v ∈ (bcells M).toList) : ∃ z, v = .int .u8 z := by
  unfold bcells at h
  obtain ⟨x, _, rfl⟩ := List.mem_map.1 (by simpa using h)
  exact ⟨_, rfl⟩
/-- A store into a block of bytes leaves numbers. -/
theorem RC.past {w w' : World} {A : Option Addr} {ids : List Int} (h : RC w A (ivals ids)) {g : Nat} {t : TypeId} {M : List UInt8} (hg : Blk w g t (bcells M)) (ho : Only w w' g) : RC w' A (ivals ids) := RC.same h fun hl ad ha => ho.block _ fun e => by
  rw [ivals_len] at hl
  obtain ⟨ad', e', hc⟩ := h.int 0 hl
  rw [ha] at e'
  injection e' with e'
  subst e'
  obtain ⟨z, hz⟩ := bcells_mem (blk_cell_mem hg (by rw [block_of_add]; exact e) hc)
  cases hz
/-- .. and changes that lie apart from it. -/
theorem RdL.past {w w' : World} {B : Nat} {A : Option Addr} {l : List Cg} (h : RdL (RdHi B) w A 5 l) {g : Nat} {t : TypeId} {M : List UInt8} (hg : Blk w g t (bcells M)) (ho : Only w w' g) (hB : g < B) : RdL (RdHi B) w' A 5 l := by
  obtain ⟨rows, h1, h2, h3, h4⟩ := h
  refine ⟨rows, h1, fun k hk i hi => ?_, h3, fun k hk hk' => (RdHi B).stable (h4 k hk hk') fun q hq => ho.block _ (fun e => by have := (h4 k hk hk').2 q hq; omega)⟩
  obtain ⟨ad, x, e, hx, hc⟩ := h2 k hk i hi
  refine ⟨ad, x, e, hx, ?_⟩
  obtain ⟨v0, v1, v2, v3, v4, er, hcg⟩ := (h4 k hk (by omega)).1
  obtain ⟨ad0, x0, e0, hx0, hc0⟩ := h2 k hk 0 (by decide)
  rw [e] at e0
  injection e0 with e0
  subst e0
  rw [er] at hx0
  have hne : ad.block ≠ g := fun hb => by
    obtain ⟨z, hz⟩ := bcells_mem (blk_cell_mem hg (by rw [block_of_add]; exact hb) hc0)
    simp at hx0
    rw [← hx0, hcg.e0] at hz
    cases hz
  rw [World.cell?_of_block (w := w) (w' := w') (a := ad.add (k * 5 + i)) (by rw [block_of_add]; exact ho.block _ hne)]
  exact hc
theorem RdL.hiDown {w : World} {B B' : Nat} {A : Option Addr} {l : List Cg} (h : RdL (RdHi B) w A 5 l) (hB : B' ≤ B) : RdL (RdHi B') w A 5 l := by
  obtain ⟨rows, h1, h2, h3, h4⟩ := h
  exact ⟨rows, h1, h2, h3, fun k hk hk' => ⟨(h4 k hk hk').1, fun g hg => Nat.le_trans hB ((h4 k hk hk').2 g hg)⟩⟩

theorem ofC_len (l : List Cg) (block : Int) : (ofC l block).length ≤ l.length := List.length_filter_le _ _
theorem viewC_len {L : List UInt8} (hL : L.length = 256) (l : List Cg) (block : Int) : (viewC L l block).length = 256 := by
  unfold viewC
  split
  · exact laidC_len _ hL
  · exact hL
theorem imageC_len {L : List UInt8} (hL : L.length = 256) (l : List Cg) (block : Int) : (imageC L l block).length = 256 := laidC_len _ hL
theorem readyC_few {l : List Cg} {block : Int} : (readyC l block).length ≤ l.length := by
  have h := (readyC_sub (l := l) (block := block)).length_le
  rwa [List.length_map] at h
theorem doneC_wrong {l : List Cg} {block : Int} (h : mayC l = false) : doneC l block = [] := by
  unfold doneC
  rw [readyC_wrong h]
  exact List.filter_eq_nil_iff.2 (fun c _ => by simp)
theorem inP_eq (l : List Cg) (block : Int) : inP l block = doneC l block := by
  unfold inP
  split
  · rfl
  · rename_i h
    rw [doneC_wrong (by simpa using h)]
theorem inP_ids (l : List Cg) (block : Int) : (inP l block).map (·.id) = readyC l block := by
  cases hm : mayC l
  · rw [inP_eq, doneC_wrong hm, readyC_wrong hm]; rfl
  · rw [inP_eq, doneC_ids hm]
theorem outP_ids (l : List Cg) (block : Int) : (outP l block).map (·.id) = heldC l block := by
  unfold outP heldC
  split <;> rfl
theorem inP_len (l : List Cg) (block : Int) : (inP l block).length ≤ l.length := by
  have h := congrArg List.length (inP_ids l block)
  rw [List.length_map] at h
  rw [h]
  exact readyC_few
theorem outP_len (l : List Cg) (block : Int) : (outP l block).length ≤ l.length := by
  unfold outP restC
  split
  · exact Nat.le_trans (List.length_filter_le _ _) (ofC_len _ _)
  · exact Nat.zero_le _
theorem imageC_eq (L : List UInt8) (l : List Cg) (block : Int) : imageC L l block = laidC L (inP l block) := by rw [inP_eq]; rfl
theorem RdL.idsR {w : World} {A : Option Addr} {l : List Cg} (h : RdL RdC w A 5 l) : ∀ c ∈ l, -9223372036854775808 ≤ c.id ∧ c.id < 9223372036854775808 := fun c hc => by
  obtain ⟨k, hk, rfl⟩ := List.getElem_of_mem hc
  obtain ⟨ad, Ad, nd, cd, An, nn, cn, _, hcv, _⟩ := h.cg hk
  exact ⟨hcv.lo0, hcv.hi0⟩
theorem readyC_idsR {w : World} {A : Option Addr} {l : List Cg} (h : RdL RdC w A 5 l) {b : Int} : ∀ z ∈ readyC l b, -9223372036854775808 ≤ z ∧ z < 9223372036854775808 := fun z hz => by
  obtain ⟨c, hc, rfl⟩ := List.mem_map.1 (readyC_sub.subset hz)
  exact h.idsR c hc

set_option maxRecDepth 100000 in
set_option maxHeartbeats 4000000 in
theorem pview_any (L : List UInt8) (hL : L.length = 256) (A : Option Addr) (n cap : Nat) (l : List Cg) (hn : l.length = n) (hm : n ≤ 4096) (hD : ∀ c ∈ l, c.p.data.length ≤ 4096 ∧ c.needs.length ≤ 4096) (block : Int) (w : World) (hr : RdL RdC w A 5 l) :
    Calls Try.prog 10 #[.agg (bcells L), .slice A n cap, .int .i64 block] w (RetA w (viewC L l block)) := by
  have HL := Lib.hid hL
  have Hn := Lib.hid hn
  have Hr := Lib.hid hr
  have HDD := Lib.hid hD
  have HV := Lib.hid (show viewC L l block = if mayC l then laidC L (ofC l block) else L from rfl)
  generalize viewC L l block = V at *
  clear hL hn hr hD
  go_enter Try.func10, Try.ntmps10
  go_wp2_with (refine wpList_box_row rfl _ _ rfl _ rfl ?_)
  apply Stop.go; intro w1 Hg1 Hb1
  go_wp2_with (refine wpList_alloc_row rfl _ rfl _ Try.blockZero ?_)
  apply Stop.go; intro w2 Hg2 Hb2
  have Hw2 := Lib.hid (bt Hg1.out.1 Hg2.out.1)
  have Z1 := Lib.hid Hg1.out.2
  have Hy2 := Lib.hid (Hb1.out.ext Hg2.out.1)
  go_wp2_with fail
  refine (chk_any A n cap l Hn.out hm _ (Hr.out.below Hw2.out)).mono ?_; rintro e w3 ⟨rfl, hb3⟩
  have Hw3 := Lib.hid (bt Hw2.out hb3)
  have Hy3 := Lib.hid (Hy2.out.ext hb3)
  have Hz3 := Lib.hid (Hb2.out.ext hb3)
  clear hb3
  cases hmay : mayC l
  · rw [chkI_no hmay]
    rw [hmay] at HV
    clear hmay
    go_wp2_with (first | refine wpList_load_arr rfl _ _ rfl _ rfl _ _ Hy3.out _ _ Try.underlying28 (Try.blockFits HL.out) ?_ | refine wpList_store_arr rfl _ _ _ rfl _ (bcells L) rfl rfl _ _ Hz3.out (Try.blockFits HL.out) (by rw [bcells_size, bcells_size, HL.out, zeros_len]) (oneCell_bcells _) ?_)
    apply Stop.go; intro w6 Ho6 Hb6
    go_wp2_with ((with_reducible show bodyPost _ _ _ _ _ _); refine bodyPost_cell rfl _ rfl _ _ Hb6.out _ _ Try.underlying28 (Try.blockFits HL.out) rfl ?_)
    apply Stop.go
    exact ⟨by rw [HV.out]; rfl, bonly Hw3.out Ho6.out (by have := Z1.out; omega)⟩
  · rw [chkI_yes hmay]
    rw [hmay] at HV
    clear hmay
    have Hr4 := Lib.hid (Hr.out.below (bt Hw3.out (bdrew w3 1)))
    have HM := Lib.hid (laidC_len (ofC l block) HL.out)
    have Hol := Lib.hid (ofC_len l block)
    go_wp2_with fail
    refine WH.start (S := fun w' : World => Blk w' w.heap.size 28 (bcells L)) [false, false, false, false, false, false] 6 rfl rfl (by kernel_rfl) (Hy3.out.ext (bdrew w3 1)) (fun hSn => ?_)
    have Hex := Lib.hid (bdrew w3 1)
    obtain ⟨wS, hwS⟩ : ∃ x, w3.drew = x := ⟨_, rfl⟩
    rw [show w3.drewN 1 = wS from hwS] at Hex Hr4
    rw [hwS] at hSn ⊢
    clear hwS
    refine WH.take 0 _ _ rfl (by kernel_rfl) (fun _ _ _ h => h) rfl (by assumption) (fun w' hSw => run_load_arr _ _ rfl _ rfl _ _ (hSw) _ _ (Try.underlying28) (Try.blockFits HL.out)) ?_; simp only [Act.put, List.setIfInBounds_toArray, List.set_cons_zero, List.set_cons_succ]
    refine WH.take 1 _ ?_ rfl (by kernel_rfl) (fun _ _ _ h => h) rfl (by assumption) ?_ ?_; rotate_left; (focus (intro w hSw; (try dsimp only at hSw); (first | (go_simp; done) | (go_simp; with_reducible rfl)))); simp only [Act.put, List.setIfInBounds_toArray, List.set_cons_zero, List.set_cons_succ]
    refine WH.take 2 _ ?_ rfl (by kernel_rfl) (fun _ _ _ h => h) rfl (by assumption) ?_ ?_; rotate_left; (focus (intro w hSw; (try dsimp only at hSw); (first | (go_simp; done) | (go_simp; with_reducible rfl)))); simp only [Act.put, List.setIfInBounds_toArray, List.set_cons_zero, List.set_cons_succ]
    refine WH.only 3 _ rfl (by kernel_rfl) rfl (fun K hK => ?_); go_simp; refine (pof_any A n cap l Hn.out hm HDD.out block _ Hr4.out).mono ?_; rintro e wa ⟨A2, n2, c2, rfl, h1, h2, h3, h4, h5⟩; go_simp
    have H1 := Lib.hid h1
    have H4 := Lib.hid h4
    have Hex := Lib.hid (bt Hex.out h5)
    clear h1 h2 h3 h4
    have hSn := hSn.ext h5; refine hK _ _ hSn ?_; clear hK; clear K; simp only [List.set_cons_zero, List.set_cons_succ]
    clear h5
    refine WH.only 4 _ rfl (by kernel_rfl) rfl (fun K hK => ?_); go_simp; refine (laid_any L HL.out A2 n2 c2 (ofC l block) H1.out (by have := H1.out; have := Hol.out; have := Hn.out; omega) _ H4.out).mono ?_; rintro e wb ⟨rfl, h5⟩; go_simp
    have Hex := Lib.hid (bt Hex.out h5)
    have hSn := hSn.ext h5; refine hK _ _ hSn ?_; clear hK; clear K; simp only [List.set_cons_zero, List.set_cons_succ]
    clear h5
    have Hz5 := Lib.hid (Hz3.out.ext Hex.out)
    refine WH.only 5 _ rfl (by kernel_rfl) rfl (fun K hK => ?_)
    refine ow_store _ _ _ rfl _ (bcells (laidC L (ofC l block))) rfl rfl _ _ Hz5.out (Try.blockFits HM.out) (by rw [bcells_size, bcells_size, HM.out, zeros_len]) (oneCell_bcells _) ?_
    apply Stop.go
    intro w9 Ho9 Hb9
    have hSn := hSn.only Ho9.out (by have := Z1.out; omega); refine hK _ _ hSn ?_; clear hK; clear K; simp only [Act.put, List.set_cons_zero, List.set_cons_succ]
    refine WH.done (by kernel_rfl) ?_
    go_wp2_with ((with_reducible show bodyPost _ _ _ _ _ _); refine bodyPost_cell rfl _ rfl _ _ Hb9.out _ _ Try.underlying28 (Try.blockFits HM.out) rfl ?_)
    apply Stop.go
    exact ⟨by rw [HV.out]; rfl, bonly (bt Hw3.out Hex.out) Ho9.out (by have := Z1.out; omega)⟩

set_option maxRecDepth 100000 in
set_option maxHeartbeats 4000000 in
theorem pimage_any (L : List UInt8) (hL : L.length = 256) (A : Option Addr) (n cap : Nat) (l : List Cg) (hn : l.length = n) (hm : n ≤ 4096) (block : Int) (w : World) (hr : RdL RdC w A 5 l) :
    Calls Try.prog 11 #[.agg (bcells L), .slice A n cap, .int .i64 block] w (RetAI w (imageC L l block) (readyC l block)) := by
  have HL := Lib.hid hL
  have Hn := Lib.hid hn
  have Hr := Lib.hid hr
  have HV := Lib.hid (imageC_eq L l block)
  have HI := Lib.hid (inP_ids l block)
  have Hil := Lib.hid (inP_len l block)
  have HM := Lib.hid (laidC_len (inP l block) hL)
  generalize imageC L l block = V at *
  generalize readyC l block = R at *
  clear hL hn hr
  go_enter Try.func11, Try.ntmps11
  go_wp2_with (refine wpList_box_row rfl _ _ rfl _ rfl ?_)
  apply Stop.go; intro w1 Hg1 Hb1
  go_wp2_with (refine wpList_alloc_row rfl _ rfl _ Try.blockZero ?_)
  apply Stop.go; intro w2 Hg2 Hb2
  have Hw2 := Lib.hid (bt Hg1.out.1 Hg2.out.1)
  have Z1 := Lib.hid Hg1.out.2
  have Hy2 := Lib.hid (Hb1.out.ext Hg2.out.1)
  go_wp2_with fail
  refine (parted_any A n cap l Hn.out hm block _ (Hr.out.below Hw2.out)).mono ?_; rintro e w3 ⟨A2, n2, c2, A3, n3, c3, rfl, ⟨h1, h2, h3, h4⟩, -, h5⟩
  generalize inP l block = I at *
  have Hw3 := Lib.hid (bt Hw2.out h5)
  have Hy3 := Lib.hid (Hy2.out.ext h5)
  have Hz3 := Lib.hid (Hb2.out.ext h5)
  have H1 := Lib.hid h1
  have H4 := Lib.hid h4
  have Hm2 := Lib.hid (show n2 ≤ 4096 by have := Hil.out; have := Hn.out; omega)
  clear h1 h2 h3 h4 h5
  go_wp2_with (refine wpList_load_arr rfl _ _ rfl _ rfl _ _ Hy3.out _ _ Try.underlying28 (Try.blockFits HL.out) ?_)
  refine (laid_any L HL.out A2 n2 c2 I H1.out Hm2.out _ H4.out).mono ?_; rintro e w4 ⟨rfl, h5⟩
  have Hw4 := Lib.hid (bt Hw3.out h5)
  have Hz4 := Lib.hid (Hz3.out.ext h5)
  have H44 := Lib.hid (H4.out.below h5)
  clear h5
  go_wp2_with fail
  refine (ids_any A2 n2 c2 I H1.out Hm2.out _ H44.out).mono ?_; rintro e w5 ⟨Ai, ni, ci, rfl, g1, g2, g3, g4, h5⟩
  rw [HI.out] at g1 g4
  have Hw5 := Lib.hid (bt Hw4.out h5)
  have Hz5 := Lib.hid (Hz4.out.ext h5)
  have G := Lib.hid (And.intro g1 (And.intro g2 (And.intro g3 g4)))
  clear h5 g1 g2 g3 g4
  go_wp2_with (refine wpList_store_arr rfl _ _ _ rfl _ (bcells (laidC L I)) rfl rfl _ _ Hz5.out (Try.blockFits HM.out) (by rw [bcells_size, bcells_size, HM.out, zeros_len]) (oneCell_bcells _) ?_)
  apply Stop.go; intro w6 Ho6 Hb6
  go_wp2_with ((with_reducible show bodyPost _ _ _ _ _ _); refine bodyPost_cell_tmp rfl _ rfl _ _ Hb6.out _ _ Try.underlying28 (Try.blockFits HM.out) rfl _ rfl ?_)
  apply Stop.go
  exact ⟨Ai, ni, ci, by rw [HV.out], ⟨G.out.1, G.out.2.1, G.out.2.2.1, G.out.2.2.2.past Hz5.out Ho6.out⟩, bonly Hw5.out Ho6.out (by have := Z1.out; omega)⟩

set_option maxRecDepth 100000 in
set_option maxHeartbeats 4000000 in
theorem pheld_any (A : Option Addr) (n cap : Nat) (l : List Cg) (hn : l.length = n) (hm : n ≤ 4096) (block : Int) (w : World) (hr : RdL RdC w A 5 l) :
    Calls Try.prog 17 #[.slice A n cap, .int .i64 block] w (RetI w (heldC l block)) := by
  have Hn := Lib.hid hn
  have Hr := Lib.hid hr
  have HI := Lib.hid (outP_ids l block)
  have Hil := Lib.hid (outP_len l block)
  generalize heldC l block = R at *
  clear hn hr
  go_enter Try.func17, Try.ntmps17
  go_wp2_with fail
  refine (parted_any A n cap l Hn.out hm block _ Hr.out).mono ?_; rintro e w3 ⟨A2, n2, c2, A3, n3, c3, rfl, -, ⟨h1, h2, h3, h4⟩, h5⟩
  generalize outP l block = I at *
  have Hw3 := Lib.hid h5
  have H1 := Lib.hid h1
  have H4 := Lib.hid h4
  have Hm2 := Lib.hid (show n3 ≤ 4096 by have := Hil.out; have := Hn.out; omega)
  clear h1 h2 h3 h4 h5
  go_wp2_with fail
  refine (ids_any A3 n3 c3 I H1.out Hm2.out _ H4.out).mono ?_; rintro e w5 ⟨Ai, ni, ci, rfl, g1, g2, g3, g4, h5⟩
  rw [HI.out] at g1 g4
  have Hw5 := Lib.hid (bt Hw3.out h5)
  have G := Lib.hid (And.intro g1 (And.intro g2 (And.intro g3 g4)))
  clear h5 g1 g2 g3 g4
  go_wp2_with fail
  go_ret
  exact ⟨Ai, ni, ci, rfl, G.out.1, G.out.2.1, G.out.2.2.1, G.out.2.2.2, Hw5.out⟩

set_option maxRecDepth 100000 in
set_option maxHeartbeats 4000000 in
theorem pwrite_any (L : List UInt8) (hL : L.length = 256) (A : Option Addr) (n cap : Nat) (l : List Cg) (hn : l.length = n) (hm : n ≤ 4096) (hD : ∀ c ∈ l, c.p.data.length ≤ 4096 ∧ c.needs.length ≤ 4096) (block : Int) (w : World) (hr : RdL RdC w A 5 l) :
    Calls Try.prog 23 #[.agg (bcells L), .slice A n cap, .int .i64 block] w (RetACI w (imageC L l block) (leftC l block) (readyC l block)) := by
  have HL := Lib.hid hL
  have Hn := Lib.hid hn
  have Hr := Lib.hid hr
  have HDD := Lib.hid hD
  have HM := Lib.hid (imageC_len hL l block)
  have Hfew := Lib.hid (readyC_few (l := l) (block := block))
  have Hnb := Lib.hid (readyC_idsR hr (b := block))
  have HE := Lib.hid (show leftC l block = withoutC l (readyC l block) from rfl)
  have HCI := Lib.hid (fun w' (hb : Below w.heap.size w w') => pimage_any L hL A n cap l hn hm block w' (hr.below hb))
  generalize imageC L l block = V at *
  generalize leftC l block = T at *
  generalize readyC l block = R at *
  clear hL hn hr hD
  go_enter Try.func23, Try.ntmps23
  go_wp2_with (refine wpList_box_row rfl _ _ rfl _ rfl ?_)
  apply Stop.go; intro w1 Hg1 Hb1
  go_wp2_with (refine wpList_alloc_row rfl _ rfl _ Try.blockZero ?_)
  apply Stop.go; intro w2 Hg2 Hb2
  have Hw2 := Lib.hid (bt Hg1.out.1 Hg2.out.1)
  have Z1 := Lib.hid Hg1.out.2
  have Z2 := Lib.hid Hg2.out.2
  have Hy2 := Lib.hid (Hb1.out.ext Hg2.out.1)
  go_wp2_with (refine wpList_load_arr rfl _ _ rfl _ rfl _ _ Hy2.out _ _ Try.underlying28 (Try.blockFits HL.out) ?_)
  refine (HCI.out _ Hw2.out).mono ?_; rintro e w3 ⟨Ai, ni, ci, rfl, ⟨h1, h2, h3, h4⟩, h5⟩
  have Hw3 := Lib.hid (bt Hw2.out h5)
  have Hz3 := Lib.hid (Hb2.out.ext h5)
  have H1 := Lib.hid h1
  have H4 := Lib.hid (And.intro h2 (And.intro h3 h4))
  clear h1 h2 h3 h4 h5
  have Hmi := Lib.hid (show ni ≤ 4096 by have := Hfew.out; have := Hn.out; have := H1.out; omega)
  go_wp2_with (refine wpList_alloc_row rfl _ rfl _ Try.blockZero ?_)
  apply Stop.go; intro w4 Hg4 Hb4
  go_wp2_with (refine wpList_store_arr rfl _ _ _ rfl _ (bcells V) rfl rfl _ _ Hb4.out (Try.blockFits HM.out) (by rw [bcells_size, bcells_size, HM.out, zeros_len]) (oneCell_bcells _) ?_)
  apply Stop.go; intro w5 Ho5 Hb5
  have D5 := Lib.hid (bonly Hg4.out.1 Ho5.out (Nat.le_refl _))
  have Hw5 := Lib.hid (bt Hw3.out D5.out)
  have Hz5 := Lib.hid (Hz3.out.ext D5.out)
  have Hri := Lib.hid (H4.out.2.2.below D5.out)
  have Hex := Lib.hid (bt Hw5.out (bdrew w5 1))
  have Hex2 := Lib.hid (bdrew w5 1)
  go_wp2_with fail
  refine WH.start (S := fun w' : World => Blk w' w3.heap.size 28 (bcells V)) [false, false, false, false, false, false, false, false] 8 rfl rfl (by kernel_rfl) (Hb5.out.ext (bdrew w5 1)) (fun hSn => ?_)
  obtain ⟨wS, hwS⟩ : ∃ x, w5.drew = x := ⟨_, rfl⟩
  rw [show w5.drewN 1 = wS from hwS] at Hex Hex2
  rw [hwS] at hSn ⊢
  clear hwS
  refine WH.take 0 _ _ rfl (by kernel_rfl) (fun _ _ _ h => h) rfl (by assumption) (fun w' hSw => run_load_arr _ _ rfl _ rfl _ _ (hSw) _ _ (Try.underlying28) (Try.blockFits HM.out)) ?_; simp only [Act.put, List.setIfInBounds_toArray, List.set_cons_zero, List.set_cons_succ]
  refine WH.take 1 _ ?_ rfl (by kernel_rfl) (fun _ _ _ h => h) rfl (by assumption) ?_ ?_; rotate_left; (focus (intro w hSw; (try dsimp only at hSw); (first | (go_simp; done) | (go_simp; with_reducible rfl)))); simp only [Act.put, List.setIfInBounds_toArray, List.set_cons_zero, List.set_cons_succ]
  refine WH.take 2 _ ?_ rfl (by kernel_rfl) (fun _ _ _ h => h) rfl (by assumption) ?_ ?_; rotate_left; (focus (intro w hSw; (try dsimp only at hSw); (first | (go_simp; done) | (go_simp; with_reducible rfl)))); simp only [Act.put, List.setIfInBounds_toArray, List.set_cons_zero, List.set_cons_succ]
  refine WH.take 4 _ ?_ rfl (by kernel_rfl) (fun _ _ _ h => h) rfl (by assumption) ?_ ?_; rotate_left; (focus (intro w hSw; (try dsimp only at hSw); (first | (go_simp; done) | (go_simp; with_reducible rfl)))); simp only [Act.put, List.setIfInBounds_toArray, List.set_cons_zero, List.set_cons_succ]
  refine WH.only 3 _ rfl (by kernel_rfl) rfl (fun K hK => ?_); go_simp; refine (pwithoutH_any A n cap l Hn.out hm HDD.out Ai ni ci R H1.out Hmi.out Hnb.out _ (Hr.out.below Hex.out) (Hri.out.below Hex2.out)).mono ?_; rintro e wa ⟨A2, n2, c2, rfl, h1, h2, h3, h4, h5⟩; go_simp
  rw [← HE.out] at h1 h4
  have KK := Lib.hid (And.intro h1 (And.intro h2 (And.intro h3 h4)))
  have Hexa := Lib.hid (bt Hex.out h5)
  have Hexb := Lib.hid (bt Hex2.out h5)
  clear h1 h2 h3 h4
  have hSn := hSn.ext h5; refine hK _ _ hSn ?_; clear hK; clear K; simp only [List.set_cons_zero, List.set_cons_succ]
  clear h5
  have Hz6 := Lib.hid (Hz5.out.ext Hexb.out)
  refine WH.only 5 _ rfl (by kernel_rfl) rfl (fun K hK => ?_)
  refine ow_store _ _ _ rfl _ (bcells V) rfl rfl _ _ Hz6.out (Try.blockFits HM.out) (by rw [bcells_size, bcells_size, HM.out, zeros_len]) (oneCell_bcells _) ?_
  apply Stop.go
  intro w9 Ho9 Hb9
  have hSn := hSn.only Ho9.out (by have := Hw3.out.size; have := Z2.out; have := Z1.out; have := Hz3.out.lt; omega); refine hK _ _ hSn ?_; clear hK; clear K; simp only [Act.put, List.set_cons_zero, List.set_cons_succ]
  refine WH.take 6 _ ?_ rfl (by kernel_rfl) (fun _ _ _ h => h) rfl (by assumption) ?_ ?_; rotate_left; (focus (intro w hSw; (try dsimp only at hSw); (first | (go_simp; done) | (go_simp; with_reducible rfl)))); simp only [Act.put, List.setIfInBounds_toArray, List.set_cons_zero, List.set_cons_succ]
  refine WH.take 7 _ ?_ rfl (by kernel_rfl) (fun _ _ _ h => h) rfl (by assumption) ?_ ?_; rotate_left; (focus (intro w hSw; (try dsimp only at hSw); (first | (go_simp; done) | (go_simp; with_reducible rfl)))); simp only [Act.put, List.setIfInBounds_toArray, List.set_cons_zero, List.set_cons_succ]
  refine WH.done (by kernel_rfl) ?_
  go_wp2_with ((with_reducible show bodyPost _ _ _ _ _ _); refine bodyPost_cell_tmp2 rfl _ rfl _ _ Hb9.out _ _ Try.underlying28 (Try.blockFits HM.out) rfl _ rfl _ rfl ?_)
  apply Stop.go
  exact ⟨A2, n2, c2, Ai, ni, ci, rfl, ⟨KK.out.1, KK.out.2.1, KK.out.2.2.1, (KK.out.2.2.2.past Hz6.out Ho9.out (by have := Hz3.out.lt; have := D5.out.size; have := Hex2.out.size; omega)).hiDown Hex.out.size⟩, ⟨H1.out, H4.out.1, H4.out.2.1, (Hri.out.below Hexb.out).past Hz6.out Ho9.out⟩, bonly Hexa.out Ho9.out (by have := Z1.out; omega)⟩

set_option maxRecDepth 100000 in
set_option maxHeartbeats 4000000 in
theorem pback_any (L : List UInt8) (hL : L.length = 256) (A : Option Addr) (n cap : Nat) (l : List Cg) (hn : l.length = n) (hm : n ≤ 4096) (hD : ∀ c ∈ l, c.p.data.length ≤ 4096 ∧ c.needs.length ≤ 4096) (block : Int) (w : World) (hr : RdL RdC w A 5 l) :
    Calls Try.prog 21 #[.agg (bcells L), .slice A n cap, .int .i64 block] w (RetPL w (diffP (viewC L l block) (imageC L l block))) := by
  have HL := Lib.hid hL
  have HM := Lib.hid (imageC_len hL l block)
  have HN := Lib.hid (viewC_len hL l block)
  have HCI := Lib.hid (fun w' (hb : Below w.heap.size w w') => pimage_any L hL A n cap l hn hm block w' (hr.below hb))
  have HCV := Lib.hid (fun w' (hb : Below w.heap.size w w') => pview_any L hL A n cap l hn hm hD block w' (hr.below hb))
  generalize imageC L l block = V at *
  generalize viewC L l block = U at *
  clear hL hn hr hD
  go_enter Try.func21, Try.ntmps21
  go_wp2_with (refine wpList_box_row rfl _ _ rfl _ rfl ?_)
  apply Stop.go; intro w1 Hg1 Hb1
  go_wp2_with (refine wpList_load_arr rfl _ _ rfl _ rfl _ _ Hb1.out _ _ Try.underlying28 (Try.blockFits HL.out) ?_)
  refine (HCI.out _ Hg1.out.1).mono ?_; rintro e w3 ⟨Ai, ni, ci, rfl, -, h5⟩
  have Hw3 := Lib.hid (bt Hg1.out.1 h5)
  have Hy3 := Lib.hid (Hb1.out.ext h5)
  clear h5
  go_wp2_with (refine wpList_alloc_row rfl _ rfl _ Try.blockZero ?_)
  apply Stop.go; intro w4 Hg4 Hb4
  go_wp2_with (refine wpList_store_arr rfl _ _ _ rfl _ (bcells V) rfl rfl _ _ Hb4.out (Try.blockFits HM.out) (by rw [bcells_size, bcells_size, HM.out, zeros_len]) (oneCell_bcells _) ?_)
  apply Stop.go; intro w5 Ho5 Hb5
  have D5 := Lib.hid (bonly Hg4.out.1 Ho5.out (Nat.le_refl _))
  have Hw5 := Lib.hid (bt Hw3.out D5.out)
  have Hy5 := Lib.hid (Hy3.out.ext D5.out)
  have Hex := Lib.hid (bt Hw5.out (bdrew w5 1))
  go_wp2_with fail
  refine WH.start (S := fun w' : World => Below w5.heap.size w5 w') [false, false, false, false, false, false, false] 7 rfl rfl (by kernel_rfl) (bdrew w5 1) (fun hSn => ?_)
  obtain ⟨wS, hwS⟩ : ∃ x, w5.drew = x := ⟨_, rfl⟩
  rw [show w5.drewN 1 = wS from hwS] at Hex
  rw [hwS] at hSn ⊢
  clear hwS
  refine WH.take 0 _ _ rfl (by kernel_rfl) (fun _ _ _ h => h) rfl (by assumption) (fun w' hSw => run_load_arr _ _ rfl _ rfl _ _ (Hy5.out.ext hSw) _ _ (Try.underlying28) (Try.blockFits HL.out)) ?_; simp only [Act.put, List.setIfInBounds_toArray, List.set_cons_zero, List.set_cons_succ]
  refine WH.take 1 _ ?_ rfl (by kernel_rfl) (fun _ _ _ h => h) rfl (by assumption) ?_ ?_; rotate_left; (focus (intro w hSw; (try dsimp only at hSw); (first | (go_simp; done) | (go_simp; with_reducible rfl)))); simp only [Act.put, List.setIfInBounds_toArray, List.set_cons_zero, List.set_cons_succ]
  refine WH.take 2 _ ?_ rfl (by kernel_rfl) (fun _ _ _ h => h) rfl (by assumption) ?_ ?_; rotate_left; (focus (intro w hSw; (try dsimp only at hSw); (first | (go_simp; done) | (go_simp; with_reducible rfl)))); simp only [Act.put, List.setIfInBounds_toArray, List.set_cons_zero, List.set_cons_succ]
  refine WH.take 4 _ _ rfl (by kernel_rfl) (fun _ _ _ h => h) rfl (by assumption) (fun w' hSw => run_load_arr _ _ rfl _ rfl _ _ (Hb5.out.ext hSw) _ _ (Try.underlying28) (Try.blockFits HM.out)) ?_; simp only [Act.put, List.setIfInBounds_toArray, List.set_cons_zero, List.set_cons_succ]
  refine WH.only 3 _ rfl (by kernel_rfl) rfl (fun K hK => ?_); go_simp; refine (HCV.out _ Hex.out).mono ?_; rintro e wa ⟨rfl, h5⟩; go_simp
  have Hex := Lib.hid (bt Hex.out h5)
  have hSn := bt hSn h5; refine hK _ _ hSn ?_; clear hK; clear K; simp only [List.set_cons_zero, List.set_cons_succ]
  clear h5
  refine WH.only 5 _ rfl (by kernel_rfl) rfl (fun K hK => ?_); go_simp; refine (pdiff_any U V HN.out HM.out _).mono ?_; rintro e wb ⟨A2, n2, c2, rfl, h1, h2, h3, h4, h5⟩; go_simp
  have KK := Lib.hid (And.intro h1 (And.intro h2 (And.intro h3 h4)))
  have Hexb := Lib.hid (bt Hex.out h5)
  have hSn := bt hSn h5; refine hK _ _ hSn ?_; clear hK; clear K; simp only [List.set_cons_zero, List.set_cons_succ]
  clear h1 h2 h3 h4 h5
  refine WH.take 6 _ ?_ rfl (by kernel_rfl) (fun _ _ _ h => h) rfl (by assumption) ?_ ?_; rotate_left; (focus (intro w hSw; (try dsimp only at hSw); (first | (go_simp; done) | (go_simp; with_reducible rfl)))); simp only [Act.put, List.setIfInBounds_toArray, List.set_cons_zero, List.set_cons_succ]
  refine WH.done (by kernel_rfl) ?_
  go_wp2_with fail
  go_ret
  exact ⟨A2, n2, c2, rfl, KK.out.1, KK.out.2.1, KK.out.2.2.1, KK.out.2.2.2, Hexb.out⟩

end Go.Proofs.Ytckkdfpmibipfaa
