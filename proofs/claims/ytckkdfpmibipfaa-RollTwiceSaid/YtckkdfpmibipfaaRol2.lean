/-
  The contract of package roll's parted.
-/
import Derived.Test.YtckkdfpmibipfaaRol1
import Derived.Test.YtckkdfpmibipfaaRollB
import Derived.Test.YtckkdfpmibipfaaCg8
import Derived.Test.YtckkdfpmibipfaaCg12
import Derived.BigQuiet
namespace Go.Proofs.Ytckkdfpmibipfaa
open Go.RowKit

/-- A change whose bytes and needs lie below a block. -/
def RdLow (B : Nat) : Rds Cg where
  R := fun w r c => RdC.R w r c ∧ ∀ g ∈ blocksOf r, g < B
  stable := fun h hs => ⟨RdC.stable h.1 hs, h.2⟩
  there := fun h g hg => RdC.there h.1 g hg
theorem OwnL.plain {w : World} {B B' : Nat} {e : TypeId} {v : Value} {l : List Cg} (h : OwnL (RdLow B') w B e 5 v l) : OwnL RdC w B e 5 v l := by
  obtain ⟨rows, h1, h2, h3, h4⟩ := h
  exact ⟨rows, h1, h2, fun k hk hk' => (h3 k hk hk').1, h4⟩
/-- Another list of the call's own grows. -/
theorem OwnL.keepLow {w w' : World} {B : Nat} {e : TypeId} {u v : Value} {l : List Cg} (h : OwnL (RdLow B) w B e 5 u l) (hg : w.grownBy w' v.ownBlock) (hv : ∀ k, v.ownBlock = some k → B ≤ k) (ha : Apart u v) : OwnL (RdLow B) w' B e 5 u l := by
  obtain ⟨rows, h1, h2, h3, h4⟩ := h
  refine ⟨rows, ⟨h1.1, h1.2.1, ?_⟩, h2, fun k hk hk' => (RdLow B).stable (h3 k hk hk') fun q hq => hg.block q ((RdLow B).there (h3 k hk hk') q hq) (fun e => ?_), h4⟩
  · rcases h1.2.2 with h | ⟨q, cap, cur, hv, hb, hq, h⟩
    · exact Or.inl h
    · exact Or.inr ⟨q, cap, cur, hv, hb, Blk.grown hq hg (fun e => ha q (by rw [hv]; rfl) e.symm), h⟩
  · have h5 := (h3 k hk hk').2 q hq
    have h6 := hv q e.symm
    omega
theorem Apart.grown {w : World} {u v : Value} {g n c : Nat} (ha : Apart u v) (hu : ∀ k, u.ownBlock = some k → k < w.heap.size) (hw : v.ownBlock = some g ∨ g = w.heap.size) : Apart u (.slice (some ⟨g, 0, none⟩) n c) := fun k h1 h2 => by
  have e : g = k := by simpa [Value.ownBlock] using h2
  subst e
  rcases hw with hw | hw
  · exact ha g h1 hw
  · have := hu g h1
    omega
section
variable {P : Program} {a : Act} {w : World}
/-- A slice of numbers without the first. -/
theorem exec_slice_tail {o : Oper} (t : TypeId) (x : Operand) (k : IntKind) (ho : o.op = .slice t x (some (.const (.int k 1))) none none) (e : TypeId) (hu : P.underlying t = some (.slice e)) (hs : (P.info? e).map (·.size) = some 1)
    (A : Option Addr) (n c : Nat) (hx : a.eval x = .slice A n c) (h1 : 1 ≤ n) (_h2 : n ≤ c) : (execOp a.eval o).run P w = .ok (.value (.slice (if c = 1 then A else A.map (·.add 1)) (n - 1) (c - 1))) w := by
  have hel : P.elem t = e := by simp [Program.elem, hu]
  have hr : (Instr.slice t (.slice A n c) (some (.int k 1)) none none).run P w = .ok (.slice (if c = 1 then A else A.map (·.add 1)) (n - 1) (c - 1)) w := by
    rw [run_slice_l w t _ _ _ (by rw [hel]; exact hu) k 1 (by omega) (by omega), hel, sizeOf_of hs]
    simp [Result.andThen, sliced]
  have hc : a.eval (.const (.int k 1)) = .int k 1 := rfl
  unfold execOp
  simp only [ho, hx, hc, Sem.run_bind, Sem.run_pure, Result.andThen_ok, Option.map_some, Option.map_none, Instr.sliceAt, run_underlying hu, hr]
end
theorem RC.tail {w : World} {A : Option Addr} {x : Int} {t : List Int} {c : Nat} (h : RC w A (ivals (x :: t))) (hc : t.length + 1 ≤ c) : RC w (if c = 1 then A else A.map (·.add 1)) (ivals t) := fun k hk => by
  rw [ivals_len] at hk
  obtain ⟨ad, e, hc2⟩ := h (k + 1) (by rw [ivals_len]; simp; omega)
  refine ⟨ad.add 1, ?_, ?_⟩
  · rw [if_neg (by omega), e]; rfl
  · rw [add_of_add, Nat.add_comm 1 k, hc2]
    simp [ivals]

/-- Two results that are slices of changes. -/
def RetCC (w : World) (l l' : List Cg) (e : Ending) (w' : World) : Prop := ∃ A n c A' n' c', e = .returned (.tuple #[.slice A n c, .slice A' n' c']) ∧ (l.length = n ∧ n ≤ c ∧ c ≤ maxLen ∧ RdL RdC w' A 5 l) ∧ (l'.length = n' ∧ n' ≤ c' ∧ c' ≤ maxLen ∧ RdL RdC w' A' 5 l') ∧ Below w.heap.size w w'
/-- What parted tells. -/
def inP (l : List Cg) (block : Int) : List Cg := if mayC l then doneC l block else []
def outP (l : List Cg) (block : Int) : List Cg := if mayC l then restC l block else []

set_option maxRecDepth 100000 in
set_option maxHeartbeats 16000000 in
theorem parted_any (A : Option Addr) (n cap : Nat) (l : List Cg) (hn : l.length = n) (hm : n ≤ 4096) (block : Int) (w : World) (hr : RdL RdC w A 5 l) :
    Calls Try.prog 31 #[.slice A n cap, .int .i64 block] w (RetCC w (inP l block) (outP l block)) := by
  have Hn := Lib.hid hn
  have Hr := Lib.hid hr
  have Hin := Lib.hid (show inP l block = if mayC l then doneC l block else [] from rfl)
  have Hout := Lib.hid (show outP l block = if mayC l then restC l block else [] from rfl)
  generalize inP l block = I at *
  generalize outP l block = O at *
  clear hn hr
  go_enter Try.func31, Try.ntmps31
  go_wp2_with fail
  refine (chk_any A n cap l Hn.out hm _ Hr.out).mono ?_; rintro e w2 ⟨rfl, hb2⟩
  have Hb2 := Lib.hid hb2
  clear hb2
  cases hmay : mayC l
  · rw [chkI_no hmay]
    rw [hmay] at Hin Hout
    clear hmay
    go_wp2_with fail
    go_ret2
    have e1 : I = [] := Hin.out
    have e2 : O = [] := Hout.out
    subst e1; subst e2
    exact ⟨_, _, _, _, _, _, rfl, ⟨rfl, Nat.le_refl _, by unfold maxLen; omega, [], fun r hr => by simp at hr, fun k hk => by simp at hk, rfl, fun k hk => by simp at hk⟩, ⟨rfl, Nat.le_refl _, by unfold maxLen; omega, [], fun r hr => by simp at hr, fun k hk => by simp at hk, rfl, fun k hk => by simp at hk⟩, Hb2.out⟩
  · rw [chkI_yes hmay]
    have Hmay := Lib.hid hmay
    rw [hmay, if_pos rfl] at Hin Hout
    clear hmay
    go_wp2_with fail
    refine (pready_any A n cap l Hn.out hm block _ (Hr.out.below Hb2.out)).mono ?_; rintro e w3 ⟨An, nn, cn, rfl, g1, g2, g3, g4, g5⟩
    have Hw3 := Lib.hid (bt Hb2.out g5)
    have Hr3 := Lib.hid (Hr.out.below Hw3.out)
    rw [← nextK_zero Hmay.out] at g1 g4
    have G := Lib.hid (show (nextK l block 0).length = nn ∧ nn ≤ cn ∧ cn ≤ maxLen ∧ RC w3 An (ivals (nextK l block 0)) from ⟨g1, g2, g3, g4⟩)
    clear g1 g2 g3 g4 g5
    generalize hB : w3.heap.size = B at *
    have HB := Lib.hid hB
    clear hB
    go_wp2_with fail
    go_loopw [4, 5, 6, 17] (fun v u nx i wr => ∃ k : Nat, k ≤ n ∧ i = .int .i64 k ∧ OwnL (RdLow B) wr B 59 5 v (inK l block k) ∧ OwnL (RdLow B) wr B 59 5 u (outK l block k) ∧ Apart v u ∧ (∃ Ax xn xc, nx = .slice Ax xn xc ∧ (nextK l block k).length = xn ∧ xn ≤ xc ∧ RC w3 Ax (ivals (nextK l block k))) ∧ Below B w3 wr) (fun _ _ _ i _ => n - (intOf i).toNat)
    case atStart => exact ⟨0, Nat.zero_le _, rfl, OwnL.nil_ _ _ _ _ _, OwnL.nil_ _ _ _ _ _, Apart.nil_ _, ⟨An, nn, cn, rfl, G.out.1, G.out.2.1, G.out.2.2.2⟩, Below.refl _ _⟩
    case round =>
      obtain ⟨k, hk, rfl, hv, hu, hap, ⟨Ax, xn, xc, rfl, hx1, hx2, hx3⟩, hbw⟩ := hrel
      have Hv := Lib.hid hv
      have Hu := Lib.hid hu
      have Hap := Lib.hid hap
      have Hx := Lib.hid (And.intro hx1 (And.intro hx2 hx3))
      have Hbw := Lib.hid hbw
      have Hb3 : Hid (Below w3.heap.size w3 wr) := Lib.hid (by rw [HB.out]; exact hbw)
      have HzB := Lib.hid (show B ≤ wr.heap.size from HB.out ▸ hbw.size)
      clear hv hu hap hx1 hx2 hx3 hbw
      by_cases hlt : k < n
      · have d0 : decide ((k : Int) < n) = true := by simpa using hlt
        have hkl : k < l.length := by rw [Hn.out]; exact hlt
        have z1 : (k : Int) < n := by omega
        have HP0 := Lib.hid (fun h => part_other (block := block) hkl h)
        have HP1 := Lib.hid (fun h h' => part_in (block := block) hkl h h')
        have HP2 := Lib.hid (fun h h' => part_out (block := block) hkl h h')
        have HL1 := Lib.hid (inK_len l block k)
        have HL2 := Lib.hid (outK_len l block k)
        obtain ⟨ad, Ad, nd, cd, Am, nm, cm, rfl, hcv, h0, h1, h2, h3, h4⟩ := Hr3.out.cg hkl
        have tr := fun {ad : Addr} {v : Value} (h : w3.cell? ad = some v) => (Hb3.out.cell (block_lt_of_cell h)).trans h
        have C0 := Lib.hid (tr h0)
        have C1 := Lib.hid (tr h1)
        have C2 := Lib.hid (tr h2)
        have C3 := Lib.hid (tr h3)
        have C4 := Lib.hid (tr h4)
        have HLow := Lib.hid (fun g (hg : g ∈ blocksOf [.int .i64 l[k].id, .int .i64 l[k].block, .int .i64 l[k].p.at_, .slice Ad nd cd, .slice Am nm cm]) => show g < B from HB.out ▸ RdC.there hcv.rd g hg)
        have Hcv := Lib.hid (hcv.below Hb3.out)
        clear h0 h1 h2 h3 h4 hcv tr
        generalize l[k] = c at *
        generalize inK l block k = I1 at *
        generalize outK l block k = O1 at *
        generalize nextK l block k = N1 at *
        generalize (readyC l block).contains c.id = rb at *
        clear hkl
        go_wp2_with (first | refine wpList_load_five rfl _ _ rfl (ad.add (k * 5)) rfl _ _ _ _ _ C0.out C1.out C2.out C3.out C4.out _ Try.underlying59 Try.chgSize ?_ | refine wpList_alloc_row rfl _ rfl _ Try.chgZero ?_); apply Stop.go; intro wa Hga Hba; go_wp2_with (refine wpList_store_arr rfl _ _ _ rfl _ #[.int .i64 c.id, .int .i64 c.block, .int .i64 c.p.at_, .slice Ad nd cd, .slice Am nm cm] rfl rfl _ _ Hba.out Try.chgSize rfl (by simp [Value.oneCell']) ?_); apply Stop.go; intro w4 Ho4 Hb4; have D4 := Lib.hid (bonly Hga.out.1 Ho4.out (Nat.le_refl _))
        have c1 : w4.cell? ⟨wr.heap.size, 1, none⟩ = some (.int .i64 c.block) := Hb4.out.five.2.1
        have c0 : w4.cell? ⟨wr.heap.size, 0, none⟩ = some (.int .i64 c.id) := Hb4.out.five.1
        have D34 := Lib.hid (bt Hb3.out D4.out)
        by_cases hb : c.block = block
        · have e1 : (c.block != block) = false := by simpa using hb
          have HbE := Lib.hid hb
          clear hb
          cases rb
          · obtain ⟨p1, p2, p3, p4⟩ := HP2.out HbE.out rfl
            have Q1 := Lib.hid p1
            have Q2 := Lib.hid p2
            have Q3 := Lib.hid p3
            have Q4 := Lib.hid p4
            clear p1 p2 p3 p4
            cases N1 with
            | nil =>
              have d1 : decide (0 < xn) = false := by have := Hx.out.1; simp at this; simp; omega
              go_wp2_with fail
              go_quiet (fail)
              have D5 := Lib.hid (bdrew w4 nq)
              have Hx5 := Lib.hid (Hb4.out.ext D5.out)
              generalize w4.drewN nq = w5 at *
              go_wp2_with (first | refine wpList_load_blk rfl _ _ rfl _ rfl _ _ Hx5.out _ Try.underlying59 rfl Try.chgSize ?_ | refine wpList_build_row rfl _ _ _ rfl Try.underlying26 5 72 _ Try.chgInfo (by decide) (by decide) #[.int .i64 c.id, .int .i64 c.block, .int .i64 c.p.at_, .slice Ad nd cd, .slice Am nm cm] rfl rfl ?_)
              apply Stop.go; intro w8 Hg8 Hb8
              have D8 := Lib.hid (bt (bt D4.out D5.out) Hg8.out.1)
              have Hu8 := Lib.hid (Hu.out.ext D8.out)
              have Hv8 := Lib.hid (Hv.out.ext D8.out)
              have HR8 := Lib.hid (show (RdLow B).R w8 _ c from ⟨(Hcv.out.below D8.out).rd, HLow.out⟩)
              have Hz8 := Lib.hid (Nat.le_trans HzB.out D8.out.size)
              have hl1 : O1.length + 1 ≤ 140737488355328 := by have := HL2.out; omega
              have hl2 : (O1.length + 1) * 72 ≤ 140737488355328 := by have := HL2.out; omega
              go_wp2_with (at_builtin; refine wpList_append_L (RdLow B) rfl _ _ _ _ rfl Try.underlying26 5 72 _ Try.chgInfo rfl (by decide) B _ O1 rfl Hu8.out _ _ rfl Hb8.out rfl (by simp [Value.oneCell']) c HR8.out (fun q hq e => by have h1 := HLow.out q hq; have h2 := (Hu.out.lt q e).1; omega) Hz8.out hl1 hl2 ?_)
              apply Stop.go
              intro gL capL wL HL HbL HgL HwL
              go_wp2_with fail
              go_roundw
              case rel => exact ⟨k + 1, by omega, by go_num, by rw [Q1.out]; exact Hv8.out.keepLow HgL.out (fun q e => (Hu8.out.lt q e).1) Hap.out, by rw [Q2.out]; exact HL.out, Hap.out.grown (fun q e => (Hv8.out.lt q e).2) HwL.out.1, ⟨_, xn, xc, rfl, by rw [Q3.out]; exact Hx.out.1, Hx.out.2.1, by rw [Q3.out]; exact Hx.out.2.2⟩, (HB.out ▸ bt Hb3.out D8.out : Below B w3 w8).trans HbL.out⟩
              case measure => simp [intOf]; omega
            | cons y T =>
              have z2 : 0 < xn := by have := Hx.out.1; simp at this; omega
              have z3 : (0 : Int) < xn := by omega
              have d1 : decide (0 < xn) = true := by simpa using z2
              obtain ⟨ax, rfl, hy⟩ := Hx.out.2.2.int 0 (by simp)
              have cy : w4.cell? ax = some (.int .i64 y) := (D34.out.cell (block_lt_of_cell hy)).trans hy
              have cy0 : w4.cell? (ax.add 0) = some (.int .i64 y) := (D34.out.cell (block_lt_of_cell hy)).trans hy
              have e2 : (c.id == y) = false := by simpa using fun e => Q4.out y (by simp) e.symm
              clear hy
              go_wp2_with fail
              go_quiet (fail)
              have D5 := Lib.hid (bdrew w4 nq)
              have Hx5 := Lib.hid (Hb4.out.ext D5.out)
              generalize w4.drewN nq = w5 at *
              go_wp2_with (first | refine wpList_load_blk rfl _ _ rfl _ rfl _ _ Hx5.out _ Try.underlying59 rfl Try.chgSize ?_ | refine wpList_build_row rfl _ _ _ rfl Try.underlying26 5 72 _ Try.chgInfo (by decide) (by decide) #[.int .i64 c.id, .int .i64 c.block, .int .i64 c.p.at_, .slice Ad nd cd, .slice Am nm cm] rfl rfl ?_)
              apply Stop.go; intro w8 Hg8 Hb8
              have D8 := Lib.hid (bt (bt D4.out D5.out) Hg8.out.1)
              have Hu8 := Lib.hid (Hu.out.ext D8.out)
              have Hv8 := Lib.hid (Hv.out.ext D8.out)
              have HR8 := Lib.hid (show (RdLow B).R w8 _ c from ⟨(Hcv.out.below D8.out).rd, HLow.out⟩)
              have Hz8 := Lib.hid (Nat.le_trans HzB.out D8.out.size)
              have hl1 : O1.length + 1 ≤ 140737488355328 := by have := HL2.out; omega
              have hl2 : (O1.length + 1) * 72 ≤ 140737488355328 := by have := HL2.out; omega
              go_wp2_with (at_builtin; refine wpList_append_L (RdLow B) rfl _ _ _ _ rfl Try.underlying26 5 72 _ Try.chgInfo rfl (by decide) B _ O1 rfl Hu8.out _ _ rfl Hb8.out rfl (by simp [Value.oneCell']) c HR8.out (fun q hq e => by have h1 := HLow.out q hq; have h2 := (Hu.out.lt q e).1; omega) Hz8.out hl1 hl2 ?_)
              apply Stop.go
              intro gL capL wL HL HbL HgL HwL
              go_wp2_with fail
              go_roundw
              case rel => exact ⟨k + 1, by omega, by go_num, by rw [Q1.out]; exact Hv8.out.keepLow HgL.out (fun q e => (Hu8.out.lt q e).1) Hap.out, by rw [Q2.out]; exact HL.out, Hap.out.grown (fun q e => (Hv8.out.lt q e).2) HwL.out.1, ⟨_, xn, xc, rfl, by rw [Q3.out]; exact Hx.out.1, Hx.out.2.1, by rw [Q3.out]; exact Hx.out.2.2⟩, (HB.out ▸ bt Hb3.out D8.out : Below B w3 w8).trans HbL.out⟩
              case measure => simp [intOf]; omega
          · obtain ⟨p1, p2, p3⟩ := HP1.out HbE.out rfl
            have Q1 := Lib.hid p1
            have Q2 := Lib.hid p2
            have Q3 := Lib.hid p3
            clear p1 p2
            rw [p3] at Hx
            clear p3
            have z2 : 0 < xn := by have := Hx.out.1; simp at this; omega
            have z3 : (0 : Int) < xn := by omega
            have d1 : decide (0 < xn) = true := by simpa using z2
            obtain ⟨ax, rfl, hy⟩ := Hx.out.2.2.int 0 (by simp)
            have cy : w4.cell? ax = some (.int .i64 c.id) := (D34.out.cell (block_lt_of_cell hy)).trans hy
            have cy0 : w4.cell? (ax.add 0) = some (.int .i64 c.id) := (D34.out.cell (block_lt_of_cell hy)).trans hy
            have e2 : (c.id == c.id) = true := by simp
            clear hy
            go_wp2_with fail
            go_quiet (fail)
            have D5 := Lib.hid (bt D4.out (bdrew w4 nq))
            have Hx5 := Lib.hid (Hb4.out.ext (bdrew w4 nq))
            generalize w4.drewN nq = w5 at *
            have Hex := Lib.hid (bt D5.out (bdrew w5 1))
            go_wp2_with fail
            refine WH.start (S := fun w' : World => Blk w' wr.heap.size 59 #[.int .i64 c.id, .int .i64 c.block, .int .i64 c.p.at_, .slice Ad nd cd, .slice Am nm cm]) [false, false, false, false, false, false, false, false] 8 rfl rfl (by kernel_rfl) (Hx5.out.ext (bdrew w5 1)) (fun hSn => ?_)
            obtain ⟨wS, hwS⟩ : ∃ x, w5.drew = x := ⟨_, rfl⟩
            rw [show w5.drewN 1 = wS from hwS] at Hex
            rw [hwS] at hSn ⊢
            clear hwS
            refine WH.take 0 _ ?_ rfl (by kernel_rfl) (fun _ _ _ h => h) rfl (by assumption) ?_ ?_; rotate_left; (focus (intro w hSw; (try dsimp only at hSw); (first | (go_simp; done) | (go_simp; with_reducible rfl)))); simp only [Act.put, List.setIfInBounds_toArray, List.set_cons_zero, List.set_cons_succ]
            refine WH.take 1 _ _ rfl (by kernel_rfl) (fun _ _ _ h => h) rfl (by assumption) (fun w' hSw => exec_load_blk _ _ rfl _ rfl _ _ (hSw) _ (Try.underlying59) rfl (Try.chgSize)) ?_; simp only [Act.put, List.setIfInBounds_toArray, List.set_cons_zero, List.set_cons_succ]
            refine WH.take 4 _ ?_ rfl (by kernel_rfl) (fun _ _ _ h => h) rfl (by assumption) ?_ ?_; rotate_left; (focus (intro w hSw; (try dsimp only at hSw); (first | (go_simp; done) | (go_simp; with_reducible rfl)))); simp only [Act.put, List.setIfInBounds_toArray, List.set_cons_zero, List.set_cons_succ]
            refine WH.take 5 _ _ rfl (by kernel_rfl) (fun _ _ _ h => h) rfl (by assumption) (fun w' hSw => exec_slice_tail _ _ _ rfl _ Try.underlying30 Try.intSizeR (some ax) xn xc rfl z2 Hx.out.2.1) ?_; simp only [Act.put, List.setIfInBounds_toArray, List.set_cons_zero, List.set_cons_succ]
            refine WH.only 2 _ rfl (by kernel_rfl) rfl (fun K hK => ?_)
            refine ow_build_row _ _ _ rfl Try.underlying26 5 72 _ Try.chgInfo (by decide) (by decide) #[.int .i64 c.id, .int .i64 c.block, .int .i64 c.p.at_, .slice Ad nd cd, .slice Am nm cm] rfl rfl ?_
            apply Stop.go
            intro wB HgB HbB
            have D8 := Lib.hid (bt Hex.out HgB.out.1)
            have Hu8 := Lib.hid (Hu.out.ext D8.out)
            have Hv8 := Lib.hid (Hv.out.ext D8.out)
            have HR8 := Lib.hid (show (RdLow B).R wB _ c from ⟨(Hcv.out.below D8.out).rd, HLow.out⟩)
            have Hz8 := Lib.hid (Nat.le_trans HzB.out D8.out.size)
            have hl1 : I1.length + 1 ≤ 140737488355328 := by have := HL1.out; omega
            have hl2 : (I1.length + 1) * 72 ≤ 140737488355328 := by have := HL1.out; omega
            have hSn := hSn.ext HgB.out.1; refine hK _ _ hSn ?_; clear hK; clear K; simp only [Act.put, List.setIfInBounds_toArray, List.set_cons_zero, List.set_cons_succ]
            refine WH.only 3 _ rfl (by kernel_rfl) rfl (fun K hK => ?_)
            refine ow_append_L (RdLow B) _ _ _ _ rfl Try.underlying26 5 72 _ Try.chgInfo rfl (by decide) B _ I1 rfl Hv8.out _ _ rfl HbB.out rfl (by simp [Value.oneCell']) c HR8.out (fun q hq e => by have h1 := HLow.out q hq; have h2 := (Hv.out.lt q e).1; omega) Hz8.out hl1 hl2 ?_
            apply Stop.go
            intro gL capL wL HL HbL HgL HwL
            have hSn := Blk.grown hSn HgL.out (fun e => by have := (Hv.out.lt _ e.symm).2; omega); refine hK _ _ hSn ?_; clear hK; clear K; simp only [Act.put, List.setIfInBounds_toArray, List.set_cons_zero, List.set_cons_succ]
            refine WH.take 6 _ ?_ rfl (by kernel_rfl) (fun _ _ _ h => h) rfl (by assumption) ?_ ?_; rotate_left; (focus (intro w hSw; (try dsimp only at hSw); (first | (go_simp; done) | (go_simp; with_reducible rfl)))); simp only [Act.put, List.setIfInBounds_toArray, List.set_cons_zero, List.set_cons_succ]
            refine WH.take 7 _ ?_ rfl (by kernel_rfl) (fun _ _ _ h => h) rfl (by assumption) ?_ ?_; rotate_left; (focus (intro w hSw; (try dsimp only at hSw); (first | (go_simp; done) | (go_simp; with_reducible rfl)))); simp only [Act.put, List.setIfInBounds_toArray, List.set_cons_zero, List.set_cons_succ]
            refine WH.done (by kernel_rfl) ?_
            go_wp2_with fail
            go_roundw
            case rel => exact ⟨k + 1, by omega, by go_num, by rw [Q1.out]; exact HL.out, by rw [Q2.out]; exact Hu8.out.keepLow HgL.out (fun q e => (Hv8.out.lt q e).1) Hap.out.symm, (Hap.out.symm.grown (fun q e => (Hu8.out.lt q e).2) HwL.out.1).symm, ⟨_, xn - 1, xc - 1, rfl, by have := Hx.out.1; simp at this; omega, by have := Hx.out.2.1; omega, RC.tail Hx.out.2.2 (by have h1 := Hx.out.1; have := Hx.out.2.1; rw [List.length_cons] at h1; omega)⟩, (HB.out ▸ bt Hb3.out D8.out : Below B w3 wB).trans HbL.out⟩
            case measure => simp [intOf]; omega
        · have e1 : (c.block != block) = true := by simpa using hb
          obtain ⟨p1, p2, p3⟩ := HP0.out hb
          have Q1 := Lib.hid p1
          have Q2 := Lib.hid p2
          have Q3 := Lib.hid p3
          clear p1 p2 p3 hb
          go_wp2_with fail
          go_roundw
          case rel => exact ⟨k + 1, by omega, by go_num, by rw [Q1.out]; exact Hv.out.ext D4.out, by rw [Q2.out]; exact Hu.out.ext D4.out, Hap.out, ⟨Ax, xn, xc, rfl, by rw [Q3.out]; exact Hx.out.1, Hx.out.2.1, by rw [Q3.out]; exact Hx.out.2.2⟩, HB.out ▸ D34.out⟩
          case measure => simp [intOf]; omega
      · have d0 : decide ((k : Int) < n) = false := by simpa using hlt
        rw [inK_all (by rw [Hn.out]; omega)] at Hv
        rw [outK_all (by rw [Hn.out]; omega)] at Hu
        obtain ⟨A1, c1, hv, a1, a2, a3⟩ := Hv.out.plain.read
        obtain ⟨A2, c2, hu, b1, b2, b3⟩ := Hu.out.plain.read
        subst hv; subst hu
        have Ha := Lib.hid (And.intro a1 (And.intro a2 a3))
        have Hb := Lib.hid (And.intro b1 (And.intro b2 b3))
        clear a1 a2 a3 b1 b2 b3
        go_wp2_with fail
        go_ret2
        refine ⟨_, _, _, _, _, _, rfl, ?_, ?_, bt Hw3.out Hb3.out⟩
        · rw [Hin.out]; exact ⟨rfl, Ha.out.1, Ha.out.2.1, Ha.out.2.2⟩
        · rw [Hout.out]; exact ⟨rfl, Hb.out.1, Hb.out.2.1, Hb.out.2.2⟩

end Go.Proofs.Ytckkdfpmibipfaa
