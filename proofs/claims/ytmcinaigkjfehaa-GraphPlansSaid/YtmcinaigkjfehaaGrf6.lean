/-
  What a writing is in memory; the contract of package graph's ask.
-/
import Derived.Test.YtmcinaigkjfehaaGrf5
import Derived.Test.YtmcinaigkjfehaaWaitC
namespace Go.Proofs.Ytmcinaigkjfehaa
open Go.RowKit

/-- The lists of a writing: of one those behind it, of a block the next ones, those taken up, and a row beside. -/
abbrev Ix := Nat ⊕ (Int ⊕ Bool)
def Ix.beh (k : Nat) : Ix := .inl k
def Ix.nx (b : Int) : Ix := .inr (.inl b)
def Ix.now : Ix := .inr (.inr false)
def Ix.row : Ix := .inr (.inr true)
theorem Ix.beh_nx (k : Nat) (b : Int) : Ix.beh k ≠ Ix.nx b := by simp [Ix.beh, Ix.nx]
theorem Ix.beh_now (k : Nat) : Ix.beh k ≠ Ix.now := by simp [Ix.beh, Ix.now]
theorem Ix.beh_row (k : Nat) : Ix.beh k ≠ Ix.row := by simp [Ix.beh, Ix.row]
theorem Ix.now_nx (b : Int) : Ix.now ≠ Ix.nx b := by simp [Ix.now, Ix.nx]
theorem Ix.row_nx (b : Int) : Ix.row ≠ Ix.nx b := by simp [Ix.row, Ix.nx]
theorem Ix.row_now : Ix.row ≠ Ix.now := by simp [Ix.row, Ix.now]
theorem Ix.nx_inj {b c : Int} (h : b ≠ c) : Ix.nx b ≠ Ix.nx c := by simp [Ix.nx, h]
/-- Where a writing's parts lie. -/
structure Gs where
  s : Nat
  d : Nat
  o : Nat
  h : Nat
  m : Nat
structure Gs.OK (g : Gs) (z B : Nat) : Prop where
  lo : z ≤ g.s ∧ z ≤ g.d ∧ z ≤ g.o ∧ z ≤ g.h ∧ z ≤ g.m
  hi : g.s < B ∧ g.d < B ∧ g.o < B ∧ g.h < B ∧ g.m < B
  sd : g.s ≠ g.d
  so : g.s ≠ g.o
  sh : g.s ≠ g.h
  sm : g.s ≠ g.m
  dO : g.d ≠ g.o
  dh : g.d ≠ g.h
  dm : g.d ≠ g.m
  oh : g.o ≠ g.h
  om : g.o ≠ g.m
  hm : g.h ≠ g.m
/-- The struct. -/
def wcells (g : Gs) (A : Option Addr) (n cap : Nat) : Array Value := #[.slice A n cap, .slice (some ⟨g.d, 0, none⟩) n n, .slice (some ⟨g.o, 0, none⟩) n n, .slice (some ⟨g.h, 0, none⟩) n n, .map (some g.m)]
def oz (O : Nat → Nat) (i : Nat) : Int := (O i : Int)
theorem oz_upd (O : Nat → Nat) (i x : Nat) : updF (oz O) i (x : Int) = oz (updF' O i x) := funext fun j => by
  unfold updF oz updF'
  split <;> rfl
/-- What the lists hold. -/
structure WX (X : Ix → List Int) (N : Int → List Nat) (H : Nat → List Nat) : Prop where
  beh : ∀ k, X (Ix.beh k) = ns (H k)
  nx : ∀ b, X (Ix.nx b) = ns (N b)
/-- A writing in memory. -/
structure WM (w0 w : World) (g : Gs) (A : Option Addr) (n cap B : Nat) (D : Nat → Bool) (O : Nat → Nat) (S : Ix → Value) (X : Ix → List Int) (m : Int → Option Value) (q : Nat) : Prop where
  low : Below w0.heap.size w0 w
  ok : g.OK w0.heap.size B
  bB : B ≤ w.heap.size
  st : Blk w g.s 68 (wcells g A n cap)
  dn : Blk w g.d 4 (fbools n D)
  op : Blk w g.o 3 (zc n (oz O))
  bh : Blk w g.h 28 (vc n fun k => S (Ix.beh k))
  fam : Fam w B 3 S X
  map : MapV w Try.prog 3 g.m q m
  mm : ∀ b, (m b).getD nilS = S (Ix.nx b)
section
variable {w0 w w' : World} {g : Gs} {A : Option Addr} {n cap B : Nat} {D : Nat → Bool} {O : Nat → Nat} {S : Ix → Value} {X : Ix → List Int} {m : Int → Option Value} {q : Nat}
theorem WM.ext (h : WM w0 w g A n cap B D O S X m q) (hb : Below w.heap.size w w') : WM w0 w' g A n cap B D O S X m q :=
  ⟨h.low.trans (hb.mono h.low.size), h.ok, Nat.le_trans h.bB hb.size, h.st.ext hb, h.dn.ext hb, h.op.ext hb, h.bh.ext hb, h.fam.ext hb, h.map.ext hb, h.mm⟩
theorem WM.mono_q (h : WM w0 w g A n cap B D O S X m q) : WM w0 w g A n cap B D O S X m (q + 1) :=
  ⟨h.low, h.ok, h.bB, h.st, h.dn, h.op, h.bh, h.fam, h.map.mono (Nat.le_succ q), h.mm⟩
/-- One list grows, or is put in another's place in its block. -/
theorem WM.put (h : WM w0 w g A n cap B D O S X m q) {i : Ix} {v : Value} {L : List Int} (hl : Lies w w' (S i) v) (ho : OwnC w' B 3 v (ivals L)) (hi : ∀ k, i ≠ Ix.beh k) (hb : ∀ b, i ≠ Ix.nx b) : WM w0 w' g A n cap B D O (updF S i v) (updF X i L) m q := by
  have hz : w0.heap.size ≤ B := by have := h.ok.lo; have := h.ok.hi; omega
  have hno : ∀ r, r < B → ∀ j, (S j).ownBlock ≠ some r := fun r hr => h.fam.no (Or.inl hr)
  have hB : Below B w w' := (Below.refl B w).grown hl.grown h.bB (fun k hk => (h.fam.lt i k hk).1)
  refine ⟨h.low.trans (hB.mono hz), h.ok, Nat.le_trans h.bB hB.size, h.st.below hB h.ok.hi.1, h.dn.below hB h.ok.hi.2.1, h.op.below hB h.ok.hi.2.2.1, ?_, h.fam.put hl ho, h.map.below hB h.ok.hi.2.2.2.2, fun b => ?_⟩
  · rw [vc_congr (fun k _ => updF_other S v (fun e => hi k e.symm))]
    exact h.bh.below hB h.ok.hi.2.2.2.1
  · rw [updF_other _ _ (fun e => hb b e.symm)]; exact h.mm b
theorem WM.zB (h : WM w0 w g A n cap B D O S X m q) : w0.heap.size ≤ B := by have := h.ok.lo; have := h.ok.hi; omega
/-- A store into one of its parts. -/
theorem WM.only {w1 : World} (h : WM w0 w g A n cap B D O S X m q) {x : Nat} (ho : Only w w1 x) (hx : x = g.d ∨ x = g.o) {D' : Nat → Bool} {O' : Nat → Nat} (hd : x = g.d → Blk w1 g.d 4 (fbools n D')) (hd0 : x ≠ g.d → D' = D) (hO : x = g.o → Blk w1 g.o 3 (zc n (oz O'))) (hO0 : x ≠ g.o → O' = O) : WM w0 w1 g A n cap B D' O' S X m q := by
  have hxB : x < B := by have := h.ok.hi; omega
  have hxz : w0.heap.size ≤ x := by have := h.ok.lo; omega
  have hxs : g.s ≠ x := by rcases hx with rfl | rfl; exact h.ok.sd; exact h.ok.so
  have hxh : g.h ≠ x := by rcases hx with rfl | rfl; exact h.ok.dh.symm; exact h.ok.oh.symm
  have hxm : g.m ≠ x := by rcases hx with rfl | rfl; exact h.ok.dm.symm; exact h.ok.om.symm
  refine ⟨h.low.trans (ho.below hxz), h.ok, Nat.le_trans h.bB (Nat.le_of_eq ho.size.symm), h.st.only ho hxs, ?_, ?_, h.bh.only ho hxh, h.fam.hi (HiS.of_only ho hxB), h.map.only ho hxm, h.mm⟩
  · by_cases e : x = g.d
    · exact hd e
    · rw [hd0 e]; exact h.dn.only ho (fun e2 => e e2.symm)
  · by_cases e : x = g.o
    · exact hO e
    · rw [hO0 e]; exact h.op.only ho (fun e2 => e e2.symm)
/-- One of those behind grows. -/
theorem WM.putBeh {w1 : World} (h : WM w0 w g A n cap B D O S X m q) {k : Nat} {v : Value} {L : List Int} (hl : Lies w w' (S (Ix.beh k)) v) (ho : OwnC w' B 3 v (ivals L)) (hs : Only w' w1 g.h) (hb : Blk w1 g.h 28 (vc n fun j => updF S (Ix.beh k) v (Ix.beh j))) : WM w0 w1 g A n cap B D O (updF S (Ix.beh k) v) (updF X (Ix.beh k) L) m q := by
  have hz := h.zB
  have hB : Below B w w' := (Below.refl B w).grown hl.grown h.bB (fun j hj => (h.fam.lt _ j hj).1)
  have hzh : w0.heap.size ≤ g.h := h.ok.lo.2.2.2.1
  refine ⟨(h.low.trans (hB.mono hz)).trans (hs.below hzh), h.ok, Nat.le_trans h.bB (Nat.le_trans hB.size (Nat.le_of_eq hs.size.symm)), (h.st.below hB h.ok.hi.1).only hs h.ok.sh, (h.dn.below hB h.ok.hi.2.1).only hs h.ok.dh, (h.op.below hB h.ok.hi.2.2.1).only hs h.ok.oh, hb, (h.fam.put hl ho).hi (HiS.of_only hs h.ok.hi.2.2.2.1), (h.map.below hB h.ok.hi.2.2.2.2).only hs h.ok.hm.symm, fun b => ?_⟩
  rw [updF_other _ _ (Ix.beh_nx k b).symm]
  exact h.mm b
theorem updF_beh (S : Ix → Value) (a : Nat) (v : Value) (k : Nat) : updF (fun k => S (Ix.beh k)) a v k = updF S (Ix.beh a) v (Ix.beh k) := by
  unfold updF
  by_cases h : k = a
  · subst h; rw [if_pos rfl, if_pos rfl]
  · rw [if_neg h, if_neg (by simpa [Ix.beh] using h)]
/-- A block's next ones are put in the map. -/
theorem WM.store (h : WM w0 w g A n cap B D O S X m q) {b : Int} {v : Value} {L : List Int} {w1 : World} (hl : Lies w w' (S (Ix.nx b)) v) (ho : OwnC w' B 3 v (ivals L)) (hm : MapV w1 Try.prog 3 g.m (q + 1) (updM m b (some v))) (hg : w'.grownBy w1 (some g.m)) : WM w0 w1 g A n cap B D O (updF S (Ix.nx b) v) (updF X (Ix.nx b) L) (updM m b (some v)) (q + 1) := by
  have hz : w0.heap.size ≤ B := by have := h.ok.lo; have := h.ok.hi; omega
  have hB : Below B w w' := (Below.refl B w).grown hl.grown h.bB (fun k hk => (h.fam.lt _ k hk).1)
  have hB1 : ∀ {x : Nat} {t : TypeId} {cs : Array Value}, x < B → x ≠ g.m → Blk w x t cs → Blk w1 x t cs := fun {x t cs} hx hne hblk =>
    (hg.block x (hblk.below hB hx).lt (fun e => by injection e with e; exact hne e)).trans (hblk.below hB hx)
  refine ⟨?_, h.ok, Nat.le_trans h.bB (Nat.le_trans hB.size hg.size), hB1 h.ok.hi.1 h.ok.sm h.st, hB1 h.ok.hi.2.1 h.ok.dm h.dn, hB1 h.ok.hi.2.2.1 h.ok.om h.op, ?_, (h.fam.put hl ho).hi (HiS.of_grown hg h.ok.hi.2.2.2.2), hm, fun c => ?_⟩
  · exact (h.low.trans (hB.mono hz)).grown hg (Nat.le_trans h.low.size hB.size) (fun k e => by injection e with e; have := h.ok.lo; omega)
  · rw [vc_congr (fun k _ => updF_other S v (Ix.beh_nx k b))]
    exact hB1 h.ok.hi.2.2.2.1 h.ok.hm h.bh
  · unfold updM
    by_cases e : c = b
    · subst e; rw [if_pos rfl, updF_same]; rfl
    · rw [if_neg e, updF_other _ _ (Ix.nx_inj e)]; exact h.mm c
end

set_option maxRecDepth 100000 in
set_option maxHeartbeats 16000000 in
theorem ask_any (w0 : World) (g : Gs) (ad : Addr) (n cap B : Nat) (D : Nat → Bool) (O : Nat → Nat) (S : Ix → Value) (X : Ix → List Int) (m : Int → Option Value) (q : Nat) (l : List Cg) (hl : l.length = n) (hr : RdL RdC w0 (some ad) 5 l) (a : Nat) (ha : a < n) (hq : q ≤ 1000000000) (hX : (X (Ix.nx (cgA l a).block)).length ≤ 4096) (w : World) (hM : WM w0 w g (some ad) n cap B D O S X m q) :
    Calls Try.prog 59 #[.pointer (some ⟨g.s, 0, none⟩), .int .i64 a] w fun e w' => e = .returned (.tuple #[]) ∧ ∃ S' X' m', WM w0 w' g (some ad) n cap B D O S' X' m' (q + 1) ∧ (X' = if O a = 0 then updF X (Ix.nx (cgA l a).block) (X (Ix.nx (cgA l a).block) ++ [(a : Int)]) else X) ∧ (∀ k, S' (Ix.beh k) = S (Ix.beh k)) ∧ S' Ix.now = S Ix.now ∧ S' Ix.row = S Ix.row ∧ Turns (fun r => r = g.m) w w' S S' := by
  have HM := Lib.hid hM
  have hal : a < l.length := by omega
  obtain ⟨ad', Ad, nd, cd, An, nn, cn, e', hcv, h0, h1, _, _, _⟩ := (hr.below hM.low).cgk hal
  injection e' with e'
  subst e'
  have C1 := Lib.hid (cell_off h0 h1)
  have Hwb := Lib.hid (wf_int hcv.lo1 hcv.hi1)
  have c2 : w.cell? ⟨g.s, 2, none⟩ = some (.slice (some ⟨g.o, 0, none⟩) n n) := hM.st.cell 2
  have co : w.cell? ⟨g.o, a, none⟩ = some (.int .i64 (O a : Int)) := by rw [hM.op.cell, zc_get _ ha]; rfl
  have z1 : (a : Int) < n := by omega
  have HX := Lib.hid hX
  clear hr hM h0 h1 hcv hX
  obtain ⟨b, hb⟩ : ∃ b, (cgA l a).block = b := ⟨_, rfl⟩
  rw [hb] at C1 Hwb HX ⊢
  clear hb
  by_cases hO : O a = 0
  · rw [hO] at co
    rw [if_pos hO]
    clear hO
    go_enter Try.func59, Try.ntmps59
    have c0 : w.cell? ⟨g.s, 0, none⟩ = some (.slice (some ad) n cap) := HM.out.st.cell 0
    have k1 := C1.out
    have Hex := Lib.hid (bdrew w 1)
    go_wp2_with fail
    refine WH.start (S := fun w' : World => Blk w' g.s 68 (wcells g (some ad) n cap)) [false, false, false, false, false, false, false, false, false, false, false, false, false, false, false] 15 rfl rfl (by kernel_rfl) (HM.out.st.ext (bdrew w 1)) (fun hSn => ?_)
    obtain ⟨wS, hwS⟩ : ∃ x, w.drew = x := ⟨_, rfl⟩
    rw [show w.drewN 1 = wS from hwS] at Hex
    rw [hwS] at hSn ⊢
    clear hwS
    have HMS := Lib.hid (HM.out.ext Hex.out)
    have hl1 : (X (Ix.nx b)).length + 1 ≤ maxLen := by have := HX.out; unfold maxLen; omega
    have hl2 : ((X (Ix.nx b)).length + 1) * 8 ≤ 140737488355328 := by have := HX.out; omega
    have hqm : q < maxLen := by unfold maxLen; omega
    clear c0 c2 co k1 C1
    refine WH.take 0 _ ?_ rfl (by kernel_rfl) (fun _ _ _ h => h) rfl (by assumption) ?_ ?_; rotate_left; (focus (intro w hSw; (try dsimp only at hSw); (first | (go_simp; done) | (go_simp; with_reducible rfl)))); simp only [Act.put, List.setIfInBounds_toArray, List.set_cons_zero, List.set_cons_succ]
    refine WH.take 1 _ ?_ rfl (by kernel_rfl) (fun _ _ _ h => h) rfl (by assumption) ?_ ?_; rotate_left; (focus (intro w hSw; (try dsimp only at hSw); (first | (go_simp; done) | (go_simp; with_reducible rfl)))); simp only [Act.put, List.setIfInBounds_toArray, List.set_cons_zero, List.set_cons_succ]
    refine WH.take 2 _ ?_ rfl (by kernel_rfl) (fun _ _ _ h => h) rfl (by assumption) ?_ ?_; rotate_left; (focus (intro w hSw; (try dsimp only at hSw); (first | (go_simp; done) | (go_simp; with_reducible rfl)))); simp only [Act.put, List.setIfInBounds_toArray, List.set_cons_zero, List.set_cons_succ]
    refine WH.take 3 _ _ rfl (by kernel_rfl) (fun _ _ _ h => h) rfl (by assumption) (fun w' hSw => exec_load_cell _ _ rfl _ rfl (.map (some g.m)) (hSw.cell 4) _ (Try.underlying66) rfl) ?_; simp only [Act.put, List.setIfInBounds_toArray, List.set_cons_zero, List.set_cons_succ]
    refine WH.take 4 _ ?_ rfl (by kernel_rfl) (fun _ _ _ h => h) rfl (by assumption) ?_ ?_; rotate_left; (focus (intro w hSw; (try dsimp only at hSw); (first | (go_simp; done) | (go_simp; with_reducible rfl)))); simp only [Act.put, List.setIfInBounds_toArray, List.set_cons_zero, List.set_cons_succ]
    refine WH.take 5 _ ?_ rfl (by kernel_rfl) (fun _ _ _ h => h) rfl (by assumption) ?_ ?_; rotate_left; (focus (intro w hSw; (try dsimp only at hSw); (first | (go_simp; done) | (go_simp; with_reducible rfl)))); simp only [Act.put, List.setIfInBounds_toArray, List.set_cons_zero, List.set_cons_succ]
    refine WH.take 6 _ ?_ rfl (by kernel_rfl) (fun _ _ _ h => h) rfl (by assumption) ?_ ?_; rotate_left; (focus (intro w hSw; (try dsimp only at hSw); (first | (go_simp; done) | (go_simp; with_reducible rfl)))); simp only [Act.put, List.setIfInBounds_toArray, List.set_cons_zero, List.set_cons_succ]
    refine WH.take 7 _ ?_ rfl (by kernel_rfl) (fun _ _ _ h => h) rfl (by assumption) ?_ ?_; rotate_left; (focus (intro w hSw; (try dsimp only at hSw); (first | (go_simp; done) | (go_simp; with_reducible rfl)))); simp only [Act.put, List.setIfInBounds_toArray, List.set_cons_zero, List.set_cons_succ]
    refine WH.take 8 _ _ rfl (by kernel_rfl) (fun _ _ _ h => h) rfl (by assumption) (fun w' hSw => exec_load_cell _ _ rfl _ rfl (.map (some g.m)) (hSw.cell 4) _ (Try.underlying66) rfl) ?_; simp only [Act.put, List.setIfInBounds_toArray, List.set_cons_zero, List.set_cons_succ]
    refine WH.take 9 _ ?_ rfl (by kernel_rfl) (fun _ _ _ h => h) rfl (by assumption) ?_ ?_; rotate_left; (focus (intro w hSw; (try dsimp only at hSw); (first | (go_simp; done) | (go_simp; with_reducible rfl)))); simp only [Act.put, List.setIfInBounds_toArray, List.set_cons_zero, List.set_cons_succ]
    refine WH.take 11 _ ?_ rfl (by kernel_rfl) (fun _ _ _ h => h) rfl (by assumption) ?_ ?_; rotate_left; (focus (intro w hSw; (try dsimp only at hSw); (first | (go_simp; done) | (go_simp; with_reducible rfl)))); simp only [Act.put, List.setIfInBounds_toArray, List.set_cons_zero, List.set_cons_succ]
    refine WH.readBuild 10 12 _ _ rfl rfl (S (Ix.nx b)) _ _ _ rfl Try.underlying28 (.int .i64 0) 8 Try.infoInt (a : Int) rfl rfl (by kernel_rfl) (by kernel_rfl) (by kernel_rfl) rfl rfl (fun _ => rfl) rfl (by decide) (fun _ => rfl) hSn (fun w1 h => hSn.ext h.1) (by rw [← HM.out.mm b]; exact exec_lookV _ _ _ rfl _ _ Try.underlying3 Try.underlying66 Try.intsZeroG rfl HMS.out.map b rfl Hwb.out) (fun u w1 h => by rw [← HM.out.mm b]; exact exec_lookV _ _ _ rfl _ _ Try.underlying3 Try.underlying66 Try.intsZeroG rfl (HMS.out.map.ext h.1) b rfl Hwb.out) ?_
    apply Stop.go
    intro wB HgB HbB
    have HMB := Lib.hid (HMS.out.ext HgB.out.1)
    refine WH.only 13 _ rfl (by kernel_rfl) rfl (fun K hK => ?_)
    refine ow_append_int _ _ _ _ rfl Try.underlying28 (.int .i64 0) 8 Try.infoInt rfl B (S (Ix.nx b)) (X (Ix.nx b)) rfl (HMB.out.fam.own _) (a : Int) _ rfl _ HbB.out HMB.out.bB hl1 hl2 ?_
    apply Stop.go
    intro v' w6 Hv' Ha' Hl'
    have HMp : Hid (MapV w6 Try.prog 3 g.m q m) := Lib.hid (HMB.out.map.below Ha'.out.below HMB.out.ok.hi.2.2.2.2)
    have HT := Lib.hid ((Turns.of_below (fun r => r = g.m) S (bt Hex.out HgB.out.1)).trans (Turns.of_lies _ Hl'.out))
    have hSn := Hl'.out.blk (hSn.ext HgB.out.1) (HMB.out.fam.no (Or.inl HMB.out.ok.hi.1) _); refine hK _ _ hSn ?_; clear hK; clear K; simp only [Act.put, List.setIfInBounds_toArray, List.set_cons_zero, List.set_cons_succ]
    refine WH.only 14 _ rfl (by kernel_rfl) rfl (fun K hK => ?_)
    refine ow_mapV_store _ _ _ _ rfl _ _ Try.underlying3 Try.underlying66 rfl HMp.out hqm b rfl Hwb.out v' rfl ?_
    apply Stop.go
    intro w7 Hm7 Hg7
    have HM7 := Lib.hid (HMB.out.store Hl'.out Hv'.out Hm7.out Hg7.out)
    have hSn := HM7.out.st; refine hK _ _ hSn ?_; clear hK; clear K; simp only [Act.put, List.set_cons_zero, List.set_cons_succ]
    refine WH.done (by kernel_rfl) ?_
    go_wp2_with fail
    go_end0
    exact ⟨rfl, _, _, _, HM7.out, rfl, fun k => updF_other _ _ (Ix.beh_nx k b), updF_other _ _ (Ix.now_nx b), updF_other _ _ (Ix.row_nx b), HT.out.trans (Turns.of_grown _ Hg7.out (show (fun r => r = g.m) g.m from rfl))⟩
  · rw [if_neg hO]
    have d0 : ((O a : Int) == 0) = false := by simpa using hO
    have d1 : decide ((O a : Int) = 0) = false := by simpa using hO
    go_enter Try.func59, Try.ntmps59
    go_wp2_with fail
    go_end0
    exact ⟨rfl, S, X, m, HM.out.mono_q, rfl, fun _ => rfl, rfl, rfl, Turns.refl _ _ _⟩

end Go.Proofs.Ytmcinaigkjfehaa
